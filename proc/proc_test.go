package proc

import (
	"reflect"
	"slices"
	"strings"
	"testing"

	"narthex/api"
	"narthex/meter"
	"narthex/pump"
)

var roomy = api.Cfg{MaxSize: 10000, MaxOut: 10000, MaxDepth: 20, MaxAttrs: 20, MaxFetch: 10, MaxBytes: 1000, Allow: []string{"a://b/*"}}

func ok(id, data string) api.Answer { return api.Answer{ID: id, OK: true, Data: []byte(data)} }

var script = []api.Answer{ok("a://b/o", "<?xml encoding='utf-8'?>o\r\n<q/>"), ok("a://b/p", "<!ENTITY x 'px'><!ATTLIST d e CDATA '&x;'>"), ok("a://c/secret", "secret"), {ID: "a://b/no"}, ok("a://b/loop", "&loop;"), ok("a://b/utf", "\xFF"), ok("a://b/half", "<a>")}

func start(space, local string, attrs ...string) api.Event {
	e := api.Event{Kind: api.Start, Name: api.Name{Space: space, Local: local}}
	for i := 0; i < len(attrs); i += 3 {
		e.Attrs = append(e.Attrs, api.Attr{Name: api.Name{Space: attrs[i], Local: attrs[i+1]}, Value: attrs[i+2]})
	}
	return e
}
func end(space, local string) api.Event {
	return api.Event{Kind: api.End, Name: api.Name{Space: space, Local: local}}
}
func text(s string) api.Event    { return api.Event{Kind: api.Text, Text: s} }
func comment(s string) api.Event { return api.Event{Kind: api.Comment, Text: s} }
func pi(target, s string) api.Event {
	return api.Event{Kind: api.Pi, Name: api.Name{Local: target}, Text: s}
}

func TestP39_1Class(t *testing.T) {
	want := []int{None, Config, Config, Config, Config, Malformed, Malformed, Malformed, Recursive, Namespace, Fetch, Limit, Malformed, Config, Config, Config}
	for e, class := range want {
		if Class(api.Errno(e)) != class {
			t.Error(e, Class(api.Errno(e)))
		}
	}
	if Class(-1) != Config || Class(99) != Config || None != 0 || Malformed != 1 || Recursive != 2 || Namespace != 3 || Fetch != 4 || Limit != 5 || Config != 6 {
		t.Error("numbers")
	}
}

func TestP39_2Events(t *testing.T) {
	rows := []struct {
		doc  string
		want []api.Event
	}{
		{`<a b="1">x&lt;</a>`, []api.Event{start("", "a", "", "b", "1"), text("x<"), end("", "a")}},
		{"\xEF\xBB\xBF<?xml version='1.0'?>\r\n<!--c--><?p q?><a/><?r?>\n<!--d-->", []api.Event{comment("c"), pi("p", "q"), start("", "a"), end("", "a"), pi("r", ""), comment("d")}},
		{"<p:a xmlns:p='u' p:b='1' c='2' xml:d='3'><e xmlns='v'><f xmlns=''/></e></p:a>", []api.Event{start("u", "a", "u", "b", "1", "", "c", "2", api.XmlSpace, "d", "3"), start("v", "e"), start("", "f"), end("", "f"), end("v", "e"), end("u", "a")}},
		{"<!DOCTYPE a [<!ENTITY x 'y<b/>&z;'><!ENTITY z 'w'><!ATTLIST b xmlns CDATA 'u' c NMTOKENS ' 1  2 '>]><a>&#65;<![CDATA[&]]>&x;\r</a>", []api.Event{start("", "a"), text("A&y"), start("u", "b", "", "c", "1 2"), end("u", "b"), text("w\n"), end("", "a")}},
		{"<!DOCTYPE a [<!ENTITY o SYSTEM 'a://b/o'><!ENTITY % p SYSTEM 'a://b/p'>%p;]><a>&o;<d/>&o;&x;</a>", []api.Event{start("", "a"), text("o\n"), start("", "q"), end("", "q"), start("", "d", "", "e", "px"), end("", "d"), text("o\n"), start("", "q"), end("", "q"), text("px"), end("", "a")}},
		{"<!DOCTYPE a SYSTEM 'a://b/never'><a><![CDATA[]]></a>", []api.Event{start("", "a"), end("", "a")}},
	}
	for _, x := range rows {
		r := Process([]byte(x.doc), roomy, script)
		if r.E != api.OK || r.Class != None || !reflect.DeepEqual(r.Events, x.want) {
			t.Errorf("%s: %d %v", x.doc, r.E, r.Events)
		}
		if slices.Contains(r.Trace, "a://b/never") {
			t.Error("an external subset is not fetched")
		}
	}
}

func typed(decls, rest string) string { return "<!DOCTYPE a [" + decls + "]>" + rest }

func TestP39_2Errors(t *testing.T) {
	rows := []struct {
		doc    string
		e      api.Errno
		events int
	}{
		{"<a>\xFF</a>", api.ErrUtf, 0}, {"<a>\x01</a>", api.ErrChar, 0}, {"<a", api.ErrForm, 0}, {"", api.ErrForm, 0}, {"<a b='' b=''/>", api.ErrTwice, 0}, {"<a></b>", api.ErrForm, 0}, {"<!--c--><a/><b/>", api.ErrForm, 0}, {"<a>&none;</a>", api.ErrForm, 1},
		{typed("<!ENTITY l '&l;'>", "<a/>"), api.ErrLoop, 0}, {typed("<!ENTITY l '&l;'>", "<a"), api.ErrLoop, 0}, {typed("<!ENTITY l SYSTEM 'a://b/loop'>", "<a/>"), api.OK, 2}, {typed("<!ENTITY loop SYSTEM 'a://b/loop'>", "<a>&loop;</a>"), api.ErrLoop, 1},
		{"<p:a/>", api.ErrSpace, 0}, {"<a p:b=''/>", api.ErrSpace, 0}, {"<!--c--><a xmlns:p=''/>", api.ErrSpace, 1}, {"<a xmlns:p='u' xmlns:q='u' p:b='' q:b=''/>", api.ErrSpace, 0}, {"<a>x<b:c/></a>", api.ErrSpace, 1}, {"<a:b:c/>", api.ErrSpace, 0},
		{typed("<!ENTITY o SYSTEM 'a://c/secret'>", "<a>&o;</a>"), api.ErrFetch, 1}, {typed("<!ENTITY o SYSTEM 'a://b/no'>", "<a>&o;</a>"), api.ErrFetch, 1}, {typed("<!ENTITY o SYSTEM 'a://b/utf'>", "<a>&o;</a>"), api.ErrUtf, 1}, {typed("<!ENTITY o SYSTEM 'a://b/half'>", "<a>x&o;</a>"), api.ErrForm, 1}, {typed("<!ENTITY % o SYSTEM 'a://c/secret'>%o;", "<a/>"), api.ErrFetch, 0},
		{typed("<!ATTLIST b c CDATA '&none;'>", "<a/>"), api.ErrForm, 0}, {typed("<!ENTITY o SYSTEM 'a://b/o'>", "<a b='&o;'/>"), api.ErrForm, 0},
	}
	for _, x := range rows {
		n := 0
		r := Walk([]byte(x.doc), roomy, script, func(api.Event) api.Errno { n++; return api.OK })
		if r.E != x.e || r.Class != Class(x.e) || n != x.events || len(r.Events) != 0 {
			t.Errorf("%s: %d, %d events", x.doc, r.E, n)
		}
		if p := Process([]byte(x.doc), roomy, script); p.E != x.e || x.e != api.OK && len(p.Events) != 0 {
			t.Errorf("%s: %d %v", x.doc, p.E, p.Events)
		}
	}
}

func TestP39_2Config(t *testing.T) {
	bad := roomy
	bad.MaxSize = -1
	wrong := roomy
	wrong.Allow = []string{"wrong"}
	many := roomy
	many.Allow = slices.Repeat([]string{"a://b"}, 65)
	yes := func(api.Event) api.Errno { return api.OK }
	rows := []struct {
		c api.Cfg
		s []api.Answer
		y func(api.Event) api.Errno
		e api.Errno
	}{{bad, make([]api.Answer, 300), nil, api.ErrArg}, {wrong, nil, nil, api.ErrForm}, {many, nil, nil, api.ErrBig}, {roomy, make([]api.Answer, 300), nil, api.ErrBig}, {roomy, nil, nil, api.ErrNil}, {roomy, nil, yes, api.ErrForm}}
	for i, x := range rows {
		r := Walk([]byte("<"), x.c, x.s, x.y)
		want := Result{E: x.e, Class: Class(x.e)}
		if i == 5 {
			want.Work = 1
		}
		if len(r.Trace) != 0 {
			t.Error(r.Trace)
		}
		r.Trace = nil
		if !reflect.DeepEqual(r, want) {
			t.Error(i, r)
		}
	}
}

func TestP39_2Yield(t *testing.T) {
	n := 0
	r := Walk([]byte("<a>x<b/></a>"), roomy, nil, func(e api.Event) api.Errno {
		n++
		if n == 2 {
			return api.ErrSpace
		}
		return api.OK
	})
	if n != 2 || r.E != api.ErrSpace || r.Class != Namespace || r.Out != 2 || r.Work != 12+2 {
		t.Error(n, r)
	}
}

func TestP39_3BesideIt(t *testing.T) {
	doc := typed("<!ENTITY x 'yy'><!ENTITY o SYSTEM 'a://b/o'>", "<a b='&x;'>&o;&x;</a>")
	r := Process([]byte(doc), roomy, script)
	// a b yy a, o line feed, q q, yy; internal entities 2 and 2, the text from outside 6
	if r.E != api.OK || !slices.Equal(r.Trace, []string{"a://b/o"}) || r.Read != len(script[0].Data) || r.Spent != 2+2+6 || r.Out != 1+1+2+2+1+1+2+1 || r.Work != len(doc)+r.Read+r.Spent+7 {
		t.Error(r)
	}
}

// limits takes one less of each limit than a document needs, and just as much.
func TestP39_2JustEnough(t *testing.T) {
	doc := typed("<!ENTITY x 'y'><!ENTITY o SYSTEM 'a://b/o'><!ATTLIST b z CDATA '1'>", "<a><b c='&x;'>&o;</b></a>")
	just := api.Cfg{MaxSize: 1 + 1 + 6, MaxOut: 1 + 1 + 1 + 1 + 1 + 1 + 2 + 1 + 1 + 1 + 1, MaxDepth: 3, MaxAttrs: 2, MaxFetch: 1, MaxBytes: len(script[0].Data), Allow: []string{"a://b/*"}}
	full := Process([]byte(doc), just, script)
	if full.E != api.OK || full.Spent != just.MaxSize || full.Out != just.MaxOut {
		t.Fatal(full)
	}
	more := Process([]byte(doc), roomy, script)
	if !reflect.DeepEqual(full, more) {
		t.Error("with more room it is the same")
	}
	less := []func(*api.Cfg){func(c *api.Cfg) { c.MaxSize-- }, func(c *api.Cfg) { c.MaxOut-- }, func(c *api.Cfg) { c.MaxDepth-- }, func(c *api.Cfg) { c.MaxAttrs-- }, func(c *api.Cfg) { c.MaxFetch-- }, func(c *api.Cfg) { c.MaxBytes-- }}
	for i, f := range less {
		c := just
		f(&c)
		var events []api.Event
		r := Walk([]byte(doc), c, script, func(e api.Event) api.Errno { events = append(events, e); return api.OK })
		if r.E != api.ErrLimit || r.Class != Limit {
			t.Error(i, r)
		}
		if len(events) > len(full.Events) || len(events) > 0 && !reflect.DeepEqual(events, full.Events[:len(events)]) {
			t.Error(i, events)
		}
	}
}

func TestP39_4Pump(t *testing.T) {
	doc := []byte("<a>x<b/>y</a>")
	want := Process(doc, roomy, nil).Events
	for _, room := range []int{0, 1, 100} {
		p, e := Pump(doc, roomy, nil, room)
		if e != api.OK {
			t.Fatal(e)
		}
		if got := pump.Slice(p, 100); !reflect.DeepEqual(got, want) {
			t.Error(got)
		}
		if e, over := p.End(); e != api.OK || !over {
			t.Error(e, over)
		}
	}
	p, _ := Pump(doc, roomy, nil, 0)
	p.Next()
	p.Stop()
	if e, over := p.End(); e != api.ErrDone || !over {
		t.Error(e, over)
	}
	if p, e := Pump(doc, roomy, nil, -1); p != nil || e != api.ErrArg {
		t.Error(e)
	}
	p, _ = Pump([]byte("<a>&none;</a>"), roomy, nil, 3)
	if got := pump.Slice(p, 9); len(got) != 1 {
		t.Error(got)
	}
	if e, _ := p.End(); e != api.ErrForm {
		t.Error(e)
	}
	bad := roomy
	bad.MaxOut = -1
	p, e := Pump(doc, bad, nil, 3)
	if got := pump.Slice(p, 9); len(got) != 0 || e != api.OK {
		t.Error(got, e)
	}
	if e, _ := p.End(); e != api.ErrArg {
		t.Error(e)
	}
}

func TestP39_4PumpKeepsItsOwn(t *testing.T) {
	doc := []byte(typed("<!ENTITY o SYSTEM 'a://b/t'>", "<a>&o;</a>"))
	c := roomy
	c.Allow = []string{"a://b/*"}
	s := []api.Answer{ok("a://b/t", "told")}
	p, _ := Pump(doc, c, s, 0)
	doc[len(doc)-2], c.Allow[0], s[0].Data[0], s[0].ID = 'z', "x", 'X', "y"
	got := pump.Slice(p, 9)
	if len(got) != 3 || got[1].Text != "told" {
		t.Error(got)
	}
}

func TestP39_5Bounds(t *testing.T) {
	docs := []string{"", "<a/>", "<a>&none;</a>", typed("<!ENTITY x 'yyyyyyyy'>", "<a>&x;&x;&x;<b c='&x;'/></a>"), typed("<!ENTITY o SYSTEM 'a://b/o'>", "<a>&o;&o;&o;&o;</a>"), typed("<!ENTITY o SYSTEM 'a://b/o'><!ENTITY % p SYSTEM 'a://b/p'>%p;%p;", "<d>&o;&x;</d>"), "<a><b/><b/><b/>x<!--c--></a>"}
	for _, doc := range docs {
		for n := range 40 {
			c := api.Cfg{MaxSize: n, MaxOut: n, MaxDepth: 9, MaxAttrs: 9, MaxFetch: n / 10, MaxBytes: n * 2, Allow: []string{"a://b/*"}}
			r := Process([]byte(doc), c, script)
			if r.Work > meter.Bound(c, len(doc)) || r.Out > c.MaxOut || r.Spent > c.MaxSize || r.Read > c.MaxBytes || len(r.Trace) > c.MaxFetch {
				t.Error(doc, n, r)
			}
			blind := slices.DeleteFunc(slices.Clone(script), func(a api.Answer) bool { return strings.HasPrefix(a.ID, "a://c") })
			if again := Process([]byte(doc), c, blind); !reflect.DeepEqual(again, r) {
				t.Error(doc, n, again)
			}
		}
	}
}

func TestP39_6Ahead(t *testing.T) {
	doc := typed("<!ENTITY x 'yy'><!ENTITY z '&x;&x;'><!ENTITY o SYSTEM 'a://b/o'>", "<!--c--><a>&o;<b c='&x;'>&z;</b></a>")
	for n := range 2 + 6 + 4 {
		c := roomy
		c.MaxSize = n
		called := 0
		r := Walk([]byte(doc), c, script, func(api.Event) api.Errno { called++; return api.OK })
		if r.E != api.ErrLimit || called != 0 || len(r.Trace) != 0 || r.Spent != 0 {
			t.Error(n, r, called)
		}
	}
}
