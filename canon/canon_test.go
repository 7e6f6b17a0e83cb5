package canon

import (
	"reflect"
	"strings"
	"testing"

	"narthex/api"
	"narthex/check"
	"narthex/proc"
)

func full(space, local string) api.Name { return api.Name{Space: space, Local: local} }
func start(space, local string, l ...string) api.Event {
	e := api.Event{Kind: api.Start, Name: full(space, local)}
	for i := 0; i < len(l); i += 3 {
		e.Attrs = append(e.Attrs, api.Attr{Name: full(l[i], l[i+1]), Value: l[i+2]})
	}
	return e
}
func end(space, local string) api.Event { return api.Event{Kind: api.End, Name: full(space, local)} }
func text(s string) api.Event           { return api.Event{Kind: api.Text, Text: s} }
func comment(s string) api.Event        { return api.Event{Kind: api.Comment, Text: s} }
func pi(target, s string) api.Event {
	return api.Event{Kind: api.Pi, Name: full("", target), Text: s}
}

func TestP41_1One(t *testing.T) {
	rows := []struct {
		e            api.Event
		space        string
		want, within string
	}{
		{text("a<\"\n"), "d", "a&lt;&quot;&#10;", "d"}, {comment("c"), "d", "<!--c-->", "d"}, {pi("p", ""), "d", "<?p?>", "d"}, {pi("p", "q"), "", "<?p q?>", ""}, {end("u", "a"), "d", "</a>", "d"}, {end(api.XmlSpace, "a"), "d", "</xml:a>", "d"},
		{start("", "a"), "", "<a>", ""}, {start("u", "a"), "u", "<a>", "u"}, {start("u", "a"), "", `<a xmlns="u">`, "u"}, {start("", "a"), "u", `<a xmlns="">`, ""}, {start(api.XmlSpace, "a"), "d", "<xml:a>", "d"}, {start("u<\"", "a"), "d", `<a xmlns="u&lt;&quot;">`, "u<\""},
		{start("u", "a", "v", "b", "1"), "", `<a xmlns="u" xmlns:n0="v" n0:b="1">`, "u"}, {start("", "a", "w", "b", "1", "", "c", "<", api.XmlSpace, "d", "3", "v", "e", "", "w", "f", "4"), "", `<a xmlns:n0="w" xmlns:n1="v" n0:b="1" c="&lt;" xml:d="3" n1:e="" n0:f="4">`, ""}, {start("u", "a", "u", "b", "1"), "u", `<a xmlns:n0="u" n0:b="1">`, "u"},
		{api.Event{}, "d", "", "d"}, {api.Event{Kind: 6, Text: "x"}, "d", "", "d"},
	}
	for _, x := range rows {
		if s, within := One(x.e, x.space); s != x.want || within != x.within {
			t.Errorf("%v: %s %q", x.e, s, within)
		}
	}
}

func TestP41_2Put(t *testing.T) {
	l := []api.Event{comment("c"), start("u", "a", "v", "b", "1"), start("u", "c"), text("x"), end("u", "c"), start("", "d"), start("", "e"), end("", "e"), end("", "d"), start("u", "f"), end("u", "f"), start(api.XmlSpace, "g"), start("u", "h"), end("u", "h"), end(api.XmlSpace, "g"), end("u", "a"), pi("p", "q")}
	want := `<!--c--><a xmlns="u" xmlns:n0="v" n0:b="1"><c>x</c><d xmlns=""><e></e></d><f></f><xml:g><h></h></xml:g></a><?p q?>`
	if s, e := Put(l); s != want || e != api.OK {
		t.Error(s, e)
	}
	most := strings.Repeat("n", 1024)
	bad := []struct {
		l []api.Event
		e api.Errno
	}{
		{nil, api.ErrForm}, {[]api.Event{start("", "a")}, api.ErrForm}, {[]api.Event{{}}, api.ErrArg}, {[]api.Event{start(api.XmlnsSpace, "a"), end(api.XmlnsSpace, "a")}, api.ErrSpace}, {[]api.Event{start("", most+"n"), end("", most+"n")}, api.ErrLimit},
		{[]api.Event{start(api.XmlSpace, most), end(api.XmlSpace, most)}, api.ErrLimit}, {[]api.Event{start("", "a", "u", most[3:]+"n", ""), end("", "a")}, api.ErrLimit}, {[]api.Event{start("", "a", api.XmlSpace, most[3:], ""), end("", "a")}, api.ErrLimit},
	}
	for i, x := range bad {
		if s, e := Put(x.l); s != "" || e != x.e {
			t.Error(i, e)
		}
	}
	for i, l := range [][]api.Event{{start("", most), end("", most)}, {start(api.XmlSpace, most[4:]), end(api.XmlSpace, most[4:])}, {start("", "a", "u", most[3:], "", "", most, "", api.XmlSpace, most[4:], ""), end("", "a")}, {start("u", most), end("u", most)}} {
		if _, e := Put(l); e != api.OK {
			t.Error(i, e)
		}
	}
	// ten namespaces, so that a number has two digits
	wide := start("", "a")
	for i := range 11 {
		wide.Attrs = append(wide.Attrs, api.Attr{Name: full(strings.Repeat("u", i+1), "b")})
	}
	wide.Attrs[10].Name.Local = most[3:]
	if _, e := Put([]api.Event{wide, end("", "a")}); e != api.ErrLimit {
		t.Error(e)
	}
}

func TestP41_3Room(t *testing.T) {
	rows := []struct {
		l    []api.Event
		want api.Cfg
	}{
		{nil, api.Cfg{}}, {[]api.Event{comment("abc")}, api.Cfg{MaxOut: 3}}, {[]api.Event{start("u", "a"), end("u", "a")}, api.Cfg{MaxOut: 4, MaxDepth: 1, MaxAttrs: 1}}, {[]api.Event{start("", "a", "v", "b", "12"), start("", "c"), end("", "c"), start("", "c", "", "d", "", "", "e", ""), end("", "c"), end("", "a")}, api.Cfg{MaxOut: 5 + 1 + 1 + 3 + 1 + 1, MaxDepth: 2, MaxAttrs: 5}}, {[]api.Event{end("", "a"), end("", "a"), start("", "a")}, api.Cfg{MaxOut: 3, MaxAttrs: 1}},
	}
	for i, x := range rows {
		if c := Room(x.l); !reflect.DeepEqual(c, x.want) {
			t.Error(i, c)
		}
	}
}

func TestP41_4ThereAndBack(t *testing.T) {
	c := api.Cfg{MaxSize: 1000, MaxOut: 1000, MaxDepth: 9, MaxAttrs: 9}
	docs := []string{
		"<a/>", "<!--c--><?p q?><a>x&lt;&#13;\n\t<![CDATA[]]>]]&gt;</a><?r?>", "<p:a xmlns:p='u' xmlns='d' p:b='&#10;&quot;' xml:lang='x'><c><d xmlns=''><p:e q:f='' xmlns:q='u'/></d></c></p:a>",
		"<!DOCTYPE a [<!ENTITY e '<b c=\"&#38;#34;\">&#38;#38;</b>'><!ATTLIST b d CDATA 'v&#9;'>]><a>&e;x&e;</a>", "<xml:a xmlns='u'><b/></xml:a>",
	}
	for _, doc := range docs {
		r := proc.Process([]byte(doc), c, nil)
		if r.E != api.OK || !check.Right(r.Events) {
			t.Fatal(doc, r.E)
		}
		s, e := Put(r.Events)
		if e != api.OK {
			t.Fatal(doc, e)
		}
		again := proc.Process([]byte(s), Room(r.Events), nil)
		if again.E != api.OK || !reflect.DeepEqual(again.Events, r.Events) {
			t.Error(doc, s, again.E, again.Events)
		}
		if twice, _ := Put(again.Events); twice != s {
			t.Error(s, twice)
		}
	}
}
