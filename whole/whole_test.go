// Package whole has the tests of what is promised of all layers together.
package whole

import (
	"fmt"
	"math/rand"
	"reflect"
	"slices"
	"strings"
	"testing"

	"narthex/api"
	"narthex/canon"
	"narthex/check"
	"narthex/cost"
	"narthex/cref"
	"narthex/evalue"
	"narthex/fetch"
	"narthex/laugh"
	"narthex/meter"
	"narthex/oracle"
	"narthex/proc"
	"narthex/sat"
	"narthex/uri"
	"narthex/utf"
)

var roomy = api.Cfg{MaxSize: 1 << 20, MaxOut: 1 << 20, MaxDepth: 50, MaxAttrs: 50, MaxFetch: 20, MaxBytes: 1 << 16, Allow: []string{"a://b/*"}}

func ok(id, data string) api.Answer { return api.Answer{ID: id, OK: true, Data: []byte(data)} }

// maker makes documents that may be, with entities of all sorts.
type maker struct {
	r      *rand.Rand
	script []api.Answer
}

func (m *maker) pick(l ...string) string { return l[m.r.Intn(len(l))] }

// content makes what may stand within an element; refs are the entities that it may refer to.
func (m *maker) content(deep int, refs []string) string {
	s := ""
	for range m.r.Intn(4) {
		switch k := m.r.Intn(10); {
		case k < 3 && deep > 0:
			inner := m.content(deep-1, refs)
			s += m.pick("<a>"+inner+"</a>", "<p:b xmlns:p='u'>"+inner+"</p:b>", "<c d='x  &lt; ' e='\n&#10;'>"+inner+"</c>", "<f xmlns='v'>"+inner+"</f>", "<g/>")
		case k < 6 && len(refs) > 0:
			s += "&" + refs[m.r.Intn(len(refs))] + ";"
		default:
			s += m.pick("x", "y\r\nz", "\n", "\r", "&amp;", "&#65;", "&#13;", "<![CDATA[<&]]>", "<![CDATA[]]>", "<!--c-->", "<?p q?>", "ä", "]]&gt;")
		}
	}
	return s
}

// document makes a document, and the script that goes with it.
func (m *maker) document() string {
	m.script = nil
	decls, refs := "", []string{}
	for i := range m.r.Intn(5) {
		name, text := fmt.Sprint("e", i), m.content(1, refs)
		switch m.r.Intn(4) {
		case 0:
			decls += "<!ENTITY " + name + " SYSTEM 'a://b/" + name + "'>"
			m.script = append(m.script, ok("a://b/"+name, m.pick("", "<?xml encoding='utf-8'?>")+text))
		case 1:
			v, _ := evalue.Put("<!ENTITY " + name + " '" + strings.ReplaceAll(text, "'", "&#39;") + "'>")
			decls += "<!ENTITY % q" + name + " '" + v + "'>%q" + name + ";"
		default:
			decls += "<!ENTITY " + name + " \"" + text + "\">"
		}
		refs = append(refs, name)
	}
	decls += m.pick("", "<!ATTLIST a k CDATA 'dflt'>", "<!ATTLIST c d NMTOKENS #IMPLIED z CDATA '&lt;&#10;'>", "<!ELEMENT a ANY>\r\n<!--c-->")
	return m.pick("", "<?xml version='1.0'?>", "\xEF\xBB\xBF") + m.pick("", "<!--c-->\n") + "<!DOCTYPE r [" + decls + "]><r>" + m.content(3, refs) + "</r>" + m.pick("", "\r\n<?p?>")
}

func each(t *testing.T, seed int64, f func(doc string, script []api.Answer, full proc.Result)) {
	t.Helper()
	m := &maker{r: rand.New(rand.NewSource(seed))}
	accepted := 0
	for range 1500 {
		doc := m.document()
		full := proc.Process([]byte(doc), roomy, m.script)
		if full.E == api.OK {
			accepted++
		}
		f(doc, m.script, full)
	}
	if accepted < 1000 {
		t.Error("most documents should be accepted:", accepted)
	}
}

func TestG1TheSameDocument(t *testing.T) {
	each(t, 1, func(doc string, script []api.Answer, full proc.Result) {
		if again := proc.Process([]byte(doc), roomy, script); !reflect.DeepEqual(again, full) {
			t.Fatal("not the same again", doc)
		}
		feeds := strings.ReplaceAll(strings.ReplaceAll(doc, "\r\n", "\n"), "\r", "\n")
		for _, end := range []string{"\n", "\r", "\r\n"} {
			other := proc.Process([]byte(strings.ReplaceAll(feeds, "\n", end)), roomy, script)
			if other.E != full.E || !reflect.DeepEqual(other.Events, full.Events) {
				t.Fatalf("line ends %q: %q", end, doc)
			}
		}
		if full.E != api.OK || !check.Right(full.Events) {
			return
		}
		written, e := canon.Put(full.Events)
		if e != api.OK {
			t.Fatal(doc, e)
		}
		again := proc.Process([]byte(written), canon.Room(full.Events), nil)
		if again.E != api.OK || !reflect.DeepEqual(again.Events, full.Events) {
			t.Fatalf("%q %q %d", doc, written, again.E)
		}
	})
}

func TestG2InItsPlace(t *testing.T) {
	m := &maker{r: rand.New(rand.NewSource(2))}
	for range 2000 {
		text := strings.NewReplacer("\r\n", "\n", "\r", "\n").Replace(m.content(2, nil))
		before, behind := m.pick("", "x", "<a/>", "&#65;"), m.pick("", "y", "<a/>", "<!--c-->")
		want := proc.Process([]byte("<r>"+before+text+behind+"</r>"), roomy, nil)
		value, e := evalue.Put(text)
		if e != api.OK || want.E != api.OK {
			t.Fatal(text, e, want.E)
		}
		content := before + "&e;" + behind
		for _, decl := range []string{`<!ENTITY e "` + value + `">`, "<!ENTITY e SYSTEM 'a://b/e'>", `<!ENTITY f "` + value + `"><!ENTITY e '&f;'>`} {
			got := proc.Process([]byte("<!DOCTYPE r ["+decl+"]><r>"+content+"</r>"), roomy, []api.Answer{ok("a://b/e", text)})
			if got.E != api.OK || !reflect.DeepEqual(got.Events, want.Events) {
				t.Fatalf("%q as %s: %d %v", text, decl, got.E, got.Events)
			}
		}
	}
}

func TestG2AnyTextAsItIs(t *testing.T) {
	for _, s := range []string{"x", "<&>\"'", "\r\n\t ", "&lt;&#10;", "ä€\U0010FFFF", "]]>", "%p;", "--"} {
		numbers := ""
		l, _ := utf.Runes([]byte(s))
		for _, r := range l {
			ref, _ := cref.Text(r)
			numbers += ref
		}
		ways := []string{cref.Escape(s), numbers}
		if !strings.Contains(s, "]]>") && !strings.Contains(s, "\r") {
			ways = append(ways, "<![CDATA["+s+"]]>")
		}
		for i, way := range ways {
			r := proc.Process([]byte("<r>"+way+"</r>"), roomy, nil)
			if r.E != api.OK || len(r.Events) != 3 || r.Events[1].Text != s {
				t.Errorf("%q: %d %v", way, r.E, r.Events)
			}
			if i == 2 {
				continue
			}
			r = proc.Process([]byte("<r a=\""+way+"\"/>"), roomy, nil)
			if r.E != api.OK || r.Events[0].Attrs[0].Value != s {
				t.Errorf("%q: %d %v", way, r.E, r.Events)
			}
		}
	}
}

// least finds the least number with which a limit is kept.
func least(fits func(n int) bool) int {
	low, high := 0, 1<<20
	for low < high {
		mid := (low + high) / 2
		if fits(mid) {
			high = mid
		} else {
			low = mid + 1
		}
	}
	return low
}

func TestG3JustEnough(t *testing.T) {
	limits := []func(c *api.Cfg) *int{
		func(c *api.Cfg) *int { return &c.MaxSize }, func(c *api.Cfg) *int { return &c.MaxOut }, func(c *api.Cfg) *int { return &c.MaxDepth },
		func(c *api.Cfg) *int { return &c.MaxAttrs }, func(c *api.Cfg) *int { return &c.MaxFetch }, func(c *api.Cfg) *int { return &c.MaxBytes },
	}
	n := 0
	each(t, 3, func(doc string, script []api.Answer, full proc.Result) {
		if n++; full.E != api.OK || n%5 != 0 {
			return
		}
		just := roomy
		for _, limit := range limits {
			*limit(&just) = least(func(n int) bool {
				c := roomy
				*limit(&c) = n
				return proc.Process([]byte(doc), c, script).E == api.OK
			})
		}
		if just.MaxSize != full.Spent || just.MaxOut != full.Out || just.MaxBytes != full.Read || just.MaxFetch != len(full.Trace) {
			t.Fatalf("%q: %+v %+v", doc, just, full)
		}
		if got := proc.Process([]byte(doc), just, script); !reflect.DeepEqual(got, full) {
			t.Fatalf("%q: %d", doc, got.E)
		}
		for i, limit := range limits {
			less := just
			if *limit(&less) == 0 {
				continue
			}
			*limit(&less)--
			if got := proc.Process([]byte(doc), less, script); got.E != api.ErrLimit || got.Class != proc.Limit {
				t.Fatalf("%q: limit %d: %d", doc, i, got.E)
			}
		}
	})
}

func TestG4Ahead(t *testing.T) {
	each(t, 4, func(doc string, script []api.Answer, full proc.Result) {
		for _, size := range []int{0, 1, full.Spent / 2, max(full.Spent-1, 0), full.Spent} {
			c := roomy
			c.MaxSize, c.MaxOut, c.MaxBytes = size, full.Out, full.Read
			var events []api.Event
			r := proc.Walk([]byte(doc), c, script, func(e api.Event) api.Errno {
				events = append(events, e)
				return api.OK
			})
			if r.Work > meter.Bound(c, len(doc)) || r.Spent > c.MaxSize || r.Out > c.MaxOut || r.Read > c.MaxBytes {
				t.Fatalf("%q: %+v", doc, r)
			}
			if full.E == api.OK && len(events) > 0 && !reflect.DeepEqual(events, full.Events[:len(events)]) {
				t.Fatalf("%q: no beginning of all", doc)
			}
			if len(script) == 0 && r.E == api.ErrLimit && len(events) > 0 {
				t.Fatalf("%q: internal entities are known ahead", doc)
			}
		}
	})
}

func TestG5Blind(t *testing.T) {
	each(t, 5, func(doc string, script []api.Answer, full proc.Result) {
		for _, list := range [][]string{nil, {"a://b/e0", "A://b/x/../e2"}, {"a://b/*"}} {
			for _, gets := range []int{0, 1, 20} {
				c := roomy
				c.Allow, c.MaxFetch = list, gets
				got := proc.Process([]byte(doc), c, script)
				other := append(oracle.Only(script, list), ok("a://secret/", "secret"), api.Answer{ID: "a://b"})
				if again := proc.Process([]byte(doc), c, other); !reflect.DeepEqual(again, got) {
					t.Fatalf("%q: answers that are not allowed changed it", doc)
				}
				seen := slices.Clone(got.Trace)
				slices.Sort(seen)
				if len(slices.Compact(seen)) != len(got.Trace) || len(got.Trace) > gets || len(list) == 0 && len(got.Trace) > 0 {
					t.Fatalf("%q: %v", doc, got.Trace)
				}
			}
		}
	})
}

func TestTenExamples(t *testing.T) {
	if sat.Add(sat.Cap(), 1) != sat.Cap() {
		t.Error(1)
	}
	if _, _, e := utf.Decode([]byte{0xC0, 0x80}, 0); e != api.ErrUtf {
		t.Error(2)
	}
	if cref.Escape("a<b") != "a&lt;b" {
		t.Error(3)
	}
	if s, _ := evalue.Text("&#38;#60;"); s != "&#60;" {
		t.Error(4)
	}
	if s, _ := cost.Of([]api.Entity{{Name: "a", Text: "xx"}, {Name: "b", Text: "&a;&a;"}}, "&b;"); s.Cost != 13 {
		t.Error(5)
	}
	if s, _ := uri.Norm("HTTP://A.b/x/%2e%2E/y%2f"); s != "http://a.b/y%2F" {
		t.Error(6)
	}
	g, _ := fetch.New(roomy, nil)
	if _, e := g.Get("a://c/"); e != api.ErrFetch {
		t.Error(7)
	}
	if r := proc.Process([]byte(`<a b="1">x&lt;</a>`), roomy, nil); len(r.Events) != 3 || r.Events[1].Text != "x<" {
		t.Error(8)
	}
	u := api.Name{Space: "u", Local: "a"}
	v := []api.Attr{{Name: api.Name{Space: "v", Local: "b"}, Value: "1"}}
	if s, _ := canon.Put([]api.Event{{Kind: api.Start, Name: u, Attrs: v}, {Kind: api.End, Name: u}}); s != `<a xmlns="u" xmlns:n0="v" n0:b="1"></a>` {
		t.Error(9, s)
	}
	doc, _ := laugh.Doc(laugh.Plan{Levels: 100, Width: 10, Unit: "lol"})
	if r := proc.Process([]byte(doc), roomy, nil); r.Class != proc.Limit || r.Work != len(doc) {
		t.Error(10)
	}
}
