package prolog

import (
	"reflect"
	"strings"
	"testing"

	"narthex/api"
	"narthex/dtd"
	"narthex/fetch"
	"narthex/meter"
)

func comment(s string) api.Event { return api.Event{Kind: api.Comment, Text: s} }
func pi(target, s string) api.Event {
	return api.Event{Kind: api.Pi, Name: api.Name{Local: target}, Text: s}
}

func sameEvents(a, b []api.Event) bool {
	return len(a) == 0 && len(b) == 0 || reflect.DeepEqual(a, b)
}

func TestP29_1Misc(t *testing.T) {
	rows := []struct {
		b    string
		at   int
		l    []api.Event
		next int
		e    api.Errno
	}{
		{"", 0, nil, 0, api.OK}, {" \n<a", 0, nil, 2, api.OK}, {"x<!--a--> <?p q?>\n<!---->y", 1, []api.Event{comment("a"), pi("p", "q"), comment("")}, 25, api.OK}, {"<?p?><!DOCTYPE a>", 0, []api.Event{pi("p", "")}, 5, api.OK}, {"x", 1, nil, 1, api.OK},
		{"x", 2, nil, 0, api.ErrRange}, {"x", -1, nil, 0, api.ErrRange}, {"<!--a--><!--b", 0, nil, 0, api.ErrForm}, {"<?xml?>", 0, nil, 0, api.ErrForm}, {"<?" + strings.Repeat("n", 1025) + "?>", 0, nil, 0, api.ErrLimit},
	}
	for _, x := range rows {
		if l, next, e := Misc([]byte(x.b), x.at); !sameEvents(l, x.l) || next != x.next || e != x.e {
			t.Errorf("%.30q %d: %v %d %d", x.b, x.at, l, next, e)
		}
	}
}

type world struct {
	t *dtd.Table
	g *fetch.Guard
	m *meter.Meter
}

func fresh() world {
	c := api.Cfg{MaxSize: 100, MaxDepth: 3}
	g, _ := fetch.New(c, nil)
	m, _ := meter.New(c)
	return world{dtd.New(), g, m}
}

func TestP29_2Read(t *testing.T) {
	w := fresh()
	s := `<?xml version="1.0"?><!--a--><!DOCTYPE r []><r/>`
	p, e := Read([]byte(s), w.t, w.g, w.m)
	if e != api.OK || p.At != 44 || !sameEvents(p.Events, []api.Event{comment("a")}) || p.Decl.Version != "1.0" || p.Head.Name != "r" || !p.Head.Open {
		t.Error(p, e)
	}
	w = fresh()
	s = "<?xml version='1.1' encoding='UTF-8' standalone='yes'?>\n<?p q?> <!DOCTYPE r PUBLIC 'x' 'y' [<!--no--><!ENTITY a 'b'><?no?>] ><!--c-->\n "
	p, e = Read([]byte(s), w.t, w.g, w.m)
	if e != api.OK || p.At != len(s) || !sameEvents(p.Events, []api.Event{pi("p", "q"), comment("c")}) || p.Decl.Alone != "yes" || p.Head.ID.System != "y" || !p.Head.Out {
		t.Error(p, e)
	}
	if x, ok := w.t.General("a"); !ok || x.Text != "b" || len(w.g.Trace()) != 0 {
		t.Error(x)
	}
	for s, at := range map[string]int{"": 0, "<a/>": 0, " <a/>": 1, "<!DOCTYPE a SYSTEM 's'><a/>": 23, "x": 0, "<!DOCTYPE a>": 12, "<!DOCTYPE a [ ]>\n": 17} {
		w = fresh()
		if p, e := Read([]byte(s), w.t, w.g, w.m); p.At != at || e != api.OK {
			t.Error(s, p, e)
		}
	}
}

func TestP29_2Errors(t *testing.T) {
	rows := []struct {
		s string
		e api.Errno
	}{
		{"<?xml version='2.0'?>", api.ErrForm}, {" <?xml version='1.0'?>", api.ErrForm}, {"<?xml?>", api.ErrForm}, {"<!--a", api.ErrForm}, {"<!DOCTYPE>", api.ErrForm}, {"<!DOCTYPE a", api.ErrForm}, {"<!DOCTYPE a [", api.ErrForm}, {"<!DOCTYPE a []", api.ErrForm}, {"<!DOCTYPE a [] x>", api.ErrForm}, {"<!DOCTYPE a><!DOCTYPE a>", api.ErrForm}, {"<!DOCTYPE a []> <!--c--><!DOCTYPE b>", api.ErrForm}, {"<!DOCTYPE a><!--", api.ErrForm},
		{"<!DOCTYPE a [<!ENTITY b '&#0;'>]>", api.ErrChar}, {"<!DOCTYPE a [<!ENTITY % p '&#37;p;'>%p;]>", api.ErrLoop}, {"<!DOCTYPE a [<!ENTITY % p SYSTEM 'x'>%p;]>", api.ErrFetch}, {"<!DOCTYPE " + strings.Repeat("n", 1025) + ">", api.ErrLimit},
	}
	for _, x := range rows {
		w := fresh()
		if p, e := Read([]byte(x.s), w.t, w.g, w.m); e != x.e || !reflect.DeepEqual(p, Prolog{}) {
			t.Errorf("%.40q: %v %d", x.s, p, e)
		}
	}
	w := fresh()
	Read([]byte("<!DOCTYPE a [<!ENTITY b 'c'>x]>"), w.t, w.g, w.m)
	if _, ok := w.t.General("b"); !ok {
		t.Error("what was done stays done")
	}
	for i, x := range []world{{nil, w.g, w.m}, {w.t, nil, w.m}, {w.t, w.g, nil}} {
		if p, e := Read(nil, x.t, x.g, x.m); e != api.ErrNil || p.At != 0 {
			t.Error(i, e)
		}
	}
}

func TestP29_3BetweenTheBrackets(t *testing.T) {
	for _, inner := range []string{"", "<!--a-->", "<?p?><!ELEMENT r ANY>\n<!--b-->"} {
		w := fresh()
		s := "<!DOCTYPE r [" + inner + "]><r/>"
		if p, e := Read([]byte(s), w.t, w.g, w.m); e != api.OK || len(p.Events) != 0 || s[p.At:] != "<r/>" {
			t.Error(s, p, e)
		}
	}
}
