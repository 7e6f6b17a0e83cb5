package entity

import (
	"slices"
	"testing"

	"narthex/api"
	"narthex/decl"
	"narthex/dtd"
	"narthex/fetch"
	"narthex/tok"
)

func table(t *testing.T, s string) *dtd.Table {
	t.Helper()
	l, _, e := decl.All([]byte(s), 0)
	if e != api.OK {
		t.Fatal(s, e)
	}
	x := dtd.New()
	for _, d := range l {
		x.Add(d)
	}
	return x
}

func guard(t *testing.T, gets int, script ...api.Answer) *fetch.Guard {
	t.Helper()
	g, e := fetch.New(api.Cfg{MaxFetch: gets, MaxBytes: 100, Allow: []string{"a://b/*"}}, script)
	if e != api.OK {
		t.Fatal(e)
	}
	return g
}

func ok(id, data string) api.Answer { return api.Answer{ID: id, OK: true, Data: []byte(data)} }

const decls = `<!ENTITY a '<b/>'><!ENTITY o SYSTEM 'a://b/o'><!ENTITY u SYSTEM 'a://b/o' NDATA n><!ENTITY bad '<b>'><!ENTITY char '&#38;#0;'><!ENTITY twice "<b c='' c=''/>"><!ENTITY far SYSTEM 'a://c/'><!ENTITY utf SYSTEM 'a://b/utf'><!ENTITY e ''>
<!ENTITY form SYSTEM 'a://b/form'><!ENTITY ctl SYSTEM 'a://b/ctl'><!ENTITY % p 'param'>`

func world(t *testing.T) (*dtd.Table, *fetch.Guard) {
	return table(t, decls), guard(t, 9, ok("a://b/o", "<?xml encoding='utf-8'?>x\r\n<y/>"), ok("a://b/utf", "\xFF"), ok("a://b/form", "<?xml version='1.0'?>"), ok("a://b/ctl", "\x01"))
}

func TestP31_1Sort(t *testing.T) {
	if None != 0 || Known != 1 || Inner != 2 || Outer != 3 || Unparsed != 4 {
		t.Error("numbers")
	}
	x, _ := world(t)
	for name, want := range map[string]int{"lt": Known, "quot": Known, "a": Inner, "e": Inner, "o": Outer, "u": Unparsed, "none": None, "p": None, "": None} {
		if got := Sort(x, name); got != want {
			t.Error(name, got)
		}
	}
	if Sort(nil, "lt") != Known || Sort(nil, "a") != None {
		t.Error("nil")
	}
}

func TestP31_2Text(t *testing.T) {
	x, g := world(t)
	rows := []struct {
		name, text string
		e          api.Errno
	}{{"amp", "&", api.OK}, {"a", "<b/>", api.OK}, {"bad", "<b>", api.OK}, {"e", "", api.OK}, {"o", "x\n<y/>", api.OK}, {"u", "", api.ErrForm}, {"none", "", api.ErrForm}, {"p", "", api.ErrForm}, {"far", "", api.ErrFetch}, {"utf", "", api.ErrUtf}, {"form", "", api.ErrForm}, {"ctl", "", api.ErrChar}}
	for _, r := range rows {
		if s, e := Text(x, g, r.name); s != r.text || e != r.e {
			t.Errorf("%s: %q %d", r.name, s, e)
		}
	}
	if s, e := Text(nil, g, "lt"); s != "" || e != api.ErrNil {
		t.Error(s, e)
	}
	if s, e := Text(x, nil, "a"); s != "" || e != api.ErrNil {
		t.Error(s, e)
	}
	if _, e := Text(x, guard(t, 0), "o"); e != api.ErrLimit {
		t.Error(e)
	}
}

func TestP31_3Open(t *testing.T) {
	x, g := world(t)
	rows := []struct {
		name  string
		kinds []int
		n     int
		e     api.Errno
	}{{"lt", []int{tok.Text}, 1, api.OK}, {"a", []int{tok.Empty}, 4, api.OK}, {"e", nil, 0, api.OK}, {"o", []int{tok.Text, tok.Empty}, 6, api.OK}, {"bad", nil, 0, api.ErrForm}, {"char", nil, 0, api.ErrChar}, {"twice", nil, 0, api.ErrTwice}, {"none", nil, 0, api.ErrForm}, {"far", nil, 0, api.ErrFetch}}
	for _, r := range rows {
		toks, n, e := Open(x, g, r.name)
		var kinds []int
		for _, k := range toks {
			kinds = append(kinds, k.Kind)
		}
		if !slices.Equal(kinds, r.kinds) || n != r.n || e != r.e {
			t.Errorf("%s: %v %d %d", r.name, kinds, n, e)
		}
	}
	if toks, _, _ := Open(x, g, "lt"); len(toks) != 1 || toks[0].Text != "<" || toks[0].From != 0 || toks[0].To != 1 {
		t.Error(toks)
	}
	if _, _, e := Open(nil, g, "lt"); e != api.ErrNil {
		t.Error(e)
	}
}

func TestP31_4FetchedOnce(t *testing.T) {
	x, _ := world(t)
	g := guard(t, 1, ok("a://b/o", "text"))
	for range 5 {
		if toks, n, e := Open(x, g, "o"); len(toks) != 1 || n != 4 || e != api.OK {
			t.Error(toks, n, e)
		}
	}
	if len(g.Trace()) != 1 || g.Read() != 4 {
		t.Error(g.Trace(), g.Read())
	}
}
