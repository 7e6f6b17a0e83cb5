package deflt

import (
	"slices"
	"testing"

	"narthex/api"
	"narthex/atype"
	"narthex/decl"
	"narthex/dtd"
	"narthex/meter"
)

func table(t *testing.T, s string) *dtd.Table {
	t.Helper()
	l, _, e := decl.All([]byte(s), 0)
	if e != api.OK {
		t.Fatal(s, e)
	}
	x := dtd.New()
	for _, d := range l {
		x.Add(d)
	}
	return x
}

func size(n int) *meter.Meter {
	m, _ := meter.New(api.Cfg{MaxSize: n})
	return m
}

func pairs(l ...string) []api.Pair {
	var out []api.Pair
	for i := 0; i < len(l); i += 2 {
		out = append(out, api.Pair{Name: l[i], Value: l[i+1]})
	}
	return out
}

const decls = `<!ENTITY e ' x  y '><!ATTLIST a b CDATA 'x' c ID #IMPLIED d NMTOKENS #FIXED ' &e;&#32;z ' r (p|q) #REQUIRED b ID 'second'><!ATTLIST f><!ATTLIST g p:h CDATA "&lt;&#10;
"><!ATTLIST a i CDATA ''>`

func TestP32_1Make(t *testing.T) {
	x := table(t, decls)
	m := size(100)
	s, e := Make(x, m, 1)
	if e != api.OK || m.Spent() != 1+(11+6)+10 {
		t.Fatal(e, m.Spent())
	}
	if got := s.Pairs("a"); !slices.Equal(got, pairs("b", "x", "d", "x y z", "i", "")) {
		t.Errorf("%q", got)
	}
	if got := s.Pairs("g"); !slices.Equal(got, pairs("p:h", "<\n ")) {
		t.Errorf("%q", got)
	}
	if _, e := Make(nil, m, 1); e != api.ErrNil {
		t.Error(e)
	}
	if _, e := Make(x, nil, 1); e != api.ErrNil {
		t.Error(e)
	}
	bad := []struct {
		s    string
		size int
		deep int
		e    api.Errno
		left int
	}{
		{"<!ENTITY l '&l;'>", 9, 9, api.ErrLoop, 0}, {"<!ATTLIST a b CDATA '&none;'>", 9, 9, api.ErrForm, 6}, {"<!ENTITY o SYSTEM 's'><!ATTLIST a b CDATA '&o;'>", 9, 9, api.ErrForm, 3}, {"<!ENTITY c '&#38;#0;'><!ATTLIST a b CDATA '&c;'>", 9, 9, api.ErrChar, 7}, {"<!ENTITY c '&#60;'><!ATTLIST a b CDATA '&c;'>", 9, 9, api.ErrForm, 4}, {"<!ENTITY c 'x'><!ATTLIST a b CDATA '&c;'>", 9, 0, api.ErrLimit, 4}, {"<!ENTITY c 'x'><!ATTLIST a b CDATA '&c;'>", 3, 1, api.ErrLimit, 0}, {"<!ATTLIST a b CDATA 'x' c CDATA 'yz'>", 2, 1, api.ErrLimit, 1},
		{"<!ATTLIST a b CDATA '&none;'>", 5, 9, api.ErrLimit, 0},
	}
	for _, r := range bad {
		m := size(r.size)
		if s, e := Make(table(t, r.s), m, r.deep); s != nil || e != r.e || m.Spent() != r.left {
			t.Error(r.s, e, m.Spent())
		}
	}
	if _, e := Make(table(t, "<!ATTLIST a b CDATA #IMPLIED>"), size(0), 0); e != api.OK {
		t.Error(e)
	}
}

func TestP32_2Asked(t *testing.T) {
	s, _ := Make(table(t, decls), size(100), 1)
	adds := []struct {
		element    string
		give, want []api.Pair
	}{
		{"a", nil, pairs("b", "x", "d", "x y z", "i", "")}, {"a", pairs("z", "1", "d", "own"), pairs("z", "1", "d", "own", "b", "x", "i", "")}, {"f", pairs("b", "1"), pairs("b", "1")}, {"none", nil, nil}, {"a", pairs("b", "1", "b", "2"), pairs("b", "1", "b", "2", "d", "x y z", "i", "")},
	}
	for _, x := range adds {
		if got := s.Add(x.element, x.give); !slices.Equal(got, x.want) {
			t.Errorf("%s %q: %q", x.element, x.give, got)
		}
	}
	kinds := []struct {
		element, name string
		kind          int
	}{{"a", "b", atype.CData}, {"a", "c", atype.ID}, {"a", "d", atype.Tokens}, {"a", "r", atype.Enum}, {"a", "none", atype.CData}, {"none", "c", atype.CData}}
	for _, x := range kinds {
		if got := s.Kind(x.element, x.name); got != x.kind {
			t.Error(x, got)
		}
	}
	got := s.Pairs("a")
	got[0].Value = "changed"
	_ = append(got[:1], api.Pair{Name: "y"})
	give := append(make([]api.Pair, 0, 9), pairs("z", "1")...)
	s.Add("a", give)
	if s.Pairs("a")[0].Value != "x" || give[:2][1].Name != "" {
		t.Error("shared memory")
	}
	var none *Set
	if none.Kind("a", "c") != atype.CData || len(none.Pairs("a")) != 0 || !slices.Equal(none.Add("a", give), give) {
		t.Error("nil")
	}
}

func TestP32_3Twice(t *testing.T) {
	s, _ := Make(table(t, decls), size(100), 1)
	for _, give := range [][]api.Pair{nil, pairs("b", "1"), pairs("q", "", "i", "2")} {
		once := s.Add("a", give)
		if !slices.Equal(s.Add("a", once), once) || !slices.Equal(once[:len(give)], give) {
			t.Error(once)
		}
	}
}
