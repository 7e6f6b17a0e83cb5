package dtd

import (
	"slices"
	"testing"

	"narthex/api"
	"narthex/atype"
	"narthex/decl"
)

func filled(t *testing.T, s string) *Table {
	t.Helper()
	l, _, e := decl.All([]byte(s), 0)
	if e != api.OK {
		t.Fatal(s, e)
	}
	table := New()
	for _, d := range l {
		if e := table.Add(d); e != api.OK {
			t.Fatal(d, e)
		}
	}
	return table
}

const all = `<!ENTITY a 'x'><!ENTITY b SYSTEM 'u'><!ENTITY a 'y'><!ENTITY % a 'p'><!ENTITY % q 'r'><!ENTITY % a 'z'><!ENTITY lt 'no'><!ENTITY % lt 'yes'>
<!NOTATION n SYSTEM 's'><!NOTATION n SYSTEM 't'><!ATTLIST e a CDATA '1' b ID #IMPLIED a ID #IMPLIED><!ATTLIST f><!ATTLIST e a CDATA '2' c (x|y) 'x'><!ELEMENT g ANY><?p q?><!--c-->`

func TestP17_1Add(t *testing.T) {
	table := New()
	for _, kind := range []int{decl.End, decl.Ref, -1, 8} {
		if e := table.Add(decl.Decl{Kind: kind}); e != api.ErrArg || table.Len() != 0 {
			t.Error(kind, e)
		}
	}
	table = filled(t, all)
	names := func(l []api.Entity) (n []string) {
		for _, x := range l {
			n = append(n, x.Name+"="+x.Text)
		}
		return n
	}
	if got := names(table.Generals()); !slices.Equal(got, []string{"a=x", "b="}) {
		t.Error(got)
	}
	if got := names(table.Params()); !slices.Equal(got, []string{"a=p", "q=r", "lt=yes"}) {
		t.Error(got)
	}
	if got := table.Elements(); !slices.Equal(got, []string{"e", "f"}) {
		t.Error(got)
	}
}

func TestP17_2Asked(t *testing.T) {
	table := filled(t, all)
	if x, ok := table.General("a"); x.Text != "x" || !ok {
		t.Error(x, ok)
	}
	if x, ok := table.General("b"); x.ID.System != "u" || !x.Out || !ok {
		t.Error(x, ok)
	}
	if x, ok := table.General("q"); x != (api.Entity{}) || ok {
		t.Error(x, ok)
	}
	if x, ok := table.General("lt"); x != (api.Entity{}) || ok {
		t.Error(x, ok)
	}
	if x, ok := table.Param("a"); x.Text != "p" || !ok {
		t.Error(x, ok)
	}
	if x, ok := table.Param("b"); x != (api.Entity{}) || ok {
		t.Error(x, ok)
	}
	if x, ok := table.Notation("n"); x.System != "s" || !ok {
		t.Error(x, ok)
	}
	if x, ok := table.Notation("m"); x != (api.ExtID{}) || ok {
		t.Error(x, ok)
	}
	defs := table.Defs("e")
	if len(defs) != 3 || defs[0].Name != "a" || defs[0].Value != "1" || defs[1].Name != "b" || defs[2].Name != "c" {
		t.Error(defs)
	}
	if len(table.Defs("f")) != 0 || len(table.Defs("g")) != 0 {
		t.Error("no defs")
	}
	if table.Len() != 2+3+1+3 {
		t.Error(table.Len())
	}
}

func TestP17_2OwnMemory(t *testing.T) {
	words := []string{"x", "y"}
	d := decl.Decl{Kind: decl.List, Name: "e", Defs: []atype.Def{{Name: "a", Kind: atype.Enum, Words: words, Mode: atype.Implied}}}
	table := New()
	table.Add(d)
	words[0], d.Defs[0].Name = "changed", "changed"
	got := table.Defs("e")
	if got[0].Name != "a" || got[0].Words[0] != "x" {
		t.Error(got)
	}
	got[0].Words[0], got[0].Name = "changed", "changed"
	if again := table.Defs("e"); again[0].Name != "a" || again[0].Words[0] != "x" {
		t.Error(again)
	}
	table.Add(decl.Decl{Kind: decl.Entity, Entity: api.Entity{Name: "x"}})
	l := table.Generals()
	l[0].Name = "changed"
	_ = append(l, api.Entity{Name: "behind"})
	if again := table.Generals(); len(again) != 1 || again[0].Name != "x" {
		t.Error(again)
	}
}

func TestP17_3Twice(t *testing.T) {
	table, twice := filled(t, all), filled(t, all+all)
	if table.Len() != twice.Len() || !slices.Equal(table.Generals(), twice.Generals()) || !slices.EqualFunc(table.Defs("e"), twice.Defs("e"), atype.Same) {
		t.Error("a second time changed something")
	}
}

func TestP17NilAndZero(t *testing.T) {
	var none *Table
	if none.Add(decl.Decl{}) != api.ErrNil || none.Len() != 0 || len(none.Generals())+len(none.Params())+len(none.Elements())+len(none.Defs("e")) != 0 {
		t.Error("nil")
	}
	if _, ok := none.General("a"); ok {
		t.Error("General")
	}
	if _, ok := none.Param("a"); ok {
		t.Error("Param")
	}
	if _, ok := none.Notation("a"); ok {
		t.Error("Notation")
	}
	var zero Table
	zero.Add(decl.Decl{Kind: decl.List, Name: "e"})
	zero.Defs("e")
}
