package atype

import (
	"slices"
	"strings"
	"testing"

	"narthex/api"
)

var full = strings.Repeat("n", 1024)

func TestP15_1Type(t *testing.T) {
	if CData != 1 || Tokens != 8 || Notation != 9 || Enum != 10 || Required != 1 || Implied != 2 || Fixed != 3 || Plain != 4 {
		t.Error("numbers")
	}
	rows := []struct {
		b     string
		at    int
		kind  int
		words []string
		next  int
		e     api.Errno
	}{
		{"CDATA", 0, CData, nil, 5, api.OK}, {"xID ", 1, ID, nil, 3, api.OK}, {"IDREF", 0, IDRef, nil, 5, api.OK}, {"IDREFS", 0, IDRefs, nil, 6, api.OK}, {"ENTITY", 0, Entity, nil, 6, api.OK}, {"ENTITIES", 0, Entities, nil, 8, api.OK}, {"NMTOKEN", 0, Token, nil, 7, api.OK}, {"NMTOKENS(", 0, Tokens, nil, 8, api.OK}, {"CDATAx", 0, CData, nil, 5, api.OK},
		{"NOTATION (a)", 0, Notation, []string{"a"}, 12, api.OK}, {"NOTATION\n( a |b\t)c", 0, Notation, []string{"a", "b"}, 17, api.OK}, {"(x|y)", 0, Enum, []string{"x", "y"}, 5, api.OK}, {"( -1 | 2:3|-1 )", 0, Enum, []string{"-1", "2:3", "-1"}, 15, api.OK}, {"(" + full + ")", 0, Enum, []string{full}, 1026, api.OK},
		{"CDATAS", 0, 0, nil, 0, api.ErrForm}, {"CDATAZ", 0, 0, nil, 0, api.ErrForm}, {"CDATAA", 0, 0, nil, 0, api.ErrForm}, {"cdata", 0, 0, nil, 0, api.ErrForm}, {"", 0, 0, nil, 0, api.ErrForm}, {"NOTATION(a)", 0, 0, nil, 0, api.ErrForm}, {"NOTATION ", 0, 0, nil, 0, api.ErrForm}, {"NOTATION ()", 0, 0, nil, 0, api.ErrForm}, {"NOTATION (1)", 0, 0, nil, 0, api.ErrForm}, {"NOTATION (a:b)", 0, 0, nil, 0, api.ErrForm},
		{"()", 0, 0, nil, 0, api.ErrForm}, {"(a", 0, 0, nil, 0, api.ErrForm}, {"(a|", 0, 0, nil, 0, api.ErrForm}, {"(a|)", 0, 0, nil, 0, api.ErrForm}, {"(|a)", 0, 0, nil, 0, api.ErrForm}, {"(a b)", 0, 0, nil, 0, api.ErrForm}, {"(a,b)", 0, 0, nil, 0, api.ErrForm}, {"(\xFF)", 0, 0, nil, 0, api.ErrForm},
		{"(" + full + "n)", 0, 0, nil, 0, api.ErrLimit}, {"NOTATION (" + full + "n)", 0, 0, nil, 0, api.ErrLimit}, {"ID", -1, 0, nil, 0, api.ErrRange}, {"ID", 3, 0, nil, 0, api.ErrRange}, {"ID", 2, 0, nil, 0, api.ErrForm},
	}
	for _, x := range rows {
		if kind, words, next, e := Type([]byte(x.b), x.at); kind != x.kind || !slices.Equal(words, x.words) || next != x.next || e != x.e {
			t.Errorf("%.30q %d: %d %.40v %d %d", x.b, x.at, kind, words, next, e)
		}
	}
}

func TestP15_2Default(t *testing.T) {
	rows := []struct {
		b     string
		at    int
		mode  int
		value string
		next  int
		e     api.Errno
	}{
		{"#REQUIRED>", 0, Required, "", 9, api.OK}, {"#IMPLIED", 0, Implied, "", 8, api.OK}, {"#FIXED 'a&b;'", 0, Fixed, "a&b;", 13, api.OK}, {"x\"y\"", 1, Plain, "y", 4, api.OK}, {"''", 0, Plain, "", 2, api.OK},
		{"#FIXED'a'", 0, 0, "", 0, api.ErrForm}, {"#FIXED", 0, 0, "", 0, api.ErrForm}, {"#FIXED a", 0, 0, "", 0, api.ErrForm}, {"#REQUIREDX", 0, 0, "", 0, api.ErrForm}, {"#", 0, 0, "", 0, api.ErrForm}, {"# REQUIRED", 0, 0, "", 0, api.ErrForm}, {"#required", 0, 0, "", 0, api.ErrForm}, {"a", 0, 0, "", 0, api.ErrForm},
		{"'<'", 0, 0, "", 0, api.ErrForm}, {"'&#0;'", 0, 0, "", 0, api.ErrChar}, {"#FIXED '&" + full + "n;'", 0, 0, "", 0, api.ErrLimit}, {"''", 3, 0, "", 0, api.ErrRange}, {"''", -1, 0, "", 0, api.ErrRange}, {"''", 2, 0, "", 0, api.ErrForm},
	}
	for _, x := range rows {
		if mode, value, next, e := Default([]byte(x.b), x.at); mode != x.mode || value != x.value || next != x.next || e != x.e {
			t.Errorf("%.30q %d: %d %q %d %d", x.b, x.at, mode, value, next, e)
		}
	}
}

func TestP15_3One(t *testing.T) {
	d, next, e := One([]byte("a (x|y) 'x' "), 0)
	if !Same(d, Def{"a", Enum, []string{"x", "y"}, Plain, "x"}) || next != 11 || e != api.OK {
		t.Error(d, next, e)
	}
	d, next, e = One([]byte(" p:a\tCDATA\n#IMPLIED"), 1)
	if !Same(d, Def{Name: "p:a", Kind: CData, Mode: Implied}) || next != 19 || e != api.OK {
		t.Error(d, next, e)
	}
	bad := []struct {
		b  string
		at int
		e  api.Errno
	}{{"", 0, api.ErrForm}, {"a", 2, api.ErrRange}, {"a", -1, api.ErrRange}, {"1 CDATA ''", 0, api.ErrForm}, {"a(x) 'x'", 0, api.ErrForm}, {"a (x)'x'", 0, api.ErrForm}, {"a CDATA#IMPLIED", 0, api.ErrForm}, {"a FOO ''", 0, api.ErrForm}, {"a CDATA '&#0;'", 0, api.ErrChar}, {full + "n CDATA ''", 0, api.ErrLimit}}
	for _, x := range bad {
		if d, next, e := One([]byte(x.b), x.at); !Same(d, Def{}) || next != 0 || e != x.e {
			t.Errorf("%.20q: %v %d %d", x.b, d, next, e)
		}
	}
}

func TestP15_3P15_5Put(t *testing.T) {
	rows := []struct {
		d Def
		w string
		e api.Errno
	}{
		{Def{"a", Enum, []string{"x", "1"}, Plain, "x'&y;"}, `a (x|1) "x'&y;"`, api.OK}, {Def{"p:a", Notation, []string{"n", "m"}, Required, ""}, `p:a NOTATION (n|m) #REQUIRED`, api.OK}, {Def{"a", IDRefs, nil, Fixed, ""}, `a IDREFS #FIXED ""`, api.OK}, {Def{"a", CData, []string{}, Implied, ""}, `a CDATA #IMPLIED`, api.OK}, {Def{full, Enum, []string{full}, Implied, ""}, full + " (" + full + ") #IMPLIED", api.OK},
		{Def{"1", CData, nil, Implied, ""}, "", api.ErrForm}, {Def{"a", 0, nil, Implied, ""}, "", api.ErrForm}, {Def{"a", 11, []string{"x"}, Implied, ""}, "", api.ErrForm}, {Def{"a", CData, []string{"x"}, Implied, ""}, "", api.ErrForm}, {Def{"a", Enum, nil, Implied, ""}, "", api.ErrForm}, {Def{"a", Notation, nil, Implied, ""}, "", api.ErrForm},
		{Def{"a", Notation, []string{"1"}, Implied, ""}, "", api.ErrForm}, {Def{"a", Notation, []string{"a:b"}, Implied, ""}, "", api.ErrForm}, {Def{"a", Enum, []string{"x y"}, Implied, ""}, "", api.ErrForm}, {Def{"a", Enum, []string{""}, Implied, ""}, "", api.ErrForm}, {Def{"a", CData, nil, 0, ""}, "", api.ErrForm}, {Def{"a", CData, nil, 5, ""}, "", api.ErrForm},
		{Def{"a", CData, nil, Required, "x"}, "", api.ErrForm}, {Def{"a", CData, nil, Implied, "x"}, "", api.ErrForm}, {Def{"a", CData, nil, Plain, "<"}, "", api.ErrForm}, {Def{"a", CData, nil, Fixed, `"`}, "", api.ErrForm}, {Def{"a", CData, nil, Plain, "&"}, "", api.ErrForm}, {Def{"a", CData, nil, Plain, "&#0;"}, "", api.ErrForm},
		{Def{full + "n", CData, nil, Plain, ""}, "", api.ErrLimit}, {Def{"a", Enum, []string{full + "n"}, Plain, ""}, "", api.ErrLimit}, {Def{full + "n", CData, nil, Plain, "<"}, "", api.ErrForm},
	}
	for _, x := range rows {
		w, e := Put(x.d)
		if w != x.w || e != x.e {
			t.Errorf("%.60v: %q %d", x.d, w, e)
		}
		if e != api.OK {
			continue
		}
		if d, next, e := One([]byte(w), 0); !Same(d, x.d) || next != len(w) || e != api.OK {
			t.Errorf("%q: %v %d %d", w, d, next, e)
		}
	}
}

func TestP15_4TrimAndSame(t *testing.T) {
	s := "  a \t b   c\n "
	if Trim(CData, s) != s {
		t.Error("CData")
	}
	for _, kind := range []int{ID, Tokens, Enum, 0, 99} {
		got := Trim(kind, s)
		if got != "a \t b c\n" || Trim(kind, got) != got {
			t.Errorf("%d %q", kind, got)
		}
	}
	if Trim(ID, "   ") != "" || Trim(ID, "\xFF  x") != "\xFF x" {
		t.Error("edges")
	}
	a := Def{"a", Enum, []string{"x"}, Plain, "v"}
	others := []Def{{"b", Enum, []string{"x"}, Plain, "v"}, {"a", Notation, []string{"x"}, Plain, "v"}, {"a", Enum, []string{"y"}, Plain, "v"}, {"a", Enum, []string{"x", "x"}, Plain, "v"}, {"a", Enum, []string{"x"}, Fixed, "v"}, {"a", Enum, []string{"x"}, Plain, ""}}
	for i, b := range others {
		if Same(a, b) {
			t.Error(i)
		}
	}
	if !Same(a, a) || !Same(Def{}, Def{Words: []string{}}) {
		t.Error("same")
	}
}
