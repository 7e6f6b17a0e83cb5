package refs

import (
	"slices"
	"strings"
	"testing"
)

var long = strings.Repeat("n", 1025)

func TestP18_1All(t *testing.T) {
	rows := []struct {
		text string
		l    []Ref
	}{
		{"", nil}, {"abc", nil}, {"x&a;&#65;&b;&", []Ref{{1, 4, "a"}, {9, 12, "b"}}}, {"&&a;", []Ref{{1, 4, "a"}}}, {"&a&b;", []Ref{{2, 5, "b"}}}, {"&lt;<!--&c;-->", []Ref{{0, 4, "lt"}, {8, 11, "c"}}}, {"&a:b;", nil}, {"&" + long + ";&d;", []Ref{{1027, 1030, "d"}}}, {"\xFF&ä;\xFF", []Ref{{1, 5, "ä"}}}, {"&a;&a;", []Ref{{0, 3, "a"}, {3, 6, "a"}}},
	}
	for _, x := range rows {
		if got := All(x.text); !slices.Equal(got, x.l) {
			t.Errorf("%.20q: %v", x.text, got)
		}
	}
	s := "&b;&a;&#1;&b;&c;&a;"
	if got := Names(s); !slices.Equal(got, []string{"b", "a", "b", "c", "a"}) {
		t.Error(got)
	}
	if got := Each(s); !slices.Equal(got, []string{"b", "a", "c"}) {
		t.Error(got)
	}
	if len(Names(""))+len(Each("x")) != 0 {
		t.Error("none")
	}
}

func TestP18_2ReplaceAndCut(t *testing.T) {
	var asked []string
	by := func(name string) (string, bool) {
		asked = append(asked, name)
		return "[&" + name + ";]", name != "b"
	}
	if got := Replace("x&a;&#65;&b;&y;&a;&", by); got != "x[&a;]&#65;&b;[&y;][&a;]&" {
		t.Error(got)
	}
	if !slices.Equal(asked, []string{"a", "b", "y", "a"}) {
		t.Error(asked)
	}
	if got := Replace("x&a;", nil); got != "x&a;" {
		t.Error(got)
	}
	if got := Replace("x&a;y", func(string) (string, bool) { return "", true }); got != "xy" {
		t.Error(got)
	}
	cuts := []struct {
		s string
		l []string
	}{{"", []string{""}}, {"x", []string{"x"}}, {"&a;", []string{"", ""}}, {"x&a;&b;y&", []string{"x", "", "y&"}}}
	for _, x := range cuts {
		if got := Cut(x.s); !slices.Equal(got, x.l) {
			t.Errorf("%q: %q", x.s, got)
		}
	}
}

func TestP18_3WhatFollows(t *testing.T) {
	for _, s := range []string{"", "&a;", "x&a;y&&b;&#65;&c;z", "&", "&a;&b;", "&x"} {
		parts, l, out := Cut(s), All(s), ""
		if len(parts) != len(l)+1 {
			t.Fatal(s, parts)
		}
		for i, r := range l {
			out += parts[i] + s[r.From:r.To]
		}
		if out+parts[len(l)] != s {
			t.Error(s, out)
		}
		if got := Replace(s, func(n string) (string, bool) { return "&" + n + ";", true }); got != s {
			t.Error(s, got)
		}
	}
}
