package cost

import (
	"math/rand"
	"slices"
	"strconv"
	"strings"
	"testing"

	"narthex/api"
	"narthex/cref"
	"narthex/graph"
	"narthex/refs"
)

func entities(l ...string) []api.Entity {
	var out []api.Entity
	for i := 0; i < len(l); i += 2 {
		out = append(out, api.Entity{Name: l[i], Text: l[i+1]})
	}
	return out
}

const top = 1<<63 - 1

// laughs are levels of an entity that holds the one below so many times.
func laughs(levels, width int, unit string) []api.Entity {
	l := entities("e0", unit)
	for i := 1; i <= levels; i++ {
		l = append(l, entities("e"+strconv.Itoa(i), strings.Repeat("&e"+strconv.Itoa(i-1)+";", width))...)
	}
	return l
}

func TestP20_1P20_2Sizes(t *testing.T) {
	l := entities("a", "xx", "b", "&a;&a;")
	if s, e := Of(l, "&b;"); s != (Size{13, 4, 2}) || e != api.OK {
		t.Error(s, e)
	}
	if all, e := All(l); !slices.Equal(all, []Size{{2, 2, 0}, {10, 4, 1}}) || e != api.OK {
		t.Error(all, e)
	}
	rows := []struct {
		l    []api.Entity
		text string
		s    Size
	}{
		{nil, "", Size{}}, {nil, "abc", Size{3, 3, 0}}, {nil, "&lt;x&y;&#65;", Size{13, 10, 0}}, {l, "&a;-&none;", Size{12, 9, 1}}, {entities("lt", "abc"), "&lt;", Size{7, 3, 1}}, {entities("a", ""), "&a;&a;", Size{6, 0, 1}},
		{append([]api.Entity{{Name: "a", Out: true, Text: "zz"}}, l...), "&a;", Size{5, 2, 1}}, {entities("a", "1", "a", "22"), "&a;", Size{4, 1, 1}}, {[]api.Entity{{Name: "o", Out: true}}, "&o;", Size{3, 3, 0}}, {l, "<!--&a;-->", Size{12, 9, 1}},
	}
	for _, x := range rows {
		if s, e := Of(x.l, x.text); s != x.s || e != api.OK {
			t.Errorf("%q: %v %d", x.text, s, e)
		}
	}
	loop := entities("x", "y", "a", "&b;", "b", "&a;")
	if all, e := All(loop); len(all) != 0 || e != api.ErrLoop {
		t.Error(all, e)
	}
	if s, e := Of(loop, ""); s != (Size{}) || e != api.ErrLoop {
		t.Error(s, e)
	}
	if s, e := Full(loop, "", 9); s != "" || e != api.ErrLoop {
		t.Error(s, e)
	}
	if Sum(Size{1, 2, 3}, Size{10, 20, 1}) != (Size{11, 22, 3}) || Sum(Size{top, top, 1}, Size{1, 1, 2}) != (Size{top, top, 2}) {
		t.Error("Sum")
	}
}

func TestP20_3Full(t *testing.T) {
	l := entities("a", "x&lt;&b;", "b", "[&c;]", "c", "")
	if s, e := Full(l, "&a;&b;&amp;&z;&#65;", 19); s != "x<[][]&&z;&#65;" || e != api.OK {
		t.Error(s, e)
	}
	if s, e := Full(l, "&a;", 4); s != "x<[]" || e != api.OK {
		t.Error(s, e)
	}
	if s, e := Full(l, "&a;", 3); s != "" || e != api.ErrLimit {
		t.Error(s, e)
	}
	if s, e := Full(l, "", -1); s != "" || e != api.ErrLimit {
		t.Error(s, e)
	}
	if s, e := Full(nil, "", 0); s != "" || e != api.OK {
		t.Error(s, e)
	}
}

func TestP20_3FewSteps(t *testing.T) {
	if s, e := Full(laughs(200, 16, "x"), "&e200;", 1<<40); s != "" || e != api.ErrLimit {
		t.Error(len(s), e)
	}
	if s, e := Full(laughs(200, 16, "x"), "&e200;", top); s != "" || e != api.ErrLimit {
		t.Error("more than any answer has", len(s), e)
	}
	if s, e := Full(laughs(200, 16, ""), "a&e200;b", 2); s != "ab" || e != api.OK {
		t.Error(len(s), e)
	}
	if s, e := Full(laughs(200, 1, "xy"), "&e200;", 2); s != "xy" || e != api.OK {
		t.Error(len(s), e)
	}
	// a chain on which each level has one that brings a byte, and many that bring none
	l := laughs(60, 2, "")
	l = append(l, entities("z", "&e60;&e60;1&e60;")...)
	if s, e := Full(l, strings.Repeat("&z;", 1000), 1000); s != strings.Repeat("1", 1000) || e != api.OK {
		t.Error(len(s), e)
	}
}

func TestP20_4Doubled(t *testing.T) {
	all, e := All(laughs(100, 2, "x"))
	if e != api.OK {
		t.Fatal(e)
	}
	for n, s := range all {
		if n < 62 && (s.Cost < 1<<n || s.Length != 1<<n) || n > 63 && (s.Cost != top || s.Length != top) || s.Depth != n {
			t.Error(n, s)
		}
	}
}

// slow expands as the chapter says it, and tells what it goes over.
func slow(l []api.Entity, g graph.Graph, text string) (string, int) {
	cost := len(text)
	out := refs.Replace(text, func(name string) (string, bool) {
		if slices.Contains(g.Names, name) {
			for _, x := range l {
				if x.Name == name && !x.Out {
					s, c := slow(l, g, x.Text)
					cost += c
					return s, true
				}
			}
		}
		r, ok := cref.Known(name)
		return string(rune(r)), ok
	})
	return out, cost
}

func TestP20_4AtRandom(t *testing.T) {
	r := rand.New(rand.NewSource(20))
	words := []string{"&a;", "&b;", "&c;", "&d;", "&lt;", "&e;", "&#65;", "x", "yy", "&", ""}
	text := func(from int) string {
		s := ""
		for range r.Intn(5) {
			s += words[from+r.Intn(len(words)-from)]
		}
		return s
	}
	for range 3000 {
		l := entities("a", text(1), "b", text(2), "c", text(3), "d", text(4))
		if r.Intn(4) == 0 {
			l[r.Intn(4)].Out = true
		}
		x, y := text(0), text(0)
		want, c := slow(l, graph.Of(l), x)
		s, e := Of(l, x)
		if e != api.OK || s.Cost != c || s.Length != len(want) {
			t.Fatal(l, x, s, c, want)
		}
		if got, e := Full(l, x, len(want)); got != want || e != api.OK {
			t.Fatal(l, x, got, want)
		}
		if _, e := Full(l, x, len(want)-1); e != api.ErrLimit {
			t.Fatal(l, x, e)
		}
		sy, _ := Of(l, y)
		if both, _ := Of(l, x+"."+y); both != Sum(Sum(s, sy), Size{1, 1, 0}) && !strings.HasSuffix(x, "&") {
			t.Fatal(l, x, y, both)
		}
	}
}
