package graph

import (
	"math/rand"
	"reflect"
	"slices"
	"strconv"
	"testing"

	"narthex/api"
)

func entity(name, text string) api.Entity { return api.Entity{Name: name, Text: text} }

func plain(to ...[]int) Graph {
	g := Graph{To: to}
	for i := range to {
		g.Names = append(g.Names, strconv.Itoa(i))
	}
	return g
}

func TestP19_1Of(t *testing.T) {
	l := []api.Entity{entity("a", "&b;&x;&b;&a;&out;"), {Name: "out", Out: true}, {Name: "b", Out: true}, entity("b", "&lt;"), entity("a", "&c;"), entity("c", "&b;&a;<!--&c;-->")}
	g := Of(l)
	if !slices.Equal(g.Names, []string{"a", "b", "c"}) || len(g.To) != 3 || !slices.Equal(g.To[0], []int{1, 0}) || len(g.To[1]) != 0 || !slices.Equal(g.To[2], []int{1, 0, 2}) {
		t.Error(g)
	}
	if none := Of(nil); len(none.Names)+len(none.To) != 0 || !Right(none) {
		t.Error(none)
	}
}

func TestP19_1Right(t *testing.T) {
	wrong := []Graph{{Names: []string{"a"}}, {To: [][]int{nil}}, plain([]int{1}), plain([]int{-1}), plain(nil, []int{0, 2})}
	for i, g := range wrong {
		if Right(g) {
			t.Error(i)
		}
		if at, ok := Loop(g); at != 0 || ok {
			t.Error(i, at, ok)
		}
		if l, e := Order(g); len(l) != 0 || e != api.ErrArg {
			t.Error(i, l, e)
		}
		if l, e := Depths(g); len(l) != 0 || e != api.ErrArg {
			t.Error(i, l, e)
		}
		if l, e := Reach(g, 5); len(l) != 0 || e != api.ErrArg {
			t.Error(i, l, e)
		}
	}
	if !Right(Graph{}) || !Right(Graph{Names: []string{"a", "a"}, To: [][]int{{1}, nil}}) {
		t.Error("right")
	}
}

func TestP19_2LoopAndOrder(t *testing.T) {
	rows := []struct {
		g     Graph
		at    int
		loop  bool
		order []int
	}{
		{plain(), 0, false, nil}, {plain([]int{1}, nil), 0, false, []int{1, 0}}, {plain([]int{0}), 0, true, nil}, {plain([]int{1}, []int{2}, []int{1}), 1, true, nil}, {plain([]int{2}, nil, []int{3}, []int{2, 1}), 2, true, nil},
		{plain(nil, nil, nil), 0, false, []int{0, 1, 2}}, {plain([]int{3, 3}, nil, []int{0}, nil), 0, false, []int{1, 3, 0, 2}}, {plain([]int{1, 2}, []int{3}, []int{3}, nil), 0, false, []int{3, 1, 2, 0}},
	}
	for i, x := range rows {
		if at, loop := Loop(x.g); at != x.at || loop != x.loop {
			t.Error(i, at, loop)
		}
		e := api.OK
		if x.loop {
			e = api.ErrLoop
		}
		if order, got := Order(x.g); !slices.Equal(order, x.order) || got != e {
			t.Error(i, order, got)
		}
		if _, got := Depths(x.g); got != e {
			t.Error(i, got)
		}
	}
}

func TestP19_3DepthsAndReach(t *testing.T) {
	g := plain([]int{1, 2}, []int{3}, nil, nil, nil)
	if d, e := Depths(g); !slices.Equal(d, []int{3, 2, 1, 1, 1}) || e != api.OK {
		t.Error(d, e)
	}
	if l, e := Reach(g, 0); !slices.Equal(l, []int{0, 1, 2, 3}) || e != api.OK {
		t.Error(l, e)
	}
	for _, from := range []int{-1, 5, -1 << 63, 1<<63 - 1} {
		if l, e := Reach(g, from); len(l) != 0 || e != api.ErrRange {
			t.Error(from, l, e)
		}
	}
	if l, e := Reach(plain([]int{1}, []int{0}), 1); !slices.Equal(l, []int{0, 1}) || e != api.OK {
		t.Error(l, e)
	}
}

// reaches tells by plain search whether ways, one or more, lead from a place to another one.
func reaches(g Graph, from, to int) bool {
	for _, next := range g.To[from] {
		if l, _ := Reach(g, next); slices.Contains(l, to) {
			return true
		}
	}
	return false
}

func TestP19_4AtRandom(t *testing.T) {
	r := rand.New(rand.NewSource(19))
	for range 3000 {
		n := 1 + r.Intn(7)
		g := plain(make([][]int, n)...)
		for range r.Intn(2 * n) {
			from := r.Intn(n)
			g.To[from] = append(g.To[from], r.Intn(n))
		}
		before := Graph{slices.Clone(g.Names), slices.Clone(g.To)}
		want, loop := 0, false
		for i := n - 1; i >= 0; i-- {
			if reaches(g, i, i) {
				want, loop = i, true
			}
		}
		if at, ok := Loop(g); at != want || ok != loop {
			t.Fatal(g, at, ok)
		}
		order, e := Order(g)
		if (e == api.ErrLoop) != loop {
			t.Fatal(g, e)
		}
		if loop {
			continue
		}
		depths, _ := Depths(g)
		var told []int
		for range n {
			for i := range n {
				if !slices.Contains(told, i) && !slices.ContainsFunc(g.To[i], func(to int) bool { return !slices.Contains(told, to) }) {
					told = append(told, i)
					break
				}
			}
		}
		if !slices.Equal(order, told) {
			t.Fatal(g, order, told)
		}
		for i, to := range g.To {
			for _, j := range to {
				if depths[j] >= depths[i] {
					t.Fatal(g, depths)
				}
			}
		}
		if !reflect.DeepEqual(before, g) {
			t.Fatal("changed", g)
		}
	}
}

func TestP19_2LongRows(t *testing.T) {
	n := 200000
	to := make([][]int, n)
	for i := range n - 1 {
		to[i] = []int{i + 1}
	}
	g := plain(to...)
	if _, ok := Loop(g); ok {
		t.Error("no loop")
	}
	if d, e := Depths(g); d[0] != n || e != api.OK {
		t.Error(e)
	}
	g.To[n-1] = []int{n / 2}
	if at, ok := Loop(g); at != n/2 || !ok {
		t.Error(at, ok)
	}
}
