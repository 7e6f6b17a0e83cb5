package diff

import (
	"slices"
	"testing"

	"narthex/api"
)

func start(local string) api.Event {
	return api.Event{Kind: api.Start, Name: api.Name{Local: local}}
}
func end(local string) api.Event { return api.Event{Kind: api.End, Name: api.Name{Local: local}} }
func text(s string) api.Event    { return api.Event{Kind: api.Text, Text: s} }

func attr(local, value string) api.Attr {
	return api.Attr{Name: api.Name{Local: local}, Value: value}
}

func TestP42_1PartsAndFirst(t *testing.T) {
	x := api.Event{Kind: api.Start, Name: api.Name{Space: "u", Local: "a"}, Attrs: []api.Attr{attr("b", "1"), attr("c", "2")}, Text: "t"}
	with := func(f func(*api.Event)) api.Event {
		y := x
		y.Attrs = slices.Clone(x.Attrs)
		f(&y)
		return y
	}
	rows := []struct {
		f    func(*api.Event)
		want int
	}{
		{func(e *api.Event) {}, 0}, {func(e *api.Event) { e.Kind = 9 }, 1}, {func(e *api.Event) { e.Name.Space = "" }, 2}, {func(e *api.Event) { e.Name.Local = "z" }, 2}, {func(e *api.Event) { e.Attrs = e.Attrs[:1] }, 4}, {func(e *api.Event) { slices.Reverse(e.Attrs) }, 4}, {func(e *api.Event) { e.Attrs[1].Value = "" }, 4}, {func(e *api.Event) { e.Attrs[0].Name.Space = "v" }, 4}, {func(e *api.Event) { e.Text = "" }, 8}, {func(e *api.Event) { *e = api.Event{} }, 15},
	}
	for i, r := range rows {
		y := with(r.f)
		if Parts(x, y) != r.want || Parts(y, x) != r.want {
			t.Error(i, Parts(x, y))
		}
	}
	if Parts(api.Event{}, api.Event{Attrs: []api.Attr{}}) != 0 {
		t.Error("nil and empty")
	}
	firsts := []struct {
		a, b []api.Event
		at   int
		same bool
	}{{nil, nil, 0, true}, {[]api.Event{x}, []api.Event{x}, 1, true}, {[]api.Event{x, x}, []api.Event{x}, 1, false}, {nil, []api.Event{x}, 0, false}, {[]api.Event{x, text("a"), x}, []api.Event{x, text("b")}, 1, false}, {[]api.Event{text("a")}, []api.Event{x}, 0, false}}
	for i, r := range firsts {
		if at, same := First(r.a, r.b); at != r.at || same != r.same {
			t.Error(i, at, same)
		}
		if at, same := First(r.b, r.a); at != r.at || same != r.same {
			t.Error(i, at, same)
		}
	}
}

var doc = []api.Event{start("a"), start("b"), end("b"), text("x"), start("b"), start("a"), text("y"), end("a"), end("b"), end("a")}

func TestP42_2PathAndFind(t *testing.T) {
	small := []api.Event{start("a"), start("b"), end("b"), end("a")}
	paths := []struct {
		l    []api.Event
		at   int
		path []string
		e    api.Errno
	}{
		{small, 0, nil, api.OK}, {small, 1, []string{"a"}, api.OK}, {small, 2, []string{"a", "b"}, api.OK}, {small, 3, []string{"a"}, api.OK}, {small, 4, nil, api.OK}, {small, -1, nil, api.ErrRange}, {small, 5, nil, api.ErrRange}, {[]api.Event{end("x"), start("a"), start("b"), end("z")}, 4, []string{"a"}, api.OK}, {nil, 0, nil, api.OK},
	}
	for _, x := range paths {
		if p, e := Path(x.l, x.at); !slices.Equal(p, x.path) || e != x.e {
			t.Error(x, p, e)
		}
	}
	finds := []struct {
		path   []string
		places []int
	}{{[]string{"a"}, []int{0}}, {[]string{"a", "b"}, []int{1, 4}}, {[]string{"a", "b", "a"}, []int{5}}, {nil, nil}, {[]string{"b"}, nil}, {[]string{"a", "b", "a", "a"}, nil}}
	for _, x := range finds {
		if got := Find(doc, x.path); !slices.Equal(got, x.places) {
			t.Error(x, got)
		}
	}
	if got := Find([]api.Event{end("x"), start("a"), start("b"), end("q"), start("b")}, []string{"a", "b"}); !slices.Equal(got, []int{2, 4}) {
		t.Error("events that are no document's", got)
	}
}

func TestP42_3TextAndSpan(t *testing.T) {
	if Text(doc) != "xy" || Text(nil) != "" || Text([]api.Event{{Kind: api.Comment, Text: "c"}, text("a"), text("b")}) != "ab" {
		t.Error("Text")
	}
	spans := []struct {
		at, end int
		e       api.Errno
	}{{0, 9, api.OK}, {1, 2, api.OK}, {4, 8, api.OK}, {5, 7, api.OK}, {2, 0, api.ErrNone}, {3, 0, api.ErrNone}, {-1, 0, api.ErrRange}, {10, 0, api.ErrRange}}
	for _, x := range spans {
		if at, e := Span(doc, x.at); at != x.end || e != x.e {
			t.Error(x, at, e)
		}
	}
	if at, e := Span([]api.Event{start("a"), start("b"), end("b")}, 0); at != 0 || e != api.ErrNone {
		t.Error(at, e)
	}
	if at, e := Span([]api.Event{start("a"), end("z"), end("y")}, 0); at != 1 || e != api.OK {
		t.Error("whatever its name", at, e)
	}
	if _, e := Span(nil, 0); e != api.ErrRange {
		t.Error(e)
	}
}

func TestP42_4WhatFollows(t *testing.T) {
	for i, e := range doc {
		if e.Kind != api.Start {
			continue
		}
		last, fault := Span(doc, i)
		before, _ := Path(doc, i)
		there, _ := Path(doc, last)
		if fault != api.OK || !slices.Equal(there, append(before, e.Name.Local)) {
			t.Error(i, last, there)
		}
		if !slices.Contains(Find(doc, there), i) {
			t.Error("Find", i)
		}
	}
}
