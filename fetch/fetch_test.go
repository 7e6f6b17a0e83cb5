package fetch

import (
	"slices"
	"testing"

	"narthex/api"
	"narthex/oracle"
)

func cfg(gets, bytes int, list ...string) api.Cfg {
	return api.Cfg{MaxFetch: gets, MaxBytes: bytes, Allow: list}
}

func ok(id, data string) api.Answer { return api.Answer{ID: id, OK: true, Data: []byte(data)} }

func guard(t *testing.T, c api.Cfg, script ...api.Answer) *Guard {
	t.Helper()
	g, e := New(c, script)
	if e != api.OK {
		t.Fatal(e)
	}
	return g
}

func get(t *testing.T, g *Guard, id, want string, we api.Errno) {
	t.Helper()
	if b, e := g.Get(id); string(b) != want || e != we {
		t.Errorf("%s: %q %d", id, b, e)
	}
}

func TestP24_1New(t *testing.T) {
	for _, bad := range []int{-1, api.MaxLimit + 1, -1 << 63} {
		if g, e := New(cfg(bad, 0, "wrong"), nil); g != nil || e != api.ErrArg {
			t.Error(bad, e)
		}
		if g, e := New(cfg(0, bad), nil); g != nil || e != api.ErrArg {
			t.Error(bad, e)
		}
	}
	many := slices.Repeat([]api.Answer{{}}, 257)
	if g, e := New(cfg(0, 0, "wrong"), many); g != nil || e != api.ErrForm {
		t.Error(e)
	}
	if g, e := New(cfg(0, 0, slices.Repeat([]string{"a://b"}, 65)...), many); g != nil || e != api.ErrBig {
		t.Error(e)
	}
	if g, e := New(cfg(0, 0), many); g != nil || e != api.ErrBig {
		t.Error(e)
	}
	// other limits are not looked at here
	g, e := New(api.Cfg{MaxSize: -1, MaxFetch: api.MaxLimit, MaxBytes: api.MaxLimit}, many[:256])
	if e != api.OK || len(g.Trace()) != 0 || g.Read() != 0 || g.Left() != api.MaxLimit {
		t.Error(e)
	}
}

func TestP24_2Get(t *testing.T) {
	g := guard(t, cfg(1, 10, "a://b/*"), ok("A://b/x", "told"))
	get(t, g, "a://b/x", "told", api.OK)
	get(t, g, "A://B/./x", "told", api.OK)
	get(t, g, "a://b/y", "", api.ErrLimit)
	get(t, g, "a://c/", "", api.ErrFetch)
	get(t, g, "wrong", "", api.ErrFetch)
	if !slices.Equal(g.Trace(), []string{"a://b/x"}) || g.Read() != 4 || g.Left() != 6 {
		t.Error(g.Trace(), g.Read(), g.Left())
	}
}

func TestP24_2WhatIsRemembered(t *testing.T) {
	g := guard(t, cfg(4, 5, "a://b/*"), ok("a://b/big", "123456"), ok("a://b/one", "1"), api.Answer{ID: "a://b/no"}, ok("a://b/empty", ""))
	get(t, g, "a://b/one", "1", api.OK)
	get(t, g, "a://b/no", "", api.ErrFetch)
	get(t, g, "a://b/big", "", api.ErrLimit)
	if g.Read() != 5 || g.Left() != 0 {
		t.Error("all that was left is read", g.Read(), g.Left())
	}
	get(t, g, "a://b/big", "", api.ErrLimit)
	get(t, g, "a://b/no", "", api.ErrFetch)
	get(t, g, "a://b/one", "1", api.OK)
	get(t, g, "a://b/empty", "", api.OK)
	get(t, g, "a://b/none", "", api.ErrLimit)
	get(t, g, "a://b/none", "", api.ErrLimit)
	if !slices.Equal(g.Trace(), []string{"a://b/one", "a://b/no", "a://b/big", "a://b/empty"}) || g.Read() != 5 {
		t.Error(g.Trace())
	}
	exact := guard(t, cfg(1, 6, "a://b/*"), ok("a://b/big", "123456"))
	get(t, exact, "a://b/big", "123456", api.OK)
	none := guard(t, cfg(2, 0, "a://b/*"))
	get(t, none, "a://b/none", "", api.ErrFetch)
	if !slices.Equal(none.Trace(), []string{"a://b/none"}) {
		t.Error(none.Trace())
	}
}

func TestP24_2OwnMemory(t *testing.T) {
	script := []api.Answer{ok("a://b/x", "told")}
	c := cfg(3, 10, "a://b/*")
	g := guard(t, c, script...)
	c.Allow[0], script[0].Data[0], script[0].ID = "c://d", 'X', "a://b/z"
	get(t, g, "a://b/x", "told", api.OK)
	b, _ := g.Get("a://b/x")
	b[0] = 'X'
	get(t, g, "a://b/x", "told", api.OK)
	g.Trace()[0] = "changed"
	if g.Trace()[0] != "a://b/x" {
		t.Error("Trace")
	}
}

func TestP24_3P24_4Blind(t *testing.T) {
	ids := []string{"a://b/1", "a://b/2", "a://b/1", "a://c/1", "x", "a://b/3", "a://b/%31"}
	for _, list := range [][]string{nil, {"a://b/*"}, {"a://b/2"}, {"a://c/*", "a://b/1"}} {
		for gets := range 4 {
			c := cfg(gets, 5, list...)
			x := []api.Answer{ok("a://b/1", "123"), ok("a://b/2", "45"), ok("a://c/1", "secret")}
			y := oracle.Only(x, list)
			if !oracle.Agree(x, y, list) {
				t.Fatal("scripts")
			}
			g, h := guard(t, c, x...), guard(t, c, y...)
			for _, id := range ids {
				a, ea := g.Get(id)
				b, eb := h.Get(id)
				if string(a) != string(b) || ea != eb {
					t.Error(id, list)
				}
			}
			trace := g.Trace()
			if !slices.Equal(trace, h.Trace()) || g.Read() != h.Read() || g.Read() > 5 || len(trace) > gets || len(list) == 0 && len(trace) > 0 {
				t.Error(trace)
			}
			slices.Sort(trace)
			if len(slices.Compact(trace)) != len(g.Trace()) {
				t.Error("twice", trace)
			}
		}
	}
}

func TestP24NilAndZero(t *testing.T) {
	var g *Guard
	if b, e := g.Get("a://b"); len(b) != 0 || e != api.ErrNil || len(g.Trace()) != 0 || g.Read() != 0 || g.Left() != 0 {
		t.Error("nil")
	}
	var zero Guard
	zero.Get("a://b")
}
