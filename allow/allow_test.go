package allow

import (
	"slices"
	"strings"
	"testing"

	"narthex/api"
)

func TestP22_1Patterns(t *testing.T) {
	longest := "a://b/" + strings.Repeat("c", 4089) + "/"
	rows := []struct {
		pattern, norm string
		e             api.Errno
	}{
		{"HTTP://a/x/*", "http://a/x/*", api.OK}, {"a://B", "a://b/", api.OK}, {"a://b/*", "a://b/*", api.OK}, {"a://b/x/%2e./*", "a://b/*", api.OK}, {"a://b/x*", "a://b/x*", api.OK}, {"a://b/**", "a://b/**", api.OK}, {longest + "*", longest + "*", api.OK},
		{"a://*", "", api.ErrForm}, {"*", "", api.ErrForm}, {"/*", "", api.ErrForm}, {"", "", api.ErrForm}, {"a://b*", "", api.ErrForm}, {"a:///*", "", api.ErrForm}, {longest + "c*", "", api.ErrBig}, {longest + "c/*", "", api.ErrBig},
	}
	for _, x := range rows {
		if n, e := Norm(x.pattern); n != x.norm || e != x.e {
			t.Errorf("%.30q: %.30q %d", x.pattern, n, e)
		}
		if Right(x.pattern) != (x.e == api.OK) {
			t.Errorf("Right %.30q", x.pattern)
		}
	}
	matches := []struct {
		pattern, id string
		want        bool
	}{
		{"http://a/x/*", "http://A/x/y", true}, {"http://a/x/*", "http://a/x/../y", false}, {"http://a/x/*", "http://a/x/", false}, {"http://a/x/*", "http://a/x", false}, {"http://a/x/*", "http://a/x/y/z", true}, {"http://a/x/*", "http://a/x/y/../..", false}, {"http://a/x/*", "http://a/x/%2e%2e/y", false}, {"http://a/x/*", "http://a/X/y", false}, {"http://a/x/*", "https://a/x/y", false},
		{"http://a/x/*", "http://a/%78/y", true}, {"a://b", "A://B/", true}, {"a://b", "a://b/c", false}, {"a://b/*", "a://b", false}, {"a://b/*", "a://b/*", true}, {"a://b/x*", "a://b/x*", true}, {"a://b/x*", "a://b/xy", false}, {"x", "x", false}, {"a://b/*", "x", false}, {"a://b/*", "a://bc/d", false}, {"a://b/*", "a://b/%2f", true},
	}
	for _, x := range matches {
		if Match(x.pattern, x.id) != x.want {
			t.Error(x)
		}
	}
}

func TestP22_2FindAndCheck(t *testing.T) {
	list := []string{"wrong", "a://b/x", "a://b/y/*"}
	if n, ok := Find(list, "A://B/y/./z"); n != "a://b/y/z" || !ok {
		t.Error(n, ok)
	}
	if n, ok := Find(list, "a://b/z"); n != "" || ok {
		t.Error(n, ok)
	}
	if n, ok := Find(list, "wrong"); n != "" || ok {
		t.Error(n, ok)
	}
	many := slices.Repeat([]string{"a://b"}, 64)
	if e := Check(many); e != api.OK {
		t.Error(e)
	}
	if e := Check(append(many, "wrong")); e != api.ErrBig {
		t.Error(e)
	}
	if e := Check(list); e != api.ErrForm {
		t.Error(e)
	}
	if e := Check(nil); e != api.OK {
		t.Error(e)
	}
	if n, ok := Find(append(many, "c://d"), "c://d"); n != "c://d/" || !ok {
		t.Error("more patterns than may be", n, ok)
	}
}

func TestP22_3WhatFollows(t *testing.T) {
	ids := []string{"a://b/x", "a://b/x/", "a://b/x/y", "A://b/%78/%79", "a://b/x/../x/y", "a://b/../x"}
	lists := [][]string{nil, {"a://b/x"}, {"a://b/x", "a://b/x/*"}, {"a://b/x", "a://b/x/*", "a://b/*"}}
	for _, id := range ids {
		before := false
		for i, list := range lists {
			_, ok := Find(list, id)
			if before && !ok || ok && i == 0 {
				t.Error(id, i)
			}
			before = ok
		}
	}
	for _, list := range lists {
		a, x := Find(list, "a://b/x/y")
		for _, id := range ids[3:5] {
			if b, y := Find(list, id); a != b || x != y {
				t.Error(list, id)
			}
		}
	}
}
