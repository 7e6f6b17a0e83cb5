package cref

import (
	"strings"
	"testing"

	"narthex/api"
	"narthex/chars"
)

func TestP6_1Char(t *testing.T) {
	noughts := strings.Repeat("0", 3000)
	rows := []struct {
		b       string
		at      int
		r, next int
		e       api.Errno
	}{
		{"&#x41;", 0, 65, 6, api.OK}, {"&#65;", 0, 65, 5, api.OK}, {"ab&#x1f600;c", 2, 0x1F600, 11, api.OK}, {"&#xaF;", 0, 0xAF, 6, api.OK},
		{"&#" + noughts + "65;", 0, 65, 3005, api.OK}, {"&#x" + noughts + "9;", 0, 9, 3005, api.OK},
		{"&#65;", -1, 0, 0, api.ErrRange}, {"&#65;", 6, 0, 0, api.ErrRange}, {"&#65;", 5, 0, 0, api.ErrForm}, {"&#65;", 1, 0, 0, api.ErrForm},
		{"", 0, 0, 0, api.ErrForm}, {"&#", 0, 0, 0, api.ErrForm}, {"&#;", 0, 0, 0, api.ErrForm}, {"&#x;", 0, 0, 0, api.ErrForm}, {"&#x", 0, 0, 0, api.ErrForm}, {"&#65", 0, 0, 0, api.ErrForm},
		{"&#X41;", 0, 0, 0, api.ErrForm}, {"&#4a;", 0, 0, 0, api.ErrForm}, {"&#xg;", 0, 0, 0, api.ErrForm}, {"&# 65;", 0, 0, 0, api.ErrForm}, {"&#-1;", 0, 0, 0, api.ErrForm}, {"&lt;", 0, 0, 0, api.ErrForm},
		{"&#0;", 0, 0, 0, api.ErrChar}, {"&#xFFFE;", 0, 0, 0, api.ErrChar}, {"&#xD800;", 0, 0, 0, api.ErrChar}, {"&#x110000;", 0, 0, 0, api.ErrChar},
		{"&#99999999999999999999999999;", 0, 0, 0, api.ErrChar}, {"&#x10000000000000041;", 0, 0, 0, api.ErrChar}, {"&#18446744073709551681;", 0, 0, 0, api.ErrChar},
		{"&#0", 0, 0, 0, api.ErrForm},
	}
	for _, x := range rows {
		if r, next, e := Char([]byte(x.b), x.at); r != x.r || next != x.next || e != x.e {
			t.Errorf("%.30q %d: %d %d %d", x.b, x.at, r, next, e)
		}
	}
}

func TestP6_2EntityAndParam(t *testing.T) {
	full := strings.Repeat("n", 1024)
	rows := []struct {
		b    string
		at   int
		name string
		next int
		e    api.Errno
	}{
		{"&ab;", 0, "ab", 4, api.OK}, {"x&ä.1;y", 1, "ä.1", 7, api.OK}, {"&" + full + ";", 0, full, 1026, api.OK},
		{"&ab;", -1, "", 0, api.ErrRange}, {"&ab;", 5, "", 0, api.ErrRange}, {"&ab;", 4, "", 0, api.ErrForm}, {"ab;", 0, "", 0, api.ErrForm},
		{"&;", 0, "", 0, api.ErrForm}, {"&", 0, "", 0, api.ErrForm}, {"&a", 0, "", 0, api.ErrForm}, {"&a b;", 0, "", 0, api.ErrForm}, {"& a;", 0, "", 0, api.ErrForm}, {"&a:b;", 0, "", 0, api.ErrForm},
		{"&1;", 0, "", 0, api.ErrForm}, {"&#65;", 0, "", 0, api.ErrForm}, {"&" + full + "n;", 0, "", 0, api.ErrLimit}, {"&" + full + "n", 0, "", 0, api.ErrLimit},
	}
	for _, x := range rows {
		if s, next, e := Entity([]byte(x.b), x.at); s != x.name || next != x.next || e != x.e {
			t.Errorf("Entity %.20q %d: %.20q %d %d", x.b, x.at, s, next, e)
		}
		p := strings.ReplaceAll(x.b, "&", "%")
		if s, next, e := Param([]byte(p), x.at); s != x.name || next != x.next || e != x.e {
			t.Errorf("Param %.20q %d: %.20q %d %d", p, x.at, s, next, e)
		}
	}
	if _, _, e := Entity([]byte("%a;"), 0); e != api.ErrForm {
		t.Error(e)
	}
	if _, _, e := Param([]byte("&a;"), 0); e != api.ErrForm {
		t.Error(e)
	}
}

func TestP6_3KnownTextEscape(t *testing.T) {
	for name, want := range map[string]int{"lt": '<', "gt": '>', "amp": '&', "apos": '\'', "quot": '"'} {
		if r, ok := Known(name); r != want || !ok {
			t.Error(name, r, ok)
		}
	}
	for _, name := range []string{"", "LT", "l", "nbsp"} {
		if r, ok := Known(name); r != 0 || ok {
			t.Error(name, r, ok)
		}
	}
	if s, e := Text(65); s != "&#65;" || e != api.OK {
		t.Error(s, e)
	}
	for _, r := range []int{0, -1, 0xFFFE, 0xD800, 0x110000} {
		if s, e := Text(r); s != "" || e != api.ErrChar {
			t.Error(r, s, e)
		}
	}
	if s := Escape("a<b>&\"'\r\n\t ä\xFF"); s != "a&lt;b&gt;&amp;&quot;'&#13;&#10;&#9; ä\xFF" {
		t.Error(s)
	}
}

func TestP6_4WhatFollows(t *testing.T) {
	for r := 0; r <= 0x110000; r++ {
		s, e := Text(r)
		if (e == api.OK) != chars.Char(r) {
			t.Fatal(r)
		}
		if got, next, ge := Char([]byte(s), 0); e == api.OK && (got != r || next != len(s) || ge != api.OK) {
			t.Fatal(r, got, ge)
		}
	}
	text := "&&amp;<\"\r\n\t>'x\x00"
	s := Escape(text)
	if strings.ContainsAny(s, "<\"\r\n\t") {
		t.Error(s)
	}
	back := ""
	for at := 0; at < len(s); {
		if r, next, e := Char([]byte(s), at); e == api.OK {
			back, at = back+string(rune(r)), next
		} else if n, next, e := Entity([]byte(s), at); e == api.OK {
			r, _ := Known(n)
			back, at = back+string(rune(r)), next
		} else {
			back, at = back+s[at:at+1], at+1
		}
	}
	if back != text {
		t.Errorf("%q", back)
	}
}
