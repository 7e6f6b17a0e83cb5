package name

import (
	"strings"
	"testing"

	"narthex/api"
)

func TestP5_1Whole(t *testing.T) {
	long := strings.Repeat("a", 5000)
	rows := []struct {
		s                  string
		name, plain, token bool
	}{
		{"", false, false, false}, {"a", true, true, true}, {":", true, false, true}, {"a:b", true, false, true}, {"a:", true, false, true},
		{"1a", false, false, true}, {"-", false, false, true}, {"a-1.\u00B7", true, true, true}, {"a b", false, false, false}, {"ä_", true, true, true},
		{"a\xFF", false, false, false}, {"a\u00D7", false, false, false}, {long, true, true, true}, {"\u203F", false, false, true},
	}
	for _, x := range rows {
		if IsName(x.s) != x.name || IsPlain(x.s) != x.plain || IsToken(x.s) != x.token {
			t.Errorf("%.20q: %v %v %v", x.s, IsName(x.s), IsPlain(x.s), IsToken(x.s))
		}
	}
}

func TestP5_2Read(t *testing.T) {
	full, over := strings.Repeat("ä", 512), strings.Repeat("ä", 512)+"b"
	rows := []struct {
		b     string
		at    int
		name  string
		next  int
		e     api.Errno
		plain string
		pnext int
		pe    api.Errno
	}{
		{"ab:c=1", 0, "ab:c", 4, api.OK, "ab", 2, api.OK},
		{"ab:c=1", 3, "c", 4, api.OK, "c", 4, api.OK},
		{"ab:c=1", 2, ":c", 4, api.OK, "", 0, api.ErrForm},
		{"ab", 2, "", 0, api.ErrForm, "", 0, api.ErrForm},
		{"ab", 3, "", 0, api.ErrRange, "", 0, api.ErrRange},
		{"ab", -1, "", 0, api.ErrRange, "", 0, api.ErrRange},
		{"", 0, "", 0, api.ErrForm, "", 0, api.ErrForm},
		{"-a", 0, "", 0, api.ErrForm, "", 0, api.ErrForm},
		{"\xFFa", 0, "", 0, api.ErrForm, "", 0, api.ErrForm},
		{"a\xFFa", 0, "a", 1, api.OK, "a", 1, api.OK},
		{"äa", 1, "", 0, api.ErrForm, "", 0, api.ErrForm},
		{full + "<", 0, full, 1024, api.OK, full, 1024, api.OK},
		{over, 0, "", 0, api.ErrLimit, "", 0, api.ErrLimit},
		{full + ":b", 0, "", 0, api.ErrLimit, full, 1024, api.OK},
	}
	for _, x := range rows {
		if s, n, e := Name([]byte(x.b), x.at); s != x.name || n != x.next || e != x.e {
			t.Errorf("Name %.20q %d: %.20q %d %d", x.b, x.at, s, n, e)
		}
		if s, n, e := Plain([]byte(x.b), x.at); s != x.plain || n != x.pnext || e != x.pe {
			t.Errorf("Plain %.20q %d: %.20q %d %d", x.b, x.at, s, n, e)
		}
	}
}

func TestP5_3Part(t *testing.T) {
	rows := []struct {
		s, prefix, local string
		e                api.Errno
	}{
		{"ab:c", "ab", "c", api.OK}, {"c", "", "c", api.OK}, {"a::", "", "", api.ErrSpace}, {"a:b:c", "", "", api.ErrSpace}, {":a", "", "", api.ErrSpace},
		{"a:", "", "", api.ErrSpace}, {":", "", "", api.ErrSpace}, {"a:-b", "", "", api.ErrSpace}, {"a:1", "", "", api.ErrSpace}, {"", "", "", api.ErrForm},
		{"1:a", "", "", api.ErrForm}, {"a:b c", "", "", api.ErrForm}, {"a:\xFF", "", "", api.ErrForm},
	}
	for _, x := range rows {
		if p, l, e := Part(x.s); p != x.prefix || l != x.local || e != x.e {
			t.Errorf("%q: %q %q %d", x.s, p, l, e)
		}
	}
}

func TestP5_3Blanks(t *testing.T) {
	if Blanks([]byte("  a"), 0) != 2 || Blanks(nil, 0) != 0 {
		t.Error("from the beginning on")
	}
	b := []byte("a \t\r\nb ")
	rows := [][2]int{{0, 0}, {1, 5}, {3, 5}, {5, 5}, {6, 7}, {7, 7}, {8, 8}, {-1, -1}, {-1 << 63, -1 << 63}, {1<<63 - 1, 1<<63 - 1}}
	for _, x := range rows {
		if got := Blanks(b, x[0]); got != x[1] {
			t.Error(x, got)
		}
	}
}

func TestP5_4WhatFollows(t *testing.T) {
	for _, s := range []string{"a:b", "abc", "x.y:z-1"} {
		got, next, e := Name([]byte(s+" "), 0)
		if got != s || next != len(s) || e != api.OK || !IsName(got) {
			t.Error(s, got, next, e)
		}
		p, l, _ := Part(s)
		if p != "" {
			p += ":"
		}
		if p+l != s {
			t.Error(s, p, l)
		}
	}
}
