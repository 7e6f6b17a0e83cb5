package lit

import (
	"strings"
	"testing"

	"narthex/api"
	"narthex/cref"
)

type row struct {
	b    string
	at   int
	s    string
	next int
	e    api.Errno
}

func try(t *testing.T, what string, f func([]byte, int) (string, int, api.Errno), rows []row) {
	t.Helper()
	for _, x := range rows {
		if s, next, e := f([]byte(x.b), x.at); s != x.s || next != x.next || e != x.e {
			t.Errorf("%s %.30q %d: %q %d %d", what, x.b, x.at, s, next, e)
		}
	}
}

func TestP7_1Quoted(t *testing.T) {
	try(t, "Quoted", Quoted, []row{
		{`"ab"c`, 0, "ab", 4, api.OK}, {`'a"b'`, 0, `a"b`, 5, api.OK}, {`"'"`, 0, "'", 3, api.OK}, {`""`, 0, "", 2, api.OK}, {"x'\xFF<%&\x00'", 1, "\xFF<%&\x00", 8, api.OK},
		{`"a"b"`, 0, "a", 3, api.OK}, {`"a"`, -1, "", 0, api.ErrRange}, {`"a"`, 4, "", 0, api.ErrRange}, {`"a"`, 3, "", 0, api.ErrForm}, {`"a"`, 2, "", 0, api.ErrForm},
		{`"a`, 0, "", 0, api.ErrForm}, {`"a'`, 0, "", 0, api.ErrForm}, {`a"a"`, 0, "", 0, api.ErrForm}, {``, 0, "", 0, api.ErrForm}, {`"`, 0, "", 0, api.ErrForm},
	})
}

func TestP7_2Refs(t *testing.T) {
	long := strings.Repeat("n", 1025)
	rows := []struct {
		s  string
		at int
		e  api.Errno
	}{
		{"", 0, api.OK}, {"abc;", 0, api.OK}, {"a&b", 1, api.ErrForm}, {"&a;&#65;&#x41;&b.c;", 0, api.OK}, {"&a;x&", 4, api.ErrForm}, {"&#0;", 0, api.ErrChar},
		{"xx&#;&#0;", 2, api.ErrForm}, {"&a;&" + long + ";", 3, api.ErrLimit}, {"&a&b;", 0, api.ErrForm}, {"&a:b;", 0, api.ErrForm}, {"&#38;a&", 6, api.ErrForm}, {"<%\xFF", 0, api.OK},
	}
	for _, x := range rows {
		if at, e := Refs(x.s); at != x.at || e != x.e {
			t.Errorf("%.30q: %d %d", x.s, at, e)
		}
	}
}

func TestP7_3Values(t *testing.T) {
	try(t, "Value", Value, []row{
		{`'a&amp;b'`, 0, "a&amp;b", 9, api.OK}, {`"a<b"`, 0, "", 0, api.ErrForm}, {`"<b"`, 0, "", 0, api.ErrForm}, {`"&#0;"`, 0, "", 0, api.ErrChar}, {`"&#0;<"`, 0, "", 0, api.ErrForm}, {`"&x"`, 0, "", 0, api.ErrForm},
		{`"a%b"`, 0, "a%b", 5, api.OK}, {`"`, 0, "", 0, api.ErrForm}, {`""`, 3, "", 0, api.ErrRange}, {`"&` + strings.Repeat("n", 1025) + `;"`, 0, "", 0, api.ErrLimit}, {"'a\n>\"'", 0, "a\n>\"", 6, api.OK},
	})
	try(t, "Entity", Entity, []row{
		{`'a<b>&c;'`, 0, "a<b>&c;", 9, api.OK}, {`"a%b"`, 0, "", 0, api.ErrForm}, {`"%b"`, 0, "", 0, api.ErrForm}, {`"&#0;"`, 0, "", 0, api.ErrChar}, {`"&#0;%"`, 0, "", 0, api.ErrForm}, {`"a&b"`, 0, "", 0, api.ErrForm}, {`"&#37;"`, 0, "&#37;", 7, api.OK}, {`x`, 0, "", 0, api.ErrForm}, {`x`, -1, "", 0, api.ErrRange},
	})
	try(t, "Public", Public, []row{
		{`"-//A B//C'1"`, 0, "-//A B//C'1", 13, api.OK}, {`'a"b'`, 0, "", 0, api.ErrForm}, {`"a<"`, 0, "", 0, api.ErrForm}, {"\"a\tb\"", 0, "", 0, api.ErrForm}, {`"ä"`, 0, "", 0, api.ErrForm}, {"\"\xFF\"", 0, "", 0, api.ErrForm}, {`""`, 0, "", 2, api.OK}, {`"a`, 0, "", 0, api.ErrForm}, {`"a"`, 9, "", 0, api.ErrRange},
	})
	if s := Write("a<\"&\n"); s != `"a&lt;&quot;&amp;&#10;"` {
		t.Error(s)
	}
}

func TestP7_4WhatFollows(t *testing.T) {
	for _, s := range []string{"", "plain", "<>&\"'\r\n\t%", "&amp;", "\x00\xFF", "]]>"} {
		w := Write(s)
		got, next, e := Value([]byte(w), 0)
		if got != cref.Escape(s) || next != len(w) || e != api.OK {
			t.Errorf("%q: %q %d %d", s, got, next, e)
		}
	}
}
