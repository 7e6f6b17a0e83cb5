package evalue

import (
	"strings"
	"testing"

	"narthex/api"
)

func TestP14_1Text(t *testing.T) {
	rows := []struct {
		value, text string
		e           api.Errno
	}{
		{"", "", api.OK}, {"abc", "abc", api.OK}, {"&#65;&a;", "A&a;", api.OK}, {"&#38;#60;", "&#60;", api.OK}, {"&#38;#38;#60;", "&#38;#60;", api.OK}, {"x&#xe4;y&#10;", "xäy\n", api.OK}, {"&lt;&#60;", "&lt;<", api.OK}, {"\xFF<&#37;", "\xFF<%", api.OK},
		{"a%b", "", api.ErrForm}, {"&", "", api.ErrForm}, {"&#0;", "", api.ErrChar}, {"&#0;%", "", api.ErrForm}, {"&" + strings.Repeat("n", 1025) + ";", "", api.ErrLimit}, {"&#65;&a", "", api.ErrForm},
	}
	for _, x := range rows {
		if s, e := Text(x.value); s != x.text || e != x.e {
			t.Errorf("%.30q: %q %d", x.value, s, e)
		}
	}
}

func TestP14_2Stays(t *testing.T) {
	for s, want := range map[string]bool{"": true, "a&b;": true, "&#65;": false, "%": false, "&": false, "&#;": false, "a#;": true} {
		if Stays(s) != want {
			t.Error(s)
		}
		if text, e := Text(s); want && (text != s || e != api.OK) {
			t.Error(s, text, e)
		}
	}
}

func TestP14_3Put(t *testing.T) {
	rows := []struct {
		text, value string
		e           api.Errno
	}{
		{"", "", api.OK}, {"&", "&#38;", api.OK}, {"a%\"'\r\n\t <ä", "a&#37;&#34;&#39;&#13;&#10;&#9; <ä", api.OK}, {"&a;", "&#38;a;", api.OK},
		{"\xFF", "", api.ErrUtf}, {"\x00\xFF", "", api.ErrUtf}, {"a\x00", "", api.ErrChar}, {"\uFFFE", "", api.ErrChar},
	}
	for _, x := range rows {
		if s, e := Put(x.text); s != x.value || e != x.e {
			t.Errorf("%q: %q %d", x.text, s, e)
		}
	}
}

func TestP14_4ThereAndBack(t *testing.T) {
	for _, s := range []string{"", "x", "&a;&#65;", "%p;", "\"'\r\n\t", "&&#", "€\U0010FFFF", "<![CDATA[]]>"} {
		v, e := Put(s)
		if e != api.OK || strings.ContainsAny(v, "\"'\r\n\t%") {
			t.Errorf("%q %q %d", s, v, e)
		}
		if got, e := Text(v); got != s || e != api.OK {
			t.Errorf("%q %q %q %d", s, v, got, e)
		}
	}
}
