package attval

import (
	"strconv"
	"strings"
	"testing"

	"narthex/api"
	"narthex/atype"
)

func entities(l ...string) []api.Entity {
	var out []api.Entity
	for i := 0; i < len(l); i += 2 {
		out = append(out, api.Entity{Name: l[i], Text: l[i+1]})
	}
	return out
}

func TestP27_1Value(t *testing.T) {
	l := append(entities("x", "&lt;y", "b", " \n&c; ", "c", "[&#32;&#9;]", "bad", "<", "amp", "no", "e", "", "half", "&x", "twice", "1"), api.Entity{Name: "out", Out: true}, api.Entity{Name: "twice", Text: "2"}, api.Entity{Name: "o2", Out: true}, api.Entity{Name: "o2", Text: "inner"})
	rows := []struct {
		raw  string
		kind int
		deep int
		want string
		e    api.Errno
	}{
		{"a&#10;b\nc", atype.CData, 0, "a\nb c", api.OK}, {"&x;", atype.CData, 1, "<y", api.OK}, {"\r\n\t", atype.CData, 0, "   ", api.OK}, {"&amp;&quot;&apos;&gt;", atype.CData, 0, `&"'>`, api.OK}, {"&#x20AC;\xFF", atype.CData, 0, "€\xFF", api.OK}, {"", atype.CData, 0, "", api.OK},
		{"-&b;-", atype.CData, 2, "-  [ \t] -", api.OK}, {"-&b;-", atype.Token, 2, "- [ \t] -", api.OK}, {" a  b ", atype.Tokens, 0, "a b", api.OK}, {"&#32;&#32;a", 0, 0, "a", api.OK}, {"&#38;#60;&#38;", atype.CData, 0, "&#60;&", api.OK}, {"&twice;", atype.CData, 1, "1", api.OK}, {"&e;&e;", atype.CData, 1, "", api.OK},
		{"<", atype.CData, 9, "", api.ErrForm}, {"&bad;", atype.CData, 9, "", api.ErrForm}, {"&none;", atype.CData, 9, "", api.ErrForm}, {"&out;", atype.CData, 9, "", api.ErrForm}, {"&o2;", atype.CData, 9, "", api.ErrForm}, {"&half;", atype.CData, 9, "", api.ErrForm}, {"&", atype.CData, 9, "", api.ErrForm}, {"&x", atype.CData, 9, "", api.ErrForm}, {"&#0;", atype.CData, 9, "", api.ErrChar}, {"&#;", atype.CData, 9, "", api.ErrForm}, {"&" + strings.Repeat("n", 1025) + ";", atype.CData, 9, "", api.ErrLimit},
		{"&x;", atype.CData, 0, "", api.ErrLimit}, {"&x;", atype.CData, -1, "", api.ErrLimit}, {"&b;", atype.CData, 1, "", api.ErrLimit}, {"&x;<", atype.CData, 0, "", api.ErrLimit}, {"<&x;", atype.CData, 0, "", api.ErrForm}, {"&out;", atype.CData, 0, "", api.ErrForm}, {"&#0;<", atype.CData, 9, "", api.ErrChar},
	}
	for _, x := range rows {
		if s, e := Value(l, x.raw, x.kind, x.deep); s != x.want || e != x.e {
			t.Errorf("%.20q %d %d: %q %d", x.raw, x.kind, x.deep, s, e)
		}
	}
	loop := append(entities("a", "&a;"), l...)
	if s, e := Value(loop, "plain", atype.CData, 9); s != "" || e != api.ErrLoop {
		t.Error(s, e)
	}
}

// TestP27_1Nothing: texts of which nothing comes, each twice in the next one, are not gone over 2^60 times; and how deep they lie is not forgotten.
func TestP27_1Nothing(t *testing.T) {
	l := entities("e0", "")
	for i := 1; i <= 60; i++ {
		l = append(l, entities("e"+strconv.Itoa(i), strings.Repeat("&e"+strconv.Itoa(i-1)+";", 2))...)
	}
	if s, e := Value(l, "a&e60;b", atype.CData, 61); s != "ab" || e != api.OK {
		t.Error(s, e)
	}
	if s, e := Value(l, "a&e60;b", atype.CData, 60); s != "" || e != api.ErrLimit {
		t.Error(s, e)
	}
	l = append(l, entities("f", "&e3;", "g", "&e5;&f;")...)
	for deep, want := range map[int]api.Errno{6: api.ErrLimit, 7: api.OK} {
		if _, e := Value(l, "&f;&g;&f;", atype.CData, deep); e != want {
			t.Error(deep, e)
		}
	}
	for deep, want := range map[int]api.Errno{4: api.ErrLimit, 5: api.OK} {
		if _, e := Value(l, "&e3;&f;", atype.CData, deep); e != want {
			t.Error("met again deeper", deep, e)
		}
	}
}

func TestP27_2FoldAndWrite(t *testing.T) {
	if s := Fold("a\r\n\t b\xFF"); s != "a    b\xFF" {
		t.Errorf("%q", s)
	}
	if s := Write("a<\n"); s != "a&lt;&#10;" {
		t.Error(s)
	}
}

func TestP27_3ThereAndBack(t *testing.T) {
	for _, l := range [][]api.Entity{nil, entities("lt", "no", "x", "<"), {{Name: "amp", Out: true}}} {
		for _, v := range []string{"", "a<b>&\"'", " \r\n\t ", "&lt;&#10;", "\xFF]]>"} {
			if s, e := Value(l, Write(v), atype.CData, 0); s != v || e != api.OK {
				t.Errorf("%q: %q %d", v, s, e)
			}
			if s, e := Value(l, Write(v), atype.ID, 0); s != atype.Trim(atype.ID, v) || e != api.OK {
				t.Errorf("%q: %q %d", v, s, e)
			}
		}
	}
}
