package sweep

import (
	"slices"
	"strings"
	"testing"

	"narthex/api"
	"narthex/cost"
	"narthex/tok"
)

func kinds(l []tok.Tok) (k []int) {
	for _, t := range l {
		k = append(k, t.Kind)
	}
	return k
}

type row struct {
	s  string
	k  []int
	at int
	e  api.Errno
}

var long = strings.Repeat("n", 1025)

func TestP30_1P30_2Document(t *testing.T) {
	rows := []row{
		{"<a>x</a>", []int{tok.Open, tok.Text, tok.Close}, 8, api.OK}, {"<a/>", []int{tok.Empty}, 4, api.OK}, {" \n<?p?><a> </a>\t<!--c-->\r", []int{tok.Pi, tok.Open, tok.Text, tok.Close, tok.Comment}, 25, api.OK}, {"<a><b>&c;</b><![CDATA[]]>&#65;</a>", []int{tok.Open, tok.Open, tok.Ref, tok.Close, tok.CData, tok.Char, tok.Close}, 34, api.OK},
		{"<a/><b/>", nil, 4, api.ErrForm}, {"<a></a><b>", nil, 7, api.ErrForm}, {"", nil, 0, api.ErrForm}, {" <!--c-->", nil, 9, api.ErrForm}, {"x<a/>", nil, 0, api.ErrForm}, {"<a/>x", nil, 4, api.ErrForm}, {"<a/> &b;", nil, 5, api.ErrForm}, {"&#32;<a/>", nil, 0, api.ErrForm}, {"<![CDATA[]]><a/>", nil, 0, api.ErrForm}, {"</a>", nil, 0, api.ErrForm}, {"<a/></a>", nil, 4, api.ErrForm},
		{"<a></b>", nil, 3, api.ErrForm}, {"<a><b></a></b>", nil, 6, api.ErrForm}, {"<a>x", nil, 4, api.ErrForm}, {"<a><b></b>", nil, 10, api.ErrForm}, {"<a>x&#0;", nil, 4, api.ErrChar}, {"<a>]]></a>", nil, 3, api.ErrForm}, {"<a b='' b=''/>", nil, 0, api.ErrTwice}, {"<a>&" + long + ";</a>", nil, 3, api.ErrLimit}, {"x&#0;", nil, 0, api.ErrForm}, {" ]]><a/>", nil, 0, api.ErrForm},
		{"<a/><!DOCTYPE a>", nil, 4, api.ErrForm},
	}
	for _, x := range rows {
		if l, at, e := Document([]byte(x.s), 0); !slices.Equal(kinds(l), x.k) || at != x.at || e != x.e {
			t.Errorf("%.30q: %v %d %d", x.s, kinds(l), at, e)
		}
	}
	if l, at, e := Document([]byte("xx<a/>"), 2); len(l) != 1 || l[0].From != 2 || l[0].To != 6 || at != 6 || e != api.OK {
		t.Error(l, at, e)
	}
	for _, at := range []int{-1, 7} {
		if l, place, e := Document([]byte("xx<a/>"), at); len(l) != 0 || place != 0 || e != api.ErrRange {
			t.Error(at, place, e)
		}
	}
	if l, at, e := Document([]byte("<a/>"), 4); len(l) != 0 || at != 4 || e != api.ErrForm {
		t.Error(l, at, e)
	}
}

func TestP30_2ContentAndBlank(t *testing.T) {
	rows := []row{
		{"", nil, 0, api.OK}, {"x<a/><b></b>&c;", []int{tok.Text, tok.Empty, tok.Open, tok.Close, tok.Ref}, 15, api.OK}, {" ", []int{tok.Text}, 1, api.OK}, {"&#65;<![CDATA[x]]>", []int{tok.Char, tok.CData}, 18, api.OK},
		{"</a>", nil, 0, api.ErrForm}, {"<a>", nil, 3, api.ErrForm}, {"<a></b>", nil, 3, api.ErrForm}, {"x&", nil, 1, api.ErrForm}, {"x&#0;", nil, 1, api.ErrChar},
	}
	for _, x := range rows {
		if l, at, e := Content(x.s); !slices.Equal(kinds(l), x.k) || at != x.at || e != x.e {
			t.Errorf("%q: %v %d %d", x.s, kinds(l), at, e)
		}
	}
	for s, want := range map[string]bool{"": true, " \r\n\t": true, "x": false, " x": false, "\u00A0": false, "\xFF": false} {
		if Blank(s) != want {
			t.Errorf("%q", s)
		}
	}
}

func entities(l ...string) []api.Entity {
	var out []api.Entity
	for i := 0; i < len(l); i += 2 {
		out = append(out, api.Entity{Name: l[i], Text: l[i+1]})
	}
	return out
}

func TestP30_3P30_4Extra(t *testing.T) {
	l := append(entities("a", "xx", "b", "&a;&a;", "v", ""), api.Entity{Name: "o", Out: true, Text: "zzz"})
	rows := []struct {
		s    string
		want cost.Size
	}{
		{"<c/>", cost.Size{}}, {"<c>x&#65;&lt;&none;&o;<!--&a;--><![CDATA[&a;]]><?p &a;?></c>", cost.Size{}}, {"<c>&a;</c>", cost.Size{Cost: 2, Length: 2, Depth: 1}}, {"<c>&b;&a;&v;</c>", cost.Size{Cost: 12, Length: 6, Depth: 2}}, {"<c d='&a;-&a;&lt;' e='&o;'/>", cost.Size{Cost: 4, Length: 4, Depth: 1}}, {"<c d='&b;'>&v;</c>", cost.Size{Cost: 10, Length: 4, Depth: 2}},
	}
	for _, x := range rows {
		toks, _, e := Document([]byte(x.s), 0)
		if e != api.OK {
			t.Fatal(x.s, e)
		}
		if s, e := Extra(l, toks); s != x.want || e != api.OK {
			t.Error(x.s, s, e)
		}
	}
	if s, e := Extra(entities("a", "&a;"), nil); s != (cost.Size{}) || e != api.ErrLoop {
		t.Error(s, e)
	}
	if s, e := Extra(nil, nil); s != (cost.Size{}) || e != api.OK {
		t.Error(s, e)
	}
}
