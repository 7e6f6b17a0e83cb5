package tok

import (
	"reflect"
	"strings"
	"testing"

	"narthex/api"
)

var long = strings.Repeat("n", 1025)

func TestP11_1Kinds(t *testing.T) {
	if Text != 1 || Char != 2 || Ref != 3 || CData != 4 || Comment != 5 || Pi != 6 || Open != 7 || Empty != 8 || Close != 9 {
		t.Error("numbers")
	}
	rows := []struct {
		b  string
		at int
		t  Tok
		e  api.Errno
	}{
		{"a]]b>\n<", 0, Tok{Kind: Text, To: 6, Text: "a]]b>\n"}, api.OK}, {"xab", 1, Tok{Kind: Text, From: 1, To: 3, Text: "ab"}, api.OK}, {"&#x41;", 0, Tok{Kind: Char, To: 6, R: 65}, api.OK}, {"a&b;", 1, Tok{Kind: Ref, From: 1, To: 4, Name: "b"}, api.OK},
		{"<![CDATA[<]]>", 0, Tok{Kind: CData, To: 13, Text: "<"}, api.OK}, {"<!--a-->", 0, Tok{Kind: Comment, To: 8, Text: "a"}, api.OK}, {"<?p q?>", 0, Tok{Kind: Pi, To: 7, Name: "p", Text: "q"}, api.OK},
		{"<a b='c'>", 0, Tok{Kind: Open, To: 9, Name: "a", Pairs: []api.Pair{{Name: "b", Value: "c"}}}, api.OK}, {"<a/>", 0, Tok{Kind: Empty, To: 4, Name: "a"}, api.OK}, {"</a >", 0, Tok{Kind: Close, To: 5, Name: "a"}, api.OK},
		{"a", 1, Tok{}, api.ErrNone}, {"", 0, Tok{}, api.ErrNone}, {"a", 2, Tok{}, api.ErrRange}, {"a", -1, Tok{}, api.ErrRange},
		{"a]]>b", 0, Tok{}, api.ErrForm}, {"&#0;", 0, Tok{}, api.ErrChar}, {"&", 0, Tok{}, api.ErrForm}, {"&" + long + ";", 0, Tok{}, api.ErrLimit}, {"<!-a-->", 0, Tok{}, api.ErrForm}, {"<![CDATA[a", 0, Tok{}, api.ErrForm}, {"<?xml?>", 0, Tok{}, api.ErrForm}, {"<a b='' b=''>", 0, Tok{}, api.ErrTwice}, {"</a", 0, Tok{}, api.ErrForm}, {"<!DOCTYPE a>", 0, Tok{}, api.ErrForm}, {"<" + long + ">", 0, Tok{}, api.ErrLimit},
	}
	for _, x := range rows {
		got, e := Next([]byte(x.b), x.at)
		if len(got.Pairs) == 0 {
			got.Pairs = nil
		}
		if !reflect.DeepEqual(got, x.t) || e != x.e {
			t.Errorf("%.20q %d: %+v %d", x.b, x.at, got, e)
		}
	}
}

func kinds(l []Tok) (k []int) {
	for _, t := range l {
		k = append(k, t.Kind)
	}
	return k
}

func TestP11_2All(t *testing.T) {
	l, at, e := All([]byte("a&b;<c/>"))
	if !reflect.DeepEqual(kinds(l), []int{Text, Ref, Empty}) || at != 8 || e != api.OK {
		t.Error(l, at, e)
	}
	if l, at, e := All(nil); len(l) != 0 || at != 0 || e != api.OK {
		t.Error(l, at, e)
	}
	if l, at, e := All([]byte("<a>x&#0;</a>")); len(l) != 0 || at != 4 || e != api.ErrChar {
		t.Error(l, at, e)
	}
	if l, at, e := All([]byte("<a></b>")); len(l) != 2 || at != 7 || e != api.OK {
		t.Error("tags need not match", l, at, e)
	}
}

func TestP11_3Match(t *testing.T) {
	rows := []struct {
		s  string
		at int
		ok bool
	}{{"", 0, true}, {"<a><b/>x</a>", 4, true}, {"<a></b></a>", 1, false}, {"<a><b></a></b>", 2, false}, {"</a>", 0, false}, {"<a>", 1, false}, {"<a></a></a>", 2, false}, {"<a></a><b></b>x", 5, true}, {"<b/></b>", 1, false}}
	for _, x := range rows {
		l, _, _ := All([]byte(x.s))
		if at, ok := Match(l); at != x.at || ok != x.ok {
			t.Error(x.s, at, ok)
		}
	}
}

func TestP11_4Put(t *testing.T) {
	rows := []struct {
		t Tok
		w string
		e api.Errno
	}{
		{Tok{Kind: Text, Text: "a>]]"}, "a>]]", api.OK}, {Tok{Kind: Text, Text: "a<"}, "", api.ErrForm}, {Tok{Kind: Text, Text: "a&"}, "", api.ErrForm}, {Tok{Kind: Text, Text: "]]>"}, "", api.ErrForm}, {Tok{Kind: Char, R: 65}, "&#65;", api.OK}, {Tok{Kind: Char, R: 0}, "", api.ErrChar},
		{Tok{Kind: Ref, Name: "a"}, "&a;", api.OK}, {Tok{Kind: Ref, Name: "a:b"}, "", api.ErrForm}, {Tok{Kind: Ref}, "", api.ErrForm}, {Tok{Kind: CData, Text: "<"}, "<![CDATA[<]]>", api.OK}, {Tok{Kind: CData, Text: "]]>"}, "", api.ErrForm},
		{Tok{Kind: Comment, Text: "a"}, "<!--a-->", api.OK}, {Tok{Kind: Comment, Text: "-"}, "", api.ErrForm}, {Tok{Kind: Pi, Name: "p", Text: "q"}, "<?p q?>", api.OK}, {Tok{Kind: Pi, Name: long}, "", api.ErrLimit},
		{Tok{Kind: Open, Name: "a", Pairs: []api.Pair{{Name: "b", Value: "c"}}}, `<a b="c">`, api.OK}, {Tok{Kind: Empty, Name: "a"}, "<a/>", api.OK}, {Tok{Kind: Open, Name: ""}, "", api.ErrForm}, {Tok{Kind: Close, Name: "a"}, "</a>", api.OK}, {Tok{Kind: Close, Name: long}, "", api.ErrLimit},
		{Tok{Kind: Open, Name: "a", Pairs: []api.Pair{{Name: "b"}, {Name: "b"}}}, "", api.ErrTwice}, {Tok{}, "", api.ErrForm}, {Tok{Kind: 10, Name: "a", Text: "a"}, "", api.ErrForm}, {Tok{Kind: -1}, "", api.ErrForm},
	}
	for _, x := range rows {
		if w, e := Put(x.t); w != x.w || e != x.e {
			t.Errorf("%.60v: %q %d", x.t, w, e)
		}
	}
}

func TestP11_5WithoutGaps(t *testing.T) {
	s := []byte("a&b;&#65;<![CDATA[x]]><!--c--><?p q?><d e=\"f\">g<h/></d>")
	l, _, e := All(s)
	if e != api.OK {
		t.Fatal(e)
	}
	end, all := 0, ""
	for _, x := range l {
		if x.From != end {
			t.Error("gap", x)
		}
		end = x.To
		w, e := Put(x)
		if e != api.OK {
			t.Error(x, e)
		}
		all += w
		again, e := Next([]byte(w), 0)
		again.From, again.To = x.From, x.To
		if e != api.OK || !reflect.DeepEqual(again, x) {
			t.Error(x, again)
		}
	}
	if end != len(s) || all != string(s) {
		t.Error(end, all)
	}
}
