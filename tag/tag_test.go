package tag

import (
	"slices"
	"strings"
	"testing"

	"narthex/api"
)

var long = strings.Repeat("n", 1025)

func pairs(l ...string) []api.Pair {
	var out []api.Pair
	for i := 0; i < len(l); i += 2 {
		out = append(out, api.Pair{Name: l[i], Value: l[i+1]})
	}
	return out
}

func TestP10_1Pairs(t *testing.T) {
	rows := []struct {
		b    string
		at   int
		l    []api.Pair
		next int
		e    api.Errno
	}{
		{` a='1' b = "2">`, 0, pairs("a", "1", "b", "2"), 14, api.OK}, {"\n\ta:b\r=\n'&c;' />", 0, pairs("a:b", "&c;"), 13, api.OK}, {"", 0, nil, 0, api.OK}, {"a='1'", 0, nil, 0, api.OK}, {"  ", 0, nil, 0, api.OK}, {" >", 0, nil, 0, api.OK}, {" /", 0, nil, 0, api.OK},
		{" a='1'b='2'", 0, pairs("a", "1"), 6, api.OK}, {" a='1' ", 0, pairs("a", "1"), 6, api.OK},
		{" a='1'", -1, nil, 0, api.ErrRange}, {" a='1'", 7, nil, 0, api.ErrRange}, {" a='1'", 6, nil, 6, api.OK},
		{" 1='1'", 0, nil, 0, api.ErrForm}, {" a", 0, nil, 0, api.ErrForm}, {" a>", 0, nil, 0, api.ErrForm}, {" a=", 0, nil, 0, api.ErrForm}, {" a=1", 0, nil, 0, api.ErrForm}, {" a='<'", 0, nil, 0, api.ErrForm}, {" a='1", 0, nil, 0, api.ErrForm},
		{" a='&#0;'", 0, nil, 0, api.ErrChar}, {" a='&x'", 0, nil, 0, api.ErrForm}, {" " + long + "='1'", 0, nil, 0, api.ErrLimit}, {" a='1' a='2'", 0, nil, 0, api.ErrTwice}, {" a='1' a='<'", 0, nil, 0, api.ErrForm}, {" a='1' a='2' b", 0, nil, 0, api.ErrTwice},
	}
	for _, x := range rows {
		if l, next, e := Pairs([]byte(x.b), x.at); !slices.Equal(l, x.l) || next != x.next || e != x.e {
			t.Errorf("%.30q %d: %v %d %d", x.b, x.at, l, next, e)
		}
	}
}

func same(a, b Tag) bool {
	return a.Name == b.Name && a.Empty == b.Empty && slices.Equal(a.Pairs, b.Pairs)
}

func TestP10_2OpenAndClose(t *testing.T) {
	rows := []struct {
		b    string
		at   int
		tag  Tag
		next int
		e    api.Errno
	}{
		{"<a b='c' />", 0, Tag{"a", pairs("b", "c"), true}, 11, api.OK}, {"x<a>y", 1, Tag{"a", nil, false}, 4, api.OK}, {"<a/>", 0, Tag{"a", nil, true}, 4, api.OK}, {"<a\n>", 0, Tag{"a", nil, false}, 4, api.OK}, {"<p:a b='>'>", 0, Tag{"p:a", pairs("b", ">"), false}, 11, api.OK},
		{"<a b='1' b='2'>", 0, Tag{}, 0, api.ErrTwice}, {"<a", 0, Tag{}, 0, api.ErrForm}, {"<a ", 0, Tag{}, 0, api.ErrForm}, {"<a /", 0, Tag{}, 0, api.ErrForm}, {"<a / >", 0, Tag{}, 0, api.ErrForm}, {"<>", 0, Tag{}, 0, api.ErrForm}, {"< a>", 0, Tag{}, 0, api.ErrForm}, {"<a b='1'c='2'>", 0, Tag{}, 0, api.ErrForm},
		{"a", 0, Tag{}, 0, api.ErrForm}, {"<a>", -1, Tag{}, 0, api.ErrRange}, {"<a>", 4, Tag{}, 0, api.ErrRange}, {"<a>", 3, Tag{}, 0, api.ErrForm}, {"<" + long + ">", 0, Tag{}, 0, api.ErrLimit}, {"<a b='&#0;'>", 0, Tag{}, 0, api.ErrChar}, {"</a>", 0, Tag{}, 0, api.ErrForm},
	}
	for _, x := range rows {
		if tag, next, e := Open([]byte(x.b), x.at); !same(tag, x.tag) || next != x.next || e != x.e {
			t.Errorf("%.30q %d: %v %d %d", x.b, x.at, tag, next, e)
		}
	}
	closes := []struct {
		b    string
		at   int
		name string
		next int
		e    api.Errno
	}{
		{"</a>", 0, "a", 4, api.OK}, {"x</a:b \n>y", 1, "a:b", 9, api.OK}, {"</a", 0, "", 0, api.ErrForm}, {"</ a>", 0, "", 0, api.ErrForm}, {"</a b>", 0, "", 0, api.ErrForm}, {"<a>", 0, "", 0, api.ErrForm}, {"</a>", 5, "", 0, api.ErrRange}, {"</a>", -1, "", 0, api.ErrRange}, {"</" + long + ">", 0, "", 0, api.ErrLimit},
	}
	for _, x := range closes {
		if name, next, e := Close([]byte(x.b), x.at); name != x.name || next != x.next || e != x.e {
			t.Errorf("%.30q %d: %v %d %d", x.b, x.at, name, next, e)
		}
	}
}

func TestP10_3Put(t *testing.T) {
	rows := []struct {
		tag Tag
		w   string
		e   api.Errno
	}{
		{Tag{"a", pairs("b", "c'&d;", "e", ""), true}, `<a b="c'&d;" e=""/>`, api.OK}, {Tag{"p:a", nil, false}, "<p:a>", api.OK}, {Tag{long[1:], pairs(long[1:], ""), false}, "<" + long[1:] + " " + long[1:] + `="">`, api.OK},
		{Tag{"", nil, false}, "", api.ErrForm}, {Tag{"a", pairs("1", ""), false}, "", api.ErrForm}, {Tag{"a", pairs("b", "<"), false}, "", api.ErrForm}, {Tag{"a", pairs("b", `"`), false}, "", api.ErrForm}, {Tag{"a", pairs("b", "&"), false}, "", api.ErrForm}, {Tag{"a", pairs("b", "&#0;"), false}, "", api.ErrForm},
		{Tag{long, nil, false}, "", api.ErrLimit}, {Tag{"a", pairs(long, ""), false}, "", api.ErrLimit}, {Tag{long, pairs("b", "<"), false}, "", api.ErrForm}, {Tag{"a", pairs("b", "", "b", ""), false}, "", api.ErrTwice}, {Tag{"a", pairs("b", "", "b", "", long, ""), false}, "", api.ErrLimit}, {Tag{"a", pairs("b", "", "b", "", "c", "&"), false}, "", api.ErrForm},
	}
	for _, x := range rows {
		if w, e := Put(x.tag); w != x.w || e != x.e {
			t.Errorf("%.60v: %q %d", x.tag, w, e)
		}
	}
	if w, e := PutEnd("a:b"); w != "</a:b>" || e != api.OK {
		t.Error(w, e)
	}
	if w, e := PutEnd(long[1:]); w != "</"+long[1:]+">" || e != api.OK {
		t.Error(w, e)
	}
	if w, e := PutEnd("a b"); w != "" || e != api.ErrForm {
		t.Error(w, e)
	}
	if w, e := PutEnd(long); w != "" || e != api.ErrLimit {
		t.Error(w, e)
	}
	if w, e := PutEnd(long + " "); w != "" || e != api.ErrForm {
		t.Error(w, e)
	}
}

func TestP10_4ThereAndBack(t *testing.T) {
	for _, s := range []string{"<a>", "<a b='1'/>", "<p:a  x:b = '&c;&#65;' c='>'  >"} {
		tag, _, e := Open([]byte(s), 0)
		if e != api.OK {
			t.Fatal(s, e)
		}
		w, e := Put(tag)
		again, next, ge := Open([]byte(w), 0)
		if e != api.OK || ge != api.OK || next != len(w) || !same(tag, again) {
			t.Error(s, w, e, ge)
		}
	}
}
