package oracle

import (
	"slices"
	"testing"

	"narthex/api"
)

func ok(id, data string) api.Answer { return api.Answer{ID: id, OK: true, Data: []byte(data)} }
func no(id string) api.Answer       { return api.Answer{ID: id} }

func same1(a, b api.Answer) bool {
	return a.ID == b.ID && a.OK == b.OK && string(a.Data) == string(b.Data)
}

func TestP23_1Find(t *testing.T) {
	l := []api.Answer{no("wrong"), ok("a://b/", "one"), ok("A://B", "two"), {ID: "a://c", Data: []byte("kept from")}, ok("a://d/x/../y", "")}
	rows := []struct {
		id  string
		a   api.Answer
		has bool
	}{
		{"A://b", ok("a://b/", "one"), true}, {"a://c/", no("a://c/"), true}, {"a://D/%79", ok("a://d/y", ""), true}, {"a://e", api.Answer{}, false}, {"wrong", api.Answer{}, false}, {"", api.Answer{}, false},
	}
	for _, x := range rows {
		if a, has := Find(l, x.id); !same1(a, x.a) || has != x.has {
			t.Error(x.id, a, has)
		}
	}
	a, _ := Find(l, "a://b")
	a.Data[0] = 'X'
	_ = append(a.Data[:1], "YY"...)
	if string(l[1].Data) != "one" {
		t.Error("shared memory")
	}
}

func TestP23_2OnlyAndCheck(t *testing.T) {
	l := []api.Answer{ok("A://b/x", "1"), no("a://c"), {ID: "a://b/y", Data: []byte("z")}, ok("wrong", "")}
	got := Only(l, []string{"a://b/*"})
	if !slices.EqualFunc(got, []api.Answer{l[0], l[2]}, same1) {
		t.Error(got)
	}
	got[0].Data[0] = 'X'
	if string(l[0].Data) != "1" || len(Only(l, nil)) != 0 {
		t.Error("Only")
	}
	if e := Check(nil); e != api.OK {
		t.Error(e)
	}
	if e := Check([]api.Answer{no("a://b"), ok("A://B/.", "")}); e != api.ErrTwice {
		t.Error(e)
	}
	if e := Check([]api.Answer{no("wrong"), no("wrong"), no("a://b")}); e != api.OK {
		t.Error("what has no normal form", e)
	}
	many := slices.Repeat([]api.Answer{no("x")}, 256)
	if Check(many) != api.OK || Check(append(many, no("x"))) != api.ErrBig || Check(slices.Repeat([]api.Answer{no("a://b")}, 257)) != api.ErrBig {
		t.Error("how many")
	}
}

func TestP23_2Agree(t *testing.T) {
	list := []string{"a://b/*"}
	rows := []struct {
		a, b []api.Answer
		want bool
	}{
		{nil, nil, true}, {[]api.Answer{ok("a://b/x", "1")}, []api.Answer{ok("A://B/x", "1"), ok("a://b/x", "2")}, true}, {[]api.Answer{ok("a://b/x", "1")}, []api.Answer{ok("a://b/x", "2")}, false}, {[]api.Answer{ok("a://b/x", "1")}, nil, false}, {nil, []api.Answer{no("a://b/x")}, false}, {[]api.Answer{ok("a://b/x", "")}, []api.Answer{no("a://b/x")}, false},
		{[]api.Answer{{ID: "a://b/x", Data: []byte("1")}}, []api.Answer{no("a://b/x")}, true}, {[]api.Answer{ok("a://c/x", "1")}, []api.Answer{ok("wrong", "2")}, true}, {[]api.Answer{ok("a://b/", "1")}, nil, true},
	}
	for i, x := range rows {
		if Agree(x.a, x.b, list) != x.want || Agree(x.b, x.a, list) != x.want {
			t.Error(i)
		}
	}
}

func TestP23_3P23_4Put(t *testing.T) {
	l := []api.Answer{no("wrong"), ok("A://b", "1"), ok("a://b/", "2"), {ID: "a://c", Data: []byte("z")}, ok("a://d", "4")}
	got := Put(l)
	if !slices.EqualFunc(got, []api.Answer{ok("a://b/", "1"), no("a://c/"), ok("a://d/", "4")}, same1) {
		t.Error(got)
	}
	got[0].Data[0] = 'X'
	if string(l[1].Data) != "1" {
		t.Error("shared memory")
	}
	for _, id := range []string{"a://b", "a://c", "a://d", "a://e", "wrong"} {
		x, hasX := Find(l, id)
		y, hasY := Find(Put(l), id)
		if hasX != hasY || !same1(x, y) {
			t.Error(id, x, y)
		}
	}
	for _, list := range [][]string{nil, {"a://b"}, {"a://c", "a://d/*"}} {
		if !Agree(l, Only(l, list), list) {
			t.Error(list)
		}
	}
}
