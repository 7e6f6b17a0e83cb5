package join

import (
	"reflect"
	"testing"

	"narthex/api"
)

func text(s string) api.Event    { return api.Event{Kind: api.Text, Text: s} }
func comment(s string) api.Event { return api.Event{Kind: api.Comment, Text: s} }

func TestP37_1PutAndFlush(t *testing.T) {
	var got []api.Event
	answer := api.OK
	j := New(func(e api.Event) api.Errno {
		got = append(got, e)
		return answer
	})
	put := func(e api.Event, want api.Errno, n int) {
		t.Helper()
		if e := j.Put(e); e != want || len(got) != n {
			t.Error(e, got)
		}
	}
	put(text("a"), api.OK, 0)
	put(text(""), api.OK, 0)
	put(text("b"), api.OK, 0)
	put(comment("c"), api.OK, 2)
	put(comment("d"), api.OK, 3)
	if !reflect.DeepEqual(got, []api.Event{text("ab"), comment("c"), comment("d")}) {
		t.Error(got)
	}
	put(text(""), api.OK, 3)
	if j.Flush() != api.OK || len(got) != 3 {
		t.Error("nothing waits")
	}
	put(text("e"), api.OK, 3)
	answer = api.ErrLimit
	put(comment("f"), api.ErrLimit, 4)
	if got[3].Text != "e" || j.Flush() != api.OK || len(got) != 4 {
		t.Error("it has nothing then", got)
	}
	put(comment("g"), api.ErrLimit, 5)
	put(text("h"), api.OK, 5)
	if j.Flush() != api.ErrLimit || len(got) != 6 || j.Flush() != api.OK || len(got) != 6 {
		t.Error(got)
	}
	odd := api.Event{Kind: 99, Name: api.Name{Local: "x"}, Attrs: []api.Attr{{Value: "y"}}, Text: "z"}
	answer = api.OK
	put(odd, api.OK, 7)
	if !reflect.DeepEqual(got[6], odd) {
		t.Error("as it is", got[6])
	}
}

func TestP37_1Nil(t *testing.T) {
	var none *Joiner
	for _, j := range []*Joiner{none, New(nil)} {
		if j.Put(text("a")) != api.ErrNil || j.Put(comment("a")) != api.ErrNil || j.Flush() != api.ErrNil {
			t.Error("nil")
		}
	}
}

func TestP37_2P37_3All(t *testing.T) {
	got := All([]api.Event{text("a"), text("b"), comment("c"), text(""), text("c")})
	if !reflect.DeepEqual(got, []api.Event{text("ab"), comment("c"), text("c")}) {
		t.Error(got)
	}
	if len(All(nil)) != 0 || len(All([]api.Event{text(""), text("")})) != 0 {
		t.Error("nothing")
	}
	l := []api.Event{{Kind: api.Start, Attrs: []api.Attr{{Value: "v"}}}, text("x"), {Kind: api.End}, text(""), text("y"), comment("")}
	got = All(l)
	if !reflect.DeepEqual(All(got), got) || len(got) != 5 {
		t.Error(got)
	}
	got[0].Attrs[0].Value = "changed"
	if l[0].Attrs[0].Value != "v" {
		t.Error("shared memory")
	}
}
