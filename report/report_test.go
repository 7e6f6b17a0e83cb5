package report

import (
	"testing"

	"narthex/api"
	"narthex/check"
	"narthex/diff"
	"narthex/proc"
)

func TestP44_1Words(t *testing.T) {
	names := map[api.Name]string{{Local: "a"}: "a", {Space: "u<", Local: "a"}: "{u&lt;}a", {}: "", {Space: "u", Local: "\n"}: "{u}&#10;"}
	for n, want := range names {
		if got := Name(n); got != want {
			t.Error(n, got)
		}
	}
	classes := []string{"none", "malformed", "recursive", "namespace", "fetch", "limit", "config", "?"}
	for class, want := range classes {
		if got := Class(class); got != want {
			t.Error(class, got)
		}
	}
	words := []string{"ok", "nil", "arg", "range", "none", "utf", "char", "form", "loop", "space", "fetch", "limit", "twice", "big", "done", "line", "?"}
	for e, want := range words {
		if got := Word(api.Errno(e)); got != want {
			t.Error(e, got)
		}
	}
	if Class(-1) != "?" || Class(-1<<63) != "?" || Class(1<<63-1) != "?" || Word(-1) != "?" || Word(-1<<63) != "?" || Word(1<<63-1) != "?" {
		t.Error("far numbers")
	}
}

func TestP44_2Event(t *testing.T) {
	n := api.Name{Space: "u", Local: "a"}
	rows := []struct {
		e    api.Event
		want string
	}{
		{api.Event{Kind: api.Start, Name: n, Attrs: []api.Attr{{Name: api.Name{Local: "b"}, Value: "<"}, {Name: n, Value: ""}}}, "start {u}a\nattr b=&lt;\nattr {u}a=\n"}, {api.Event{Kind: api.Start, Name: api.Name{Local: "a"}}, "start a\n"}, {api.Event{Kind: api.End, Name: n}, "end {u}a\n"}, {api.Event{Kind: api.Text, Text: "x\n y"}, "text x&#10; y\n"}, {api.Event{Kind: api.Text}, "text \n"},
		{api.Event{Kind: api.Pi, Name: api.Name{Local: "p"}}, "pi p\n"}, {api.Event{Kind: api.Pi, Name: api.Name{Local: "p"}, Text: "q r"}, "pi p q r\n"}, {api.Event{Kind: api.Comment, Text: "c>"}, "comment c&gt;\n"}, {api.Event{Kind: api.Comment}, "comment \n"}, {api.Event{}, "?\n"}, {api.Event{Kind: 6, Text: "x"}, "?\n"},
	}
	for _, x := range rows {
		if got := Event(x.e); got != x.want {
			t.Errorf("%v: %q", x.e, got)
		}
	}
}

func TestP44_3All(t *testing.T) {
	r := proc.Result{Events: []api.Event{{Kind: api.Text, Text: "x"}, {Kind: api.Comment, Text: "c"}}, E: api.ErrLimit, Class: proc.Limit, Trace: []string{"a://b/x", "a://b/&"}, Read: 1, Spent: -20, Out: 0, Work: 1<<63 - 1}
	want := "text x\ncomment c\nresult limit limit\nfetched a://b/x\nfetched a://b/&amp;\nread 1\nspent -20\nout 0\nwork 9223372036854775807\n"
	if got := All(r); got != want {
		t.Error(got)
	}
	if got := All(proc.Result{}); got != "result none ok\nread 0\nspent 0\nout 0\nwork 0\n" {
		t.Error(got)
	}
}

func TestP44_4ToldAlike(t *testing.T) {
	name := func(space, local string) api.Name { return api.Name{Space: space, Local: local} }
	all := []api.Event{
		{Kind: api.Start, Name: name("", "a")}, {Kind: api.Start, Name: name("u", "a")}, {Kind: api.Start, Name: name("", "a"), Attrs: []api.Attr{{Name: name("", "b")}}}, {Kind: api.Start, Name: name("", "a"), Attrs: []api.Attr{{Name: name("", "b"), Value: "attr c=\n"}}}, {Kind: api.Start, Name: name("", "a"), Attrs: []api.Attr{{Name: name("", "b")}, {Name: name("", "c")}}},
		{Kind: api.End, Name: name("", "a")}, {Kind: api.End, Name: name("u", "a")}, {Kind: api.Text, Text: " "}, {Kind: api.Text, Text: "&#10;"}, {Kind: api.Text, Text: "\n"}, {Kind: api.Comment, Text: " "}, {Kind: api.Comment}, {Kind: api.Pi, Name: name("", "p")}, {Kind: api.Pi, Name: name("", "p"), Text: "q"}, {Kind: api.Start, Name: name("u=", "a")}, {Kind: api.Start, Name: name("u\n", "a")},
	}
	for _, x := range all {
		if check.One(x) != api.OK {
			t.Fatal(x)
		}
		for _, y := range all {
			_, same := diff.First([]api.Event{x}, []api.Event{y})
			if same != (Event(x) == Event(y)) {
				t.Error(x, y)
			}
		}
	}
}
