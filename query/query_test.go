package query

import (
	"math/rand"
	"slices"
	"strings"
	"testing"

	"narthex/api"
	"narthex/diff"
)

func steps(t *testing.T, s string) []Step {
	t.Helper()
	l, e := Parse(s)
	if e != api.OK {
		t.Fatal(s, e)
	}
	return l
}

func TestP47_1ParseAndPrint(t *testing.T) {
	if l := steps(t, "a/*/**/ä.b"); !slices.Equal(l, []Step{{Name: "a"}, {Any: true}, {Deep: true}, {Name: "ä.b"}}) {
		t.Error(l)
	}
	full := strings.Repeat("a/", 63) + "*"
	for _, s := range []string{"a", "*", "**", "a/b/**", full} {
		if again, e := Print(steps(t, s)); again != s || e != api.OK {
			t.Error(s, again, e)
		}
	}
	bad := map[string]api.Errno{"": api.ErrForm, "/": api.ErrForm, "/a": api.ErrForm, "a/": api.ErrForm, "a//b": api.ErrForm, "***": api.ErrForm, "a:b": api.ErrForm, "1": api.ErrForm, "a b": api.ErrForm, "a/\xFF": api.ErrForm, full + "/a": api.ErrBig, full + "/a/1": api.ErrForm}
	for s, want := range bad {
		if l, e := Parse(s); len(l) != 0 || e != want {
			t.Errorf("%.20q %d", s, e)
		}
	}
	prints := []struct {
		l []Step
		e api.Errno
	}{{nil, api.ErrForm}, {[]Step{{}}, api.ErrForm}, {[]Step{{Any: true, Deep: true}}, api.ErrForm}, {[]Step{{Any: true, Name: "a"}}, api.ErrForm}, {[]Step{{Deep: true, Name: "a"}}, api.ErrForm}, {[]Step{{Name: "a:b"}}, api.ErrForm}, {[]Step{{Name: "*"}}, api.ErrForm}, {slices.Repeat([]Step{{Any: true}}, 65), api.ErrBig}, {append(slices.Repeat([]Step{{Any: true}}, 65), Step{}), api.ErrForm}}
	for i, x := range prints {
		if s, e := Print(x.l); s != "" || e != x.e {
			t.Error(i, s, e)
		}
	}
}

func TestP47_2Match(t *testing.T) {
	rows := []struct {
		s, path string
		want    bool
	}{
		{"a/**/c", "a c", true}, {"a/**/c", "a b b c", true}, {"a/**/c", "a", false}, {"a/**/c", "a c d", false}, {"a/*/c", "a b c", true}, {"a/*/c", "a c", false}, {"a/*/c", "a b b c", false}, {"**", "", true}, {"**", "a b", true}, {"*", "", false}, {"*", "a", true}, {"a", "b", false}, {"a", "a a", false}, {"**/**", "", true}, {"**/a/**", "b a c", true}, {"**/a/**", "b c", false}, {"**/a/**/b", "a b a", false}, {"**/a", "a a", true},
	}
	for _, x := range rows {
		if Match(steps(t, x.s), strings.Fields(x.path)) != x.want {
			t.Error(x)
		}
	}
	if !Match(nil, nil) || Match(nil, []string{"a"}) {
		t.Error("no steps")
	}
	odd := []struct {
		s    Step
		path []string
		want bool
	}{{Step{Any: true, Deep: true}, nil, true}, {Step{Any: true, Deep: true}, []string{"a", "b"}, true}, {Step{Any: true, Name: "x"}, []string{"a"}, true}, {Step{Deep: true, Name: "x"}, nil, true}, {Step{}, []string{""}, true}, {Step{}, []string{"a"}, false}, {Step{Name: "a:b"}, []string{"a:b"}, true}}
	for _, x := range odd {
		if Match([]Step{x.s}, x.path) != x.want {
			t.Error(x)
		}
	}
	many := slices.Repeat([]Step{{Deep: true}}, 64)
	if !Match(many, []string{"a"}) || Match(append(many, Step{Deep: true}), []string{"a"}) {
		t.Error("how many")
	}
}

// slow matches as the chapter says it.
func slow(l []Step, path []string) bool {
	switch {
	case len(l) == 0:
		return len(path) == 0
	case l[0].Deep:
		return slow(l[1:], path) || len(path) > 0 && slow(l, path[1:])
	}
	return len(path) > 0 && (l[0].Any || l[0].Name == path[0]) && slow(l[1:], path[1:])
}

func start(local string, l ...api.Attr) api.Event {
	return api.Event{Kind: api.Start, Name: api.Name{Local: local}, Attrs: l}
}
func end() api.Event          { return api.Event{Kind: api.End} }
func text(s string) api.Event { return api.Event{Kind: api.Text, Text: s} }

func TestP47_2P47_3AtRandom(t *testing.T) {
	r := rand.New(rand.NewSource(47))
	letters := []string{"a", "b", "c"}
	for range 3000 {
		var l []Step
		for range r.Intn(6) {
			l = append(l, []Step{{Any: true}, {Deep: true}, {Name: "a"}, {Name: "b"}}[r.Intn(4)])
		}
		var events []api.Event
		for range r.Intn(12) {
			if r.Intn(5) < 3 {
				events = append(events, start(letters[r.Intn(3)]))
			} else {
				events = append(events, end())
			}
		}
		var want []int
		for i, e := range events {
			if e.Kind != api.Start {
				continue
			}
			path, _ := diff.Path(events, i)
			path = append(path, e.Name.Local)
			if slow(l, path) != Match(l, path) {
				t.Fatal(l, path)
			}
			if slow(l, path) {
				want = append(want, i)
			}
		}
		if got := Find(events, l); !slices.Equal(got, want) {
			t.Fatal(l, events, got, want)
		}
		// what steps find a Deep in the place of one of them finds, too
		for i := range l {
			deep := slices.Clone(l)
			deep[i] = Step{Deep: true}
			more := Find(events, deep)
			for _, at := range want {
				if !slices.Contains(more, at) {
					t.Fatal(l, i)
				}
			}
		}
	}
}

func TestP47_3ValuesAndTexts(t *testing.T) {
	u := api.Name{Space: "u", Local: "k"}
	k := api.Name{Local: "k"}
	events := []api.Event{start("a", api.Attr{Name: k, Value: "0"}), text("x"), start("b", api.Attr{Name: u, Value: "no"}, api.Attr{Name: k, Value: "1"}, api.Attr{Name: k, Value: "2"}), text("y"), start("b"), text("z"), end(), end(), text("w"), start("b", api.Attr{Name: k, Value: "3"}), text("last")}
	if got := Values(events, steps(t, "a/b"), k); !slices.Equal(got, []string{"1", "2", "3"}) {
		t.Error(got)
	}
	if got := Values(events, steps(t, "**"), u); !slices.Equal(got, []string{"no"}) {
		t.Error(got)
	}
	if got := Texts(events, steps(t, "**")); !slices.Equal(got, []string{"xyzwlast", "yz", "z", "last"}) {
		t.Error(got)
	}
	if got := Texts(events, steps(t, "a/*")); !slices.Equal(got, []string{"yz", "last"}) {
		t.Error(got)
	}
	many := slices.Repeat([]Step{{Deep: true}}, 65)
	if len(Find(events, many))+len(Values(events, many, k))+len(Texts(events, many)) != 0 {
		t.Error("too many steps")
	}
	if len(Find(events, many[:64])) != 4 {
		t.Error("as many steps as may be")
	}
	if len(Find(nil, many[:1])) != 0 || len(Find(events, nil)) != 0 {
		t.Error("nothing")
	}
}

func TestP47_4All(t *testing.T) {
	events := []api.Event{end(), start("a"), start("b"), end(), end(), end(), start("c"), text("x")}
	if got := Find(events, steps(t, "**")); !slices.Equal(got, []int{1, 2, 6}) {
		t.Error(got)
	}
}
