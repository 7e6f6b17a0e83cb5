package scope

import (
	"math/rand"
	"slices"
	"testing"

	"narthex/api"
)

func find(t *testing.T, s *Scope, prefix, space string, has bool) {
	t.Helper()
	if got, ok := s.Find(prefix); got != space || ok != has {
		t.Errorf("%q: %q %v", prefix, got, ok)
	}
}

func TestP34_1PushAndPop(t *testing.T) {
	s := New()
	if s.Len() != 0 || s.Pop() || len(s.All()) != 0 {
		t.Error("New")
	}
	s.Push(nil)
	s.Push([]Bind{{"p", "u"}})
	s.Push(nil)
	if s.Len() != 3 || !s.Pop() || !s.Pop() || s.Len() != 1 {
		t.Error("Len")
	}
	find(t, s, "p", "", false)
	if !s.Pop() || s.Pop() || s.Len() != 0 {
		t.Error("Pop")
	}
}

func TestP34_2Find(t *testing.T) {
	s := New()
	find(t, s, "xml", api.XmlSpace, true)
	find(t, s, "xmlns", api.XmlnsSpace, true)
	find(t, s, "", "", true)
	find(t, s, "p", "", false)
	s.Push([]Bind{{"p", "first"}, {"p", "u"}, {"", "d"}, {"xml", "no"}, {"xmlns", "no"}})
	find(t, s, "p", "u", true)
	find(t, s, "", "d", true)
	find(t, s, "xml", api.XmlSpace, true)
	find(t, s, "xmlns", api.XmlnsSpace, true)
	s.Push([]Bind{{"p", "v"}})
	find(t, s, "p", "v", true)
	find(t, s, "", "d", true)
	s.Push([]Bind{{"", ""}, {"p", ""}})
	find(t, s, "", "", true)
	find(t, s, "p", "", false)
	s.Push(nil)
	find(t, s, "p", "", false)
	s.Pop()
	s.Pop()
	s.Pop()
	find(t, s, "p", "u", true)
	l := []Bind{{"q", "w"}}
	s.Push(l)
	l[0].Space = "changed"
	find(t, s, "q", "w", true)
}

func TestP34_3All(t *testing.T) {
	s := New()
	s.Push([]Bind{{"z", "1"}, {"", "d"}, {"b", "2"}, {"xml", "x"}, {"xmlns", "x"}})
	s.Push([]Bind{{"b", ""}, {"a", "3"}, {"a", "4"}, {"c", ""}})
	if got := s.All(); !slices.Equal(got, []Bind{{"", "d"}, {"a", "4"}, {"z", "1"}}) {
		t.Error(got)
	}
	s.Push([]Bind{{"", ""}})
	if got := s.All(); !slices.Equal(got, []Bind{{"a", "4"}, {"z", "1"}}) {
		t.Error(got)
	}
}

func TestP34_4AsItWas(t *testing.T) {
	s := New()
	s.Push([]Bind{{"p", "u"}, {"", "d"}})
	before := s.All()
	for _, l := range [][]Bind{nil, {{"p", "v"}}, {{"", ""}, {"q", "w"}}} {
		s.Push(l)
		s.Pop()
		if !slices.Equal(s.All(), before) || s.Len() != 1 {
			t.Error(l)
		}
	}
}

func TestP34Nil(t *testing.T) {
	var s *Scope
	s.Push([]Bind{{"p", "u"}})
	if s.Pop() || s.Len() != 0 || len(s.All()) != 0 {
		t.Error("nil")
	}
	find(t, s, "xml", api.XmlSpace, true)
	find(t, s, "xmlns", api.XmlnsSpace, true)
	find(t, s, "", "", true)
	find(t, s, "p", "", false)
}

// slow tells what a prefix means as the chapter says it.
func slow(elements [][]Bind, prefix string) (string, bool) {
	for _, l := range slices.Backward(elements) {
		for _, b := range slices.Backward(l) {
			if b.Prefix == prefix {
				return b.Space, b.Space != "" || prefix == ""
			}
		}
	}
	return "", prefix == ""
}

func TestP34_2AtRandom(t *testing.T) {
	r := rand.New(rand.NewSource(34))
	prefixes, spaces := []string{"", "a", "b", "c"}, []string{"", "u", "v"}
	s := New()
	var elements [][]Bind
	for range 5000 {
		if r.Intn(5) < 2 {
			if s.Pop() != (len(elements) > 0) {
				t.Fatal("Pop")
			}
			elements = elements[:max(len(elements)-1, 0)]
		} else {
			var l []Bind
			for range r.Intn(4) {
				l = append(l, Bind{prefixes[r.Intn(4)], spaces[r.Intn(3)]})
			}
			s.Push(l)
			elements = append(elements, l)
		}
		var all []Bind
		for _, prefix := range prefixes {
			space, has := slow(elements, prefix)
			find(t, s, prefix, space, has)
			if space != "" {
				all = append(all, Bind{prefix, space})
			}
		}
		if got := s.All(); !slices.Equal(got, all) || s.Len() != len(elements) {
			t.Fatal(got, all)
		}
	}
}
