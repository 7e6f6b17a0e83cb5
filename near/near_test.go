package near

import (
	"slices"
	"testing"

	"narthex/api"
)

func TestOf(t *testing.T) {
	l := []api.Entity{{Name: "d", Text: "x"}, {Name: "o", Out: true}, {Name: "a", Text: "&c;&o;"}, {Name: "b", Text: "&a;"}, {Name: "c", Text: "&d;&d;"}, {Name: "a", Text: "second"}}
	p, right := New(l)
	if !right {
		t.Fatal("no loop is there")
	}
	rows := []struct {
		text  string
		names []string
	}{{"", nil}, {"&d;", []string{"d"}}, {"&a;&none;&o;", []string{"d", "a", "c"}}, {"x&b;&b;", []string{"d", "a", "b", "c"}}}
	for _, x := range rows {
		var names []string
		for _, e := range p.Of(x.text) {
			names = append(names, e.Name)
		}
		if !slices.Equal(names, x.names) {
			t.Error(x.text, names)
		}
	}
	if got := p.Of("&a;"); got[1].Text != "&c;&o;" {
		t.Error("the first of a name counts", got)
	}
	if _, right := New([]api.Entity{{Name: "a", Text: "&a;"}}); right {
		t.Error("a loop")
	}
	var none *Picker
	if len(none.Of("&a;")) != 0 {
		t.Error("nil")
	}
}
