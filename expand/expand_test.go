package expand

import (
	"reflect"
	"slices"
	"testing"

	"narthex/api"
	"narthex/scope"
)

func pairs(l ...string) []api.Pair {
	var out []api.Pair
	for i := 0; i < len(l); i += 2 {
		out = append(out, api.Pair{Name: l[i], Value: l[i+1]})
	}
	return out
}

func full(space, local string) api.Name { return api.Name{Space: space, Local: local} }

func bound() *scope.Scope {
	s := scope.New()
	s.Push([]scope.Bind{{Prefix: "p", Space: "u"}, {Prefix: "q", Space: "u"}, {Prefix: "", Space: "d"}, {Prefix: "off", Space: ""}})
	return s
}

func TestP36_1Names(t *testing.T) {
	rows := []struct {
		s       *scope.Scope
		key     string
		element api.Name
		ee      api.Errno
		attr    api.Name
		ae      api.Errno
	}{
		{bound(), "a", full("d", "a"), api.OK, full("", "a"), api.OK}, {bound(), "p:a", full("u", "a"), api.OK, full("u", "a"), api.OK}, {bound(), "xml:a", full(api.XmlSpace, "a"), api.OK, full(api.XmlSpace, "a"), api.OK}, {nil, "a", full("", "a"), api.OK, full("", "a"), api.OK}, {nil, "xml:a", full(api.XmlSpace, "a"), api.OK, full(api.XmlSpace, "a"), api.OK}, {bound(), "xmlns", full("d", "xmlns"), api.OK, full("", "xmlns"), api.OK},
		{bound(), "r:a", api.Name{}, api.ErrSpace, api.Name{}, api.ErrSpace}, {bound(), "off:a", api.Name{}, api.ErrSpace, api.Name{}, api.ErrSpace}, {bound(), "xmlns:a", api.Name{}, api.ErrSpace, api.Name{}, api.ErrSpace}, {nil, "p:a", api.Name{}, api.ErrSpace, api.Name{}, api.ErrSpace}, {bound(), "a:b:c", api.Name{}, api.ErrSpace, api.Name{}, api.ErrSpace}, {bound(), "p:", api.Name{}, api.ErrSpace, api.Name{}, api.ErrSpace}, {bound(), "", api.Name{}, api.ErrForm, api.Name{}, api.ErrForm}, {bound(), "r:a b", api.Name{}, api.ErrForm, api.Name{}, api.ErrForm},
	}
	for _, x := range rows {
		if n, e := Element(x.s, x.key); n != x.element || e != x.ee {
			t.Error("Element", x.key, n, e)
		}
		if n, e := Attr(x.s, x.key); n != x.attr || e != x.ae {
			t.Error("Attr", x.key, n, e)
		}
	}
}

func TestP36_2Attrs(t *testing.T) {
	l, e := Attrs(bound(), pairs("a", "1", "p:a", "2", "xml:a", "3"))
	if e != api.OK || !slices.Equal(l, []api.Attr{{Name: full("", "a"), Value: "1"}, {Name: full("u", "a"), Value: "2"}, {Name: full(api.XmlSpace, "a"), Value: "3"}}) {
		t.Error(l, e)
	}
	bad := []struct {
		l []api.Pair
		e api.Errno
	}{{pairs("p:a", "1", "q:a", "2"), api.ErrSpace}, {pairs("a", "1", "a", "1"), api.ErrSpace}, {pairs("p:a", "1", "q:a", "2", "1", "3"), api.ErrForm}, {pairs("1", "", "r:a", ""), api.ErrForm}, {pairs("r:a", "", "1", ""), api.ErrSpace}}
	for _, x := range bad {
		if l, e := Attrs(bound(), x.l); len(l) != 0 || e != x.e {
			t.Error(x.l, l, e)
		}
	}
	if l, e := Attrs(nil, nil); len(l) != 0 || e != api.OK {
		t.Error(l, e)
	}
}

func TestP36_3StartAndEnd(t *testing.T) {
	s := scope.New()
	x, e := Start(s, "p:a", pairs("p:b", "1", "xmlns:p", "u", "c", "2"))
	want := api.Event{Kind: api.Start, Name: full("u", "a"), Attrs: []api.Attr{{Name: full("u", "b"), Value: "1"}, {Name: full("", "c"), Value: "2"}}}
	if e != api.OK || !reflect.DeepEqual(x, want) || s.Len() != 1 {
		t.Error(x, e)
	}
	bad := []struct {
		key string
		l   []api.Pair
		e   api.Errno
	}{{"a", pairs("1", ""), api.ErrForm}, {"a", pairs("xmlns:p", ""), api.ErrSpace}, {"r:a", nil, api.ErrSpace}, {"1", nil, api.ErrForm}, {"a", pairs("r:b", ""), api.ErrSpace}, {"a", pairs("xmlns:q", "u", "p:b", "", "q:b", ""), api.ErrSpace}, {"r:a", pairs("xmlns:r", "v", "1", ""), api.ErrForm}, {"1", pairs("xmlns:p", ""), api.ErrSpace}}
	for _, r := range bad {
		if x, e := Start(s, r.key, r.l); !reflect.DeepEqual(x, api.Event{}) || e != r.e || s.Len() != 1 {
			t.Error(r, x, e, s.Len())
		}
	}
	if space, _ := s.Find("p"); space != "u" {
		t.Error("the scope is as it was")
	}
	if x, e := End(s, "r:a"); !reflect.DeepEqual(x, api.Event{}) || e != api.ErrSpace || s.Len() != 1 {
		t.Error(x, e)
	}
	if x, e := End(s, ""); !reflect.DeepEqual(x, api.Event{}) || e != api.ErrForm || s.Len() != 1 {
		t.Error(x, e)
	}
	if x, e := End(s, "p:a"); !reflect.DeepEqual(x, api.Event{Kind: api.End, Name: full("u", "a")}) || e != api.OK || s.Len() != 0 {
		t.Error(x, e)
	}
	if x, e := End(s, "a"); !reflect.DeepEqual(x, api.Event{}) || e != api.ErrNone {
		t.Error(x, e)
	}
	if _, e := Start(nil, "1", nil); e != api.ErrNil {
		t.Error(e)
	}
	if _, e := End(nil, "1"); e != api.ErrNil {
		t.Error(e)
	}
}

func TestP36_4WhichPrefix(t *testing.T) {
	var events []api.Event
	for _, p := range []string{"x", "y-z"} {
		s := scope.New()
		s.Push([]scope.Bind{{Prefix: "", Space: "around"}})
		x, e := Start(s, p+":a", pairs("xmlns:"+p, "u", p+":b", "1"))
		y, f := End(s, p+":a")
		if e != api.OK || f != api.OK || x.Name != y.Name || s.Len() != 1 || len(s.All()) != 1 {
			t.Error(x, y, e, f)
		}
		events = append(events, x)
	}
	if !reflect.DeepEqual(events[0], events[1]) {
		t.Error(events)
	}
	s := scope.New()
	x, _ := Start(s, "a", pairs("xmlns", "u"))
	if x.Name != events[0].Name {
		t.Error(x)
	}
}
