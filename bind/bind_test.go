package bind

import (
	"slices"
	"testing"

	"narthex/api"
	"narthex/scope"
)

func TestP35_1May(t *testing.T) {
	rows := []struct {
		prefix, space string
		may           bool
	}{
		{"p", "u", true}, {"", "u", true}, {"", "", true}, {"xml", api.XmlSpace, true}, {"p", " ", true},
		{"p", "", false}, {"xmlns", "u", false}, {"xmlns", "", false}, {"xmlns", api.XmlnsSpace, false}, {"xml", "u", false}, {"xml", "", false}, {"p", api.XmlSpace, false}, {"", api.XmlSpace, false}, {"p", api.XmlnsSpace, false}, {"", api.XmlnsSpace, false}, {"xml", api.XmlnsSpace, false},
	}
	for _, x := range rows {
		if May(x.prefix, x.space) != x.may {
			t.Error(x)
		}
	}
}

func pairs(l ...string) []api.Pair {
	var out []api.Pair
	for i := 0; i < len(l); i += 2 {
		out = append(out, api.Pair{Name: l[i], Value: l[i+1]})
	}
	return out
}

func TestP35_2Split(t *testing.T) {
	rows := []struct {
		give  []api.Pair
		binds []scope.Bind
		rest  []api.Pair
		e     api.Errno
	}{
		{nil, nil, nil, api.OK}, {pairs("xmlns:p", "u", "a", "1"), []scope.Bind{{Prefix: "p", Space: "u"}}, pairs("a", "1"), api.OK}, {pairs("b", "2", "xmlns", "", "p:xmlns", "3", "xmlns:q", "v", "xmlnsx", "4"), []scope.Bind{{}, {Prefix: "q", Space: "v"}}, pairs("b", "2", "p:xmlns", "3", "xmlnsx", "4"), api.OK}, {pairs("xmlns:xml", api.XmlSpace), []scope.Bind{{Prefix: "xml", Space: api.XmlSpace}}, nil, api.OK},
		{pairs("a", "1", "1", ""), nil, nil, api.ErrForm}, {pairs("", ""), nil, nil, api.ErrForm}, {pairs("a:b:c", ""), nil, nil, api.ErrSpace}, {pairs("xmlns:", "u"), nil, nil, api.ErrSpace}, {pairs("xmlns:p", ""), nil, nil, api.ErrSpace}, {pairs("xmlns:xmlns", "u"), nil, nil, api.ErrSpace}, {pairs("xmlns", api.XmlSpace), nil, nil, api.ErrSpace}, {pairs("xmlns:xml", "u"), nil, nil, api.ErrSpace}, {pairs("xmlns:p", "", "1", ""), nil, nil, api.ErrSpace}, {pairs("1", "", "xmlns:p", ""), nil, nil, api.ErrForm},
	}
	for _, x := range rows {
		binds, rest, e := Split(x.give)
		if !slices.Equal(binds, x.binds) || !slices.Equal(rest, x.rest) || e != x.e {
			t.Error(x.give, binds, rest, e)
		}
	}
}

func TestP35_2P35_3Put(t *testing.T) {
	if Put(scope.Bind{Prefix: "p", Space: "u"}) != (api.Pair{Name: "xmlns:p", Value: "u"}) || Put(scope.Bind{Space: "u"}) != (api.Pair{Name: "xmlns", Value: "u"}) || Put(scope.Bind{}) != (api.Pair{Name: "xmlns"}) {
		t.Error("Put")
	}
	for _, prefix := range []string{"", "p", "xml", "xmlns", "p-1"} {
		for _, space := range []string{"", "u", api.XmlSpace, api.XmlnsSpace} {
			b := scope.Bind{Prefix: prefix, Space: space}
			binds, rest, e := Split([]api.Pair{Put(b), {Name: "a"}})
			if May(prefix, space) != (e == api.OK) || e == api.OK && (len(binds) != 1 || binds[0] != b || len(rest) != 1) {
				t.Error(b, binds, e)
			}
		}
	}
}
