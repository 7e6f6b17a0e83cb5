package laugh

import (
	"strings"
	"testing"

	"narthex/api"
	"narthex/proc"
)

const top = 1<<63 - 1

func TestP45_1CheckAndDoc(t *testing.T) {
	bad := []struct {
		p Plan
		e api.Errno
	}{
		{Plan{-1, 1, "x"}, api.ErrArg}, {Plan{201, 1, "x"}, api.ErrArg}, {Plan{1, -1, "x"}, api.ErrArg}, {Plan{1, 17, "x"}, api.ErrArg}, {Plan{1, 1, strings.Repeat("x", 1001)}, api.ErrArg}, {Plan{1, 1, "a<\xFF"}, api.ErrArg}, {Plan{1, 1, "\xFF"}, api.ErrUtf}, {Plan{1, 1, "\x00"}, api.ErrChar}, {Plan{1, 1, "\x00\xFF"}, api.ErrUtf}, {Plan{-1, 1, "\xFF"}, api.ErrArg}, {Plan{-1 << 63, top, ""}, api.ErrArg},
	}
	for _, x := range bad {
		if e := Check(x.p); e != x.e {
			t.Errorf("%.40v: %d", x.p, e)
		}
		if s, e := Doc(x.p); s != "" || e != x.e {
			t.Errorf("%.40v: %d", x.p, e)
		}
		if Length(x.p) != 0 || Cost(x.p) != 0 {
			t.Errorf("%.40v: %d %d", x.p, Length(x.p), Cost(x.p))
		}
	}
	docs := []struct {
		p    Plan
		want string
	}{
		{Plan{0, 5, "x"}, `<!DOCTYPE a [<!ENTITY e0 "x">]><a>&e0;</a>`}, {Plan{2, 3, "x"}, `<!DOCTYPE a [<!ENTITY e0 "x"><!ENTITY e1 "&e0;&e0;&e0;"><!ENTITY e2 "&e1;&e1;&e1;">]><a>&e2;</a>`}, {Plan{1, 0, ""}, `<!DOCTYPE a [<!ENTITY e0 ""><!ENTITY e1 "">]><a>&e1;</a>`}, {Plan{0, 0, "a&\n"}, `<!DOCTYPE a [<!ENTITY e0 "a&#38;amp;&#38;#10;">]><a>&e0;</a>`},
	}
	for _, x := range docs {
		if s, e := Doc(x.p); s != x.want || e != api.OK {
			t.Error(x.p, s, e)
		}
	}
	if s, e := Doc(Plan{200, 16, strings.Repeat("x", 1000)}); e != api.OK || !strings.HasSuffix(s, "&e199;\">]><a>&e200;</a>") {
		t.Error(e)
	}
}

func TestP45_2LengthAndCost(t *testing.T) {
	rows := []struct {
		p            Plan
		length, cost int
	}{
		{Plan{3, 10, "x"}, 1000, 10 * (4 + 10*(4+10*(4+1)))}, {Plan{2, 3, "x"}, 9, 57}, {Plan{0, 0, "abc"}, 3, 3}, {Plan{0, 9, "&"}, 1, 5}, {Plan{5, 0, "x"}, 0, 0}, {Plan{100, 10, "lol"}, top, top}, {Plan{200, 16, ""}, 0, top}, {Plan{200, 1, "x"}, 1, 10*4 + 90*5 + 100*6 + 1}, {Plan{62, 2, "x"}, 1 << 62, top}, {Plan{63, 2, "x"}, top, top},
	}
	for _, x := range rows {
		if Length(x.p) != x.length || Cost(x.p) != x.cost {
			t.Error(x, Length(x.p), Cost(x.p))
		}
	}
}

func TestP45_3Loop(t *testing.T) {
	if s, e := Loop(1); s != `<!DOCTYPE a [<!ENTITY e0 "&e0;">]><a/>` || e != api.OK {
		t.Error(s, e)
	}
	if s, e := Loop(3); s != `<!DOCTYPE a [<!ENTITY e0 "&e1;"><!ENTITY e1 "&e2;"><!ENTITY e2 "&e0;">]><a/>` || e != api.OK {
		t.Error(s, e)
	}
	for _, n := range []int{0, -1, 101, -1 << 63, top} {
		if s, e := Loop(n); s != "" || e != api.ErrArg {
			t.Error(n, e)
		}
	}
}

func TestP45_4Processed(t *testing.T) {
	plans := []Plan{{0, 0, "x"}, {3, 10, "x"}, {2, 3, "a&\n\t>\"'%"}, {4, 0, "x"}, {3, 2, ""}, {200, 1, "ä"}, {10, 2, "]]>"}}
	for _, p := range plans {
		doc, e := Doc(p)
		if e != api.OK {
			t.Fatal(p, e)
		}
		c := api.Cfg{MaxSize: Cost(p), MaxOut: Length(p) + 2, MaxDepth: p.Levels + 1}
		r := proc.Process([]byte(doc), c, nil)
		n := 3
		if Length(p) == 0 {
			n = 2
		}
		if r.E != api.OK || len(r.Events) != n || r.Spent != Cost(p) || r.Out != Length(p)+2 || n == 3 && len(r.Events[1].Text) != Length(p) {
			t.Error(p, r.E, r.Spent, len(r.Events))
		}
		if Cost(p) == 0 {
			continue
		}
		c.MaxSize--
		called := 0
		r = proc.Walk([]byte(doc), c, nil, func(api.Event) api.Errno { called++; return api.OK })
		if r.E != api.ErrLimit || r.Class != proc.Limit || called != 0 || r.Work != len(doc) {
			t.Error(p, r, called)
		}
	}
	doc, _ := Doc(Plan{100, 10, "lol"})
	c := api.Cfg{MaxSize: api.MaxLimit, MaxOut: api.MaxLimit, MaxDepth: api.MaxLimit}
	if r := proc.Process([]byte(doc), c, nil); r.Class != proc.Limit || r.Work != len(doc) || len(r.Events) != 0 {
		t.Error(r)
	}
	for _, n := range []int{1, 2, 100} {
		doc, _ := Loop(n)
		if r := proc.Process([]byte(doc), c, nil); r.Class != proc.Recursive {
			t.Error(n, r)
		}
	}
}
