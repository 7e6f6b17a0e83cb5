package meter

import (
	"testing"

	"narthex/api"
)

const top = 1<<63 - 1

func fresh(t *testing.T, c api.Cfg) *Meter {
	t.Helper()
	m, e := New(c)
	if e != api.OK {
		t.Fatal(e)
	}
	return m
}

func TestP26_1CheckAndNew(t *testing.T) {
	set := []func(*api.Cfg, int){
		func(c *api.Cfg, n int) { c.MaxSize = n }, func(c *api.Cfg, n int) { c.MaxOut = n }, func(c *api.Cfg, n int) { c.MaxDepth = n },
		func(c *api.Cfg, n int) { c.MaxAttrs = n }, func(c *api.Cfg, n int) { c.MaxFetch = n }, func(c *api.Cfg, n int) { c.MaxBytes = n },
	}
	for i, f := range set {
		for _, n := range []int{-1, api.MaxLimit + 1, -1 << 63, top, 0, api.MaxLimit} {
			c := api.Cfg{}
			f(&c, n)
			want := api.OK
			if n < 0 || n > api.MaxLimit {
				want = api.ErrArg
				c.Allow = []string{"wrong"}
			}
			m, e := New(c)
			if Check(c) != want || e != want || (m == nil) != (want != api.OK) {
				t.Error(i, n, e)
			}
		}
	}
	if e := Check(api.Cfg{Allow: []string{"wrong"}}); e != api.ErrForm {
		t.Error(e)
	}
	if m, e := New(api.Cfg{Allow: make([]string, 65)}); m != nil || e != api.ErrBig {
		t.Error(e)
	}
}

func TestP26_2Spend(t *testing.T) {
	m := fresh(t, api.Cfg{MaxSize: 5})
	if m.Spend(3) != api.OK || m.Spend(3) != api.ErrLimit || m.Spend(2) != api.OK || m.Spent() != 5 || m.Work() != 5 {
		t.Error(m.Spent())
	}
	if m.Spend(0) != api.OK || m.Spend(-7) != api.OK || m.Spend(-1<<63) != api.OK || m.Spend(top) != api.ErrLimit || m.Spent() != 5 || m.Out() != 0 {
		t.Error(m.Spent())
	}
}

var event = api.Event{Kind: api.Start, Name: api.Name{Space: "u", Local: "ab"}, Attrs: []api.Attr{{Name: api.Name{Space: "xy", Local: "c"}, Value: "1234"}, {Name: api.Name{Local: "d"}}}}

func TestP26_2Emit(t *testing.T) {
	m := fresh(t, api.Cfg{MaxSize: 9, MaxOut: 15})
	if m.Emit(event) != api.OK || m.Out() != 11 || m.Work() != 3 || m.Spent() != 0 {
		t.Error(m.Out(), m.Work())
	}
	if m.Emit(event) != api.ErrLimit || m.Out() != 11 || m.Work() != 3 {
		t.Error("refused", m.Out(), m.Work())
	}
	if m.Emit(api.Event{Kind: api.Text, Text: "1234"}) != api.OK || m.Out() != 15 || m.Work() != 4 {
		t.Error(m.Out(), m.Work())
	}
	if m.Emit(api.Event{}) != api.OK || m.Out() != 15 || m.Work() != 5 {
		t.Error("nothing", m.Work())
	}
	m.Spend(7)
	if m.Work() != 12 {
		t.Error(m.Work())
	}
}

func TestP26_2DeepAndWide(t *testing.T) {
	m := fresh(t, api.Cfg{MaxDepth: 2, MaxAttrs: 3})
	for n, want := range map[int]api.Errno{-5: api.OK, 2: api.OK, 3: api.ErrLimit, top: api.ErrLimit} {
		if m.Deep(n) != want {
			t.Error("Deep", n)
		}
	}
	for n, want := range map[int]api.Errno{-5: api.OK, 3: api.OK, 4: api.ErrLimit, top: api.ErrLimit} {
		if m.Wide(n) != want {
			t.Error("Wide", n)
		}
	}
}

func TestP26_3BytesAndBound(t *testing.T) {
	if Bytes(event) != 11 || Bytes(api.Event{}) != 0 || Bytes(api.Event{Kind: api.Pi, Name: api.Name{Local: "p"}, Text: "qr"}) != 3 {
		t.Error("Bytes")
	}
	c := api.Cfg{MaxSize: 10, MaxBytes: 100, MaxOut: 1000, MaxDepth: 7, MaxAttrs: 7, MaxFetch: 7}
	if Bound(c, 1) != 3+40+400+2000+8 || Bound(c, -1) != 2448 || Bound(c, top) != top || Bound(api.Cfg{MaxSize: -1, MaxOut: top}, 0) != top || Bound(api.Cfg{}, 0) != 8 {
		t.Error("Bound")
	}
}

func TestP26_4NeverAbove(t *testing.T) {
	m := fresh(t, api.Cfg{MaxSize: 10, MaxOut: 10})
	for i := range 50 {
		before := []int{m.Spent(), m.Out(), m.Work()}
		n := i * 7 % 6
		s := m.Spend(n)
		if s != api.OK && m.Spent() != before[0] || m.Spent() > 10 {
			t.Error("Spend", i)
		}
		e := m.Emit(api.Event{Text: "12345"[:n%5]})
		if m.Out() > 10 || e != api.OK && m.Out() != before[1] || s != api.OK && e != api.OK && m.Work() != before[2] {
			t.Error("Emit", i)
		}
	}
	var none *Meter
	if none.Spend(1) != api.ErrNil || none.Emit(event) != api.ErrNil || none.Deep(0) != api.ErrNil || none.Wide(0) != api.ErrNil || none.Spent()+none.Out()+none.Work() != 0 {
		t.Error("nil")
	}
}
