package cases

import (
	"reflect"
	"slices"
	"strings"
	"testing"

	"narthex/api"
)

func ok(id, data string) api.Answer { return api.Answer{ID: id, OK: true, Data: []byte(data)} }

var rich = Case{
	Doc:    []byte("<a>\n\r|x\n</a>\n\xFF\x00"),
	C:      api.Cfg{MaxSize: 1, MaxOut: 20, MaxDepth: 300, MaxAttrs: 0, MaxFetch: api.MaxLimit, MaxBytes: 10, Allow: []string{"a://b/*", " odd", "allow x"}},
	Script: []api.Answer{ok("a://b/x", "one\n\ntwo\n"), {ID: "no such"}, ok("answer no x", ""), ok("y", "\n")},
}

const richText = "limits 1 20 300 0 1099511627776 10\nallow a://b/*\nallow  odd\nallow allow x\nanswer ok a://b/x\n|one\n|\n|two\n|\nanswer no no such\nanswer ok answer no x\n|\nanswer ok y\n|\n|\ndoc\n|<a>\n|\r|x\n|</a>\n|\xFF\x00\n"

func TestP43_1P43_2Print(t *testing.T) {
	if s, e := Print(Case{Doc: []byte("<a/>")}); s != "limits 0 0 0 0 0 0\ndoc\n|<a/>\n" || e != api.OK {
		t.Error(s, e)
	}
	if s, e := Print(Case{}); s != "limits 0 0 0 0 0 0\ndoc\n|\n" || e != api.OK {
		t.Error(s, e)
	}
	if s, e := Print(rich); s != richText || e != api.OK {
		t.Errorf("%q %d", s, e)
	}
	half := strings.Repeat("x", api.MaxText/2)
	bad := []struct {
		f func(*Case)
		e api.Errno
	}{
		{func(c *Case) { c.C.MaxSize = -1 }, api.ErrArg}, {func(c *Case) { c.C.MaxBytes = api.MaxLimit + 1 }, api.ErrArg}, {func(c *Case) { c.C.MaxOut = -1 << 63 }, api.ErrArg}, {func(c *Case) { c.C.MaxDepth = -1 }, api.ErrArg}, {func(c *Case) { c.C.MaxAttrs = -1 }, api.ErrArg}, {func(c *Case) { c.C.MaxFetch = -1 }, api.ErrArg},
		{func(c *Case) { c.C.Allow = []string{""} }, api.ErrArg}, {func(c *Case) { c.C.Allow = []string{"a\nb"} }, api.ErrArg}, {func(c *Case) { c.Script = []api.Answer{{}} }, api.ErrArg}, {func(c *Case) { c.Script = []api.Answer{ok("a\n", "")} }, api.ErrArg}, {func(c *Case) { c.Script = []api.Answer{{ID: "a", Data: []byte("x")}} }, api.ErrArg},
		{func(c *Case) { c.C.Allow = slices.Repeat([]string{"a"}, 65) }, api.ErrBig}, {func(c *Case) { c.Script = slices.Repeat([]api.Answer{ok("a", "")}, 257) }, api.ErrBig}, {func(c *Case) { c.Doc = []byte(half + half + "x") }, api.ErrBig}, {func(c *Case) { c.Doc, c.Script = []byte(half), []api.Answer{ok("a", half), ok("b", "x")} }, api.ErrBig}, {func(c *Case) { c.C.Allow = slices.Repeat([]string{""}, 65) }, api.ErrArg},
		{func(c *Case) { c.Doc, c.Script = []byte(half), []api.Answer{ok("a", half)} }, api.OK}, {func(c *Case) { c.C.Allow = slices.Repeat([]string{"a"}, 64) }, api.OK}, {func(c *Case) { c.Script = slices.Repeat([]api.Answer{ok("a", "")}, 256) }, api.OK},
	}
	for i, x := range bad {
		c := Case{}
		x.f(&c)
		s, e := Print(c)
		if e != x.e || (s == "") != (e != api.OK) {
			t.Error(i, e)
		}
		if e != api.OK {
			continue
		}
		if got, line, e := Parse(s); !Same(got, c) || line != 0 || e != api.OK {
			t.Error(i, line, e)
		}
	}
}

func TestP43_3Parse(t *testing.T) {
	c, line, e := Parse(richText)
	if !Same(c, rich) || line != 0 || e != api.OK {
		t.Errorf("%v %d %d", c, line, e)
	}
	const top = "limits 0 0 0 0 0 0\n"
	bad := []struct {
		s    string
		line int
	}{
		{"", 1}, {"\n", 1}, {"limits 0 0 0 0 0 0", 1}, {"limits 0 0 0 0 0\n", 1}, {"limits 0 0 0 0 0 0 0\n", 1}, {"limits 0 0 0 0 0 00\n", 1}, {"limits 0 0 0 0 0 -1\n", 1}, {"limits 0 0 0 0 0 +1\n", 1}, {"limits 0 0 0 0 0 1x\n", 1}, {"limits 0 0 0 0 0 \n", 1}, {"limits  0 0 0 0 0 0\n", 1}, {"limits 0 0 0 0 0 0 \n", 1}, {" limits 0 0 0 0 0 0\n", 1}, {"limits 0 0 0 0 0 1099511627777\n", 1}, {"limits 0 0 0 0 0 99999999999999999999\n", 1}, {"limits 0 0 0 0 0 1_0\n", 1}, {"doc\n|\n", 1},
		{top, 2}, {top + "doc", 2}, {top + "doc\n", 3}, {top + "doc\n|", 3}, {top + "doc\nx\n", 3}, {top + "doc\n|\nx\n", 4}, {top + "doc\n|\n\n", 4}, {top + "doc\n|\n|x", 4}, {top + "doc \n|\n", 2}, {top + "|\n", 2}, {top + "allow \ndoc\n|\n", 2}, {top + "allow\ndoc\n|\n", 2}, {top + "answer ok \n|\ndoc\n|\n", 2}, {top + "answer no \ndoc\n|\n", 2}, {top + "answer maybe x\ndoc\n|\n", 2},
		{top + "answer ok x\ndoc\n|\n", 3}, {top + "answer ok x\n", 3}, {top + "answer no x\n|\ndoc\n|\n", 3}, {top + "answer no x\nallow y\ndoc\n|\n", 3}, {top + "answer ok x\n|\nallow y\ndoc\n|\n", 4}, {top + top, 2}, {top + "doc\n|\ndoc\n|\n", 4}, {top + "allow x\nallow y", 3}, {top + "doc\r\n|\n", 2},
	}
	for _, x := range bad {
		if c, line, e := Parse(x.s); !reflect.DeepEqual(c, Case{}) || line != x.line || e != api.ErrLine {
			t.Errorf("%q: %d %d", x.s, line, e)
		}
	}
	many := top + strings.Repeat("allow x\n", 65)
	if c, line, e := Parse(many + "doc\n|\n"); !reflect.DeepEqual(c, Case{}) || line != 0 || e != api.ErrBig {
		t.Error(line, e)
	}
	if _, line, e := Parse(many + "doc\n|\nx\n"); line != 69 || e != api.ErrLine {
		t.Error(line, e)
	}
	if _, line, e := Parse(top + strings.Repeat("answer no x\n", 257) + "doc\n|\n"); line != 0 || e != api.ErrBig {
		t.Error(line, e)
	}
	if _, line, e := Parse(top + "doc\n|" + strings.Repeat("x", api.MaxText+1) + "\n"); line != 0 || e != api.ErrBig {
		t.Error(line, e)
	}
	if c, _, e := Parse(top + "doc\n|" + strings.Repeat("\n|", api.MaxText) + "\n"); len(c.Doc) != api.MaxText || e != api.OK {
		t.Error(len(c.Doc), e)
	}
}

func TestP43_3Same(t *testing.T) {
	base := func() Case {
		return Case{Doc: []byte("d"), C: api.Cfg{MaxSize: 1, Allow: []string{"p"}}, Script: []api.Answer{ok("a", "x")}}
	}
	changes := []func(*Case){func(c *Case) { c.Doc = nil }, func(c *Case) { c.C.MaxSize = 2 }, func(c *Case) { c.C.MaxBytes = 2 }, func(c *Case) { c.C.Allow = nil }, func(c *Case) { c.C.Allow[0] = "q" }, func(c *Case) { c.Script = nil }, func(c *Case) { c.Script[0].ID = "b" }, func(c *Case) { c.Script[0].OK = false }, func(c *Case) { c.Script[0].Data[0] = 'y' }}
	for i, f := range changes {
		c := base()
		f(&c)
		if Same(base(), c) {
			t.Error(i)
		}
	}
	if !Same(base(), base()) || !Same(Case{}, Case{Doc: []byte{}, C: api.Cfg{Allow: []string{}}, Script: []api.Answer{}}) || !Same(Case{Script: []api.Answer{{ID: "a"}}}, Case{Script: []api.Answer{{ID: "a", Data: []byte{}}}}) {
		t.Error("nil and empty")
	}
}

func TestP43_4ThereAndBack(t *testing.T) {
	for _, s := range []string{richText, "limits 0 0 0 0 0 0\ndoc\n|\n", "limits 0 0 0 0 0 0\nanswer no |\ndoc\n|\n|\n|doc\n"} {
		c, _, e := Parse(s)
		if e != api.OK {
			t.Fatal(s, e)
		}
		if again, e := Print(c); again != s || e != api.OK {
			t.Errorf("%q %q", s, again)
		}
	}
}
