package subset

import (
	"strings"
	"testing"

	"narthex/api"
	"narthex/decl"
	"narthex/dtd"
	"narthex/fetch"
	"narthex/meter"
)

type world struct {
	t *dtd.Table
	g *fetch.Guard
	m *meter.Meter
}

func ok(id, data string) api.Answer { return api.Answer{ID: id, OK: true, Data: []byte(data)} }

func fresh(t *testing.T, c api.Cfg, script ...api.Answer) world {
	t.Helper()
	g, e := fetch.New(c, script)
	if e != api.OK {
		t.Fatal(e)
	}
	m, e := meter.New(c)
	if e != api.OK {
		t.Fatal(e)
	}
	return world{dtd.New(), g, m}
}

var roomy = api.Cfg{MaxSize: 1000, MaxDepth: 10, MaxFetch: 10, MaxBytes: 1000, Allow: []string{"a://b/*"}}

var script = []api.Answer{ok("a://b/p", "\xEF\xBB\xBF<?xml encoding='utf-8'?><!ENTITY a\r\n'x'>"), ok("a://b/bad", "<?xml version='1.0'?>"), ok("a://b/utf", "\xFF"), ok("a://b/char", "\x00"), ok("a://b/deep", "%q;")}

func TestP28_1Text(t *testing.T) {
	w := fresh(t, roomy, script...)
	for _, s := range []string{"<!ENTITY % i 'inner'>", "<!ENTITY % p SYSTEM 'a://b/p'>", "<!ENTITY % bad SYSTEM 'a://b/bad'>", "<!ENTITY % no SYSTEM 'a://c/'>", "<!ENTITY % utf SYSTEM 'a://b/utf'>", "<!ENTITY % char SYSTEM 'a://b/char'>", "<!ENTITY g 'general'>"} {
		d, _, _ := decl.Next([]byte(s), 0)
		w.t.Add(d)
	}
	rows := []struct {
		name, text string
		e          api.Errno
	}{{"i", "inner", api.OK}, {"p", "<!ENTITY a\n'x'>", api.OK}, {"bad", "", api.ErrForm}, {"no", "", api.ErrFetch}, {"utf", "", api.ErrUtf}, {"char", "", api.ErrChar}, {"g", "", api.ErrForm}, {"none", "", api.ErrForm}}
	for _, x := range rows {
		if s, e := Text(w.t, w.g, x.name); s != x.text || e != x.e {
			t.Errorf("%s: %q %d", x.name, s, e)
		}
	}
	if s, e := Text(nil, w.g, "i"); s != "" || e != api.ErrNil {
		t.Error(s, e)
	}
	if s, e := Text(w.t, nil, "i"); s != "" || e != api.ErrNil {
		t.Error(s, e)
	}
}

func TestP28_2Read(t *testing.T) {
	rows := []struct {
		s     string
		next  int
		e     api.Errno
		names string
		spent int
	}{
		{"]", 1, api.OK, "", 0}, {" <!--c--><?p?><!ELEMENT a ANY> ]>", 32, api.OK, "", 0}, {`<!ENTITY % p "<!ENTITY a 'x'>">%p;]`, 35, api.OK, "a", 15}, {`<!ENTITY % p SYSTEM "a://b/p">%p;%p;]`, 37, api.OK, "a", 30}, {`<!ENTITY a 'x'><!ENTITY a 'y'><!ENTITY b 'z'>]`, 46, api.OK, "ab", 0},
		{`<!ENTITY % p "<!ENTITY &#37; q '<!ENTITY a ''x''>'><!ENTITY b ''>&#37;q;">%p;]`, 0, api.ErrForm, "", 50},
		{`<!ENTITY % p '<!ENTITY &#37; q "<!ENTITY a &#39;x&#39;>"><!ENTITY b "">&#37;q;<!ENTITY c "">'>%p;<!ENTITY d "">]`, 112, api.OK, "bacd", 77},
		{"", 0, api.ErrForm, "", 0}, {"<!--c-->", 0, api.ErrForm, "", 0}, {"<!ENTITY a 'x'>x]", 0, api.ErrForm, "a", 0}, {"%none;]", 0, api.ErrForm, "", 0}, {"<!ENTITY p ''>%p;]", 0, api.ErrForm, "p", 0}, {"<!ENTITY a '&#0;'>]", 0, api.ErrChar, "", 0},
		{`<!ENTITY % p "]">%p;]`, 0, api.ErrForm, "", 1}, {`<!ENTITY % p "<!--">%p;-->]`, 0, api.ErrForm, "", 4}, {`<!ENTITY % p '<!ENTITY a "x"'>%p;>]`, 0, api.ErrForm, "", 14},
		{`<!ENTITY % p '&#37;p;'>%p;]`, 0, api.ErrLoop, "", 3}, {`<!ENTITY % p '&#37;q;'><!ENTITY % q '&#37;p;'>%q;]`, 0, api.ErrLoop, "", 6}, {`<!ENTITY % q SYSTEM "a://b/deep">%q;]`, 0, api.ErrLoop, "", 3}, {`<!ENTITY % p SYSTEM "a://c/">%p;]`, 0, api.ErrFetch, "", 0}, {`<!ENTITY % p SYSTEM "a://b/utf">%p;]`, 0, api.ErrUtf, "", 0},
	}
	for _, x := range rows {
		w := fresh(t, roomy, script...)
		next, e := Read([]byte(x.s), 0, w.t, w.g, w.m)
		names := ""
		for _, g := range w.t.Generals() {
			names += g.Name
		}
		if next != x.next || e != x.e || names != x.names || w.m.Spent() != x.spent {
			t.Errorf("%s: %d %d %q %d", x.s, next, e, names, w.m.Spent())
		}
	}
}

func TestP28_2NilAndRange(t *testing.T) {
	w := fresh(t, roomy)
	b := []byte("x]")
	if next, e := Read(b, 1, w.t, w.g, w.m); next != 2 || e != api.OK {
		t.Error(next, e)
	}
	for _, at := range []int{-1, 3} {
		if next, e := Read(b, at, w.t, w.g, w.m); next != 0 || e != api.ErrRange {
			t.Error(at, next, e)
		}
	}
	for i, x := range []world{{nil, w.g, w.m}, {w.t, nil, w.m}, {w.t, w.g, nil}} {
		if next, e := Read(b, -1, x.t, x.g, x.m); next != 0 || e != api.ErrNil {
			t.Error(i, next, e)
		}
	}
}

func TestP28_2OrderOfErrors(t *testing.T) {
	deep := roomy
	deep.MaxDepth = 0
	w := fresh(t, deep)
	if _, e := Read([]byte("%none;]"), 0, w.t, w.g, w.m); e != api.ErrLimit {
		t.Error("depth goes ahead of the text", e)
	}
	small := roomy
	small.MaxSize, small.MaxDepth = 2, 1
	w = fresh(t, small)
	if _, e := Read([]byte("<!ENTITY % p '&#37;p;'>%p;]"), 0, w.t, w.g, w.m); e != api.ErrLimit || w.m.Spent() != 0 {
		t.Error("size", e)
	}
	small.MaxSize = 3
	w = fresh(t, small)
	if _, e := Read([]byte("<!ENTITY % p '&#37;p;'>%p;]"), 0, w.t, w.g, w.m); e != api.ErrLoop {
		t.Error("a loop goes ahead of the depth", e)
	}
}

func TestP28_3InItsPlace(t *testing.T) {
	one := "<!ENTITY a 'x'><!ATTLIST e b CDATA 'y'><!NOTATION n SYSTEM 's'>"
	texts := []string{one + "]", "<!ENTITY % p \"" + strings.ReplaceAll(one, "'", "&#39;") + "\">%p;]", "<!ENTITY % p SYSTEM 'a://b/one'>%p;]"}
	for _, s := range texts {
		w := fresh(t, roomy, ok("a://b/one", one))
		if _, e := Read([]byte(s), 0, w.t, w.g, w.m); e != api.OK {
			t.Fatal(s, e)
		}
		a, _ := w.t.General("a")
		n, _ := w.t.Notation("n")
		if a.Text != "x" || n.System != "s" || len(w.t.Defs("e")) != 1 {
			t.Error(s)
		}
	}
	nest := "<!ENTITY % a '<!--a-->'><!ENTITY % b '&#37;a;'><!ENTITY % c '&#37;b;'>%c;]"
	for deep := range 5 {
		c := roomy
		c.MaxDepth = deep
		w := fresh(t, c)
		want := api.ErrLimit
		if deep >= 3 {
			want = api.OK
		}
		if _, e := Read([]byte(nest), 0, w.t, w.g, w.m); e != want {
			t.Error(deep, e)
		}
	}
}
