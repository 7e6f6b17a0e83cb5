package content

import (
	"strings"
	"testing"

	"narthex/api"
	"narthex/decl"
	"narthex/deflt"
	"narthex/dtd"
	"narthex/fetch"
	"narthex/meter"
	"narthex/sweep"
	"narthex/tok"
)

func env(t *testing.T, c api.Cfg, decls string, script ...api.Answer) Env {
	t.Helper()
	l, _, e := decl.All([]byte(decls), 0)
	if e != api.OK {
		t.Fatal(decls, e)
	}
	table := dtd.New()
	for _, d := range l {
		table.Add(d)
	}
	g, e := fetch.New(c, script)
	if e != api.OK {
		t.Fatal(e)
	}
	m, e := meter.New(c)
	if e != api.OK {
		t.Fatal(e)
	}
	s, _ := deflt.Make(table, m, c.MaxDepth)
	return Env{table, g, m, s, c.MaxDepth}
}

func ok(id, data string) api.Answer { return api.Answer{ID: id, OK: true, Data: []byte(data)} }

var roomy = api.Cfg{MaxSize: 1000, MaxDepth: 10, MaxFetch: 10, MaxBytes: 1000, Allow: []string{"a://b/*"}}

func show(r Raw) string {
	s := map[int]string{api.Start: "S", api.End: "E", api.Text: "T", api.Pi: "P", api.Comment: "C"}[r.Kind] + r.Name
	for _, p := range r.Pairs {
		s += " " + p.Name + "=" + p.Value
	}
	return s + "(" + r.Text + ")"
}

func walk(t *testing.T, v Env, s string) (string, api.Errno) {
	t.Helper()
	toks, _, e := sweep.Content(s)
	if e != api.OK {
		t.Fatal(s, e)
	}
	var out []string
	e = Walk(v, toks, func(r Raw) api.Errno {
		out = append(out, show(r))
		return api.OK
	})
	return strings.Join(out, " "), e
}

const decls = `<!ENTITY a '<b/>&lt;'><!ENTITY x 'y'><!ENTITY l '&l2;'><!ENTITY l2 '&l;'><!ENTITY d1 '&d2;'><!ENTITY d2 '<q/>'><!ENTITY o SYSTEM 'a://b/o'><!ENTITY ol SYSTEM 'a://b/ol'><!ENTITY far SYSTEM 'a://c/'><!ENTITY u SYSTEM 'a://b/o' NDATA n><!ENTITY open '<b>'><!ENTITY twice "<b c='' c=''/>"><!ENTITY utf SYSTEM 'a://b/utf'>`

const noLoops = `<!ENTITY a '<b/>&lt;'><!ENTITY x 'y'><!ENTITY d1 '&d2;'><!ENTITY d2 '<q/>'><!ENTITY o SYSTEM 'a://b/o'><!ENTITY e ''><!ATTLIST k t NMTOKENS #IMPLIED dd CDATA 'dd'>`

func TestP33_1ErrorsOfTheCall(t *testing.T) {
	v := env(t, roomy, noLoops)
	yes := func(Raw) api.Errno { return api.OK }
	for i, w := range []Env{{nil, v.G, v.M, v.S, 1}, {v.T, nil, v.M, v.S, 1}, {v.T, v.G, nil, v.S, 1}} {
		if e := Walk(w, nil, yes); e != api.ErrNil {
			t.Error(i, e)
		}
	}
	if e := Walk(v, nil, nil); e != api.ErrNil {
		t.Error(e)
	}
	if e := Walk(Env{v.T, v.G, v.M, nil, 1}, []tok.Tok{{Kind: tok.Open, Name: "k", Pairs: []api.Pair{{Name: "t", Value: " x "}}}}, func(r Raw) api.Errno {
		if r.Pairs[0].Value != " x " {
			t.Error(r)
		}
		return api.OK
	}); e != api.OK {
		t.Error("S may be nil", e)
	}
	n := 0
	toks, _, _ := sweep.Content("a<b/>c<d/>")
	if e := Walk(v, toks, func(Raw) api.Errno {
		n++
		if n == 3 {
			return api.ErrTwice
		}
		return api.OK
	}); e != api.ErrTwice || n != 3 {
		t.Error("yield's error ends it", e, n)
	}
}

func TestP33_2Tokens(t *testing.T) {
	v := env(t, roomy, noLoops)
	rows := []struct{ s, want string }{
		{"", ""}, {"t&#x20AC;<![CDATA[<&]]><!--c--><?p q?>", "T(t) T(€) T(<&) C(c) Pp(q)"}, {"<a>x</a>", "Sa() T(x) Ea()"}, {"<a/>", "Sa() Ea()"}, {"<k t=' &x;  z ' u='&lt;\n'/>", "Sk t=y z u=< () Ek()"}, {"<![CDATA[]]>", "T()"}, {"<k/>", "Sk() Ek()"},
	}
	for _, x := range rows {
		if got, e := walk(t, v, x.s); got != x.want || e != api.OK {
			t.Errorf("%s: %s %d", x.s, got, e)
		}
	}
	if v.M.Spent() != 2 {
		t.Error("nothing but the default was spent", v.M.Spent())
	}
	if got, e := walk(t, env(t, roomy, ""), "<a b='c'/>"); got != "Sa b=c() Ea()" || e != api.OK {
		t.Error("nothing is declared", got, e)
	}
	for _, bad := range []tok.Tok{{}, {Kind: -1}, {Kind: 10}} {
		if e := Walk(v, []tok.Tok{bad}, func(Raw) api.Errno { return api.ErrBig }); e != api.OK {
			t.Error(bad, e)
		}
	}
	if e := Walk(v, []tok.Tok{{Kind: tok.Char, R: 0xD800}}, func(Raw) api.Errno { return api.OK }); e != api.ErrChar {
		t.Error(e)
	}
	if e := Walk(v, []tok.Tok{{Kind: tok.Close, Name: "z"}, {Kind: tok.Ref}}, func(Raw) api.Errno { return api.OK }); e != api.ErrForm {
		t.Error("tokens that are no content", e)
	}
}

func TestP33_3References(t *testing.T) {
	script := []api.Answer{ok("a://b/o", "<?xml encoding='utf-8'?>o\r\n&x;<r s='&x;'/>"), ok("a://b/ol", "&ol;"), ok("a://b/utf", "\xFF")}
	v := env(t, roomy, noLoops, script...)
	if got, e := walk(t, v, "<c>&a;&x;&gt;</c>"); got != "Sc() Sb() Eb() T(<) T(y) T(>) Ec()" || e != api.OK || v.M.Spent() != 2 {
		t.Error(got, e)
	}
	if got, e := walk(t, v, "&o;&o;"); got != "T(o\n) T(y) Sr s=y() Er() T(o\n) T(y) Sr s=y() Er()" || e != api.OK || v.M.Spent() != 2+2*(17+2) || len(v.G.Trace()) != 1 {
		t.Error(got, e, v.M.Spent())
	}
	bad := []struct {
		s, before string
		e         api.Errno
	}{
		{"x&l;", "T(x)", api.ErrLoop}, {"x&none;y", "T(x)", api.ErrForm}, {"&u;", "", api.ErrForm}, {"&far;", "", api.ErrFetch}, {"x&open;", "T(x)", api.ErrForm}, {"&twice;", "", api.ErrTwice}, {"&utf;", "", api.ErrUtf}, {"<c d='&x;'/>", "", api.ErrLoop}, {"&o;", "", api.ErrLoop}, {"&ol;", "", api.ErrLoop},
	}
	for _, x := range bad {
		v := env(t, roomy, decls, script...)
		if got, e := walk(t, v, x.s); got != x.before || e != x.e {
			t.Errorf("%s: %s %d", x.s, got, e)
		}
	}
	v = env(t, roomy, "<!ENTITY ol SYSTEM 'a://b/ol'>", script...)
	if _, e := walk(t, v, "&ol;"); e != api.ErrLoop {
		t.Error("a text from outside that refers to itself", e)
	}
	v = env(t, roomy, noLoops)
	for s, want := range map[string]api.Errno{"<c d='&none;'/>": api.ErrForm, "<c d='&o;'/>": api.ErrForm, "<c d='&#0;'/>": api.ErrChar} {
		toks := []tok.Tok{{Kind: tok.Empty, Name: "c", Pairs: []api.Pair{{Name: "d", Value: s[6 : len(s)-3]}}}}
		if e := Walk(v, toks, func(Raw) api.Errno { return api.OK }); e != want {
			t.Error(s, e)
		}
	}
}

func TestP33_3Limits(t *testing.T) {
	script := []api.Answer{ok("a://b/o", "12345&x;")}
	sizes := map[int]api.Errno{2 + 7: api.ErrLimit, 2 + 8: api.ErrLimit, 2 + 9: api.OK}
	for size, want := range sizes {
		c := roomy
		c.MaxSize = size
		v := env(t, c, noLoops, script...)
		got, e := walk(t, v, "&o;")
		if e != want || e != api.OK && got != "" {
			t.Error(size, got, e)
		}
	}
	// the text from outside costs 8, and its references 1, each time
	twice := map[int]api.Errno{2 + 9 + 7: api.ErrLimit, 2 + 9 + 8: api.ErrLimit, 2 + 9 + 9: api.OK}
	for size, want := range twice {
		c := roomy
		c.MaxSize = size
		v := env(t, c, noLoops, script...)
		got, e := walk(t, v, "&o;&o;")
		if e != want || e != api.OK && got != "T(12345) T(y)" || len(v.G.Trace()) != 1 {
			t.Error(size, got, e)
		}
	}
	depths := []struct {
		s    string
		deep int
		e    api.Errno
	}{
		{"<a><b/></a>", 2, api.OK}, {"<a><b/></a>", 1, api.ErrLimit}, {"<a/><a/><a/>", 1, api.OK}, {"&x;&x;", 1, api.OK}, {"&x;", 0, api.ErrLimit}, {"&lt;", 0, api.OK}, {"&d1;", 2, api.OK}, {"&d1;", 1, api.ErrLimit}, {"<a>&d1;</a>", 2, api.OK}, {"<a><b>&d1;</b></a>", 2, api.ErrLimit}, {"&none;", 0, api.ErrLimit}, {"<a b='&d1;'/>", 1, api.ErrLimit}, {"<a b='&x;'/>", 1, api.OK},
	}
	for _, x := range depths {
		c := roomy
		c.MaxDepth = x.deep
		v := env(t, c, noLoops)
		if _, e := walk(t, v, x.s); e != x.e {
			t.Error(x, e)
		}
	}
	v := env(t, roomy, noLoops)
	v.Deep = 0
	if _, e := walk(t, v, "&x;<a b='&x;'/>"); e != api.ErrLimit {
		t.Error("Deep is of values", e)
	}
}

func TestP33_2DeclaredMeanwhile(t *testing.T) {
	v := env(t, roomy, "<!ENTITY x 'y'>")
	toks, _, _ := sweep.Content("<a b='&x;'/><c d='&new;'/>")
	e := Walk(v, toks, func(r Raw) api.Errno {
		if r.Kind == api.Start && r.Name == "a" {
			d, _, _ := decl.Next([]byte("<!ENTITY new 'z'>"), 0)
			return v.T.Add(d)
		}
		if r.Kind == api.Start && r.Pairs[0].Value != "z" {
			t.Error(r)
		}
		return api.OK
	})
	if e != api.OK {
		t.Error(e)
	}
}

func TestP33_4InItsPlace(t *testing.T) {
	texts := []string{"x", "<b/>", "<b>y</b>&lt;", "<!--c-->", "&x;", "<![CDATA[<]]>", ""}
	for _, s := range texts {
		want, e := walk(t, env(t, roomy, "<!ENTITY x 'y'>"), "<r>"+s+"</r>")
		if e != api.OK {
			t.Fatal(s, e)
		}
		for _, d := range []string{"<!ENTITY x 'y'><!ENTITY t '" + s + "'>", "<!ENTITY x 'y'><!ENTITY t SYSTEM 'a://b/t'>"} {
			if got, e := walk(t, env(t, roomy, d, ok("a://b/t", s)), "<r>&t;</r>"); got != want || e != api.OK {
				t.Error(s, d, got, e)
			}
		}
	}
}
