package misc

import (
	"strings"
	"testing"

	"narthex/api"
)

type row struct {
	b    string
	at   int
	s    string
	next int
	e    api.Errno
}

func try(t *testing.T, what string, f func([]byte, int) (string, int, api.Errno), rows []row) {
	t.Helper()
	for _, x := range rows {
		if s, next, e := f([]byte(x.b), x.at); s != x.s || next != x.next || e != x.e {
			t.Errorf("%s %q %d: %q %d %d", what, x.b, x.at, s, next, e)
		}
	}
}

func TestP8_1CommentAndCData(t *testing.T) {
	try(t, "Comment", Comment, []row{
		{"<!--a-->b", 0, "a", 8, api.OK}, {"<!---->", 0, "", 7, api.OK}, {"x<!-- - -->", 1, " - ", 11, api.OK}, {"<!--\xFF<&-->", 0, "\xFF<&", 10, api.OK}, {"<!--->-->", 0, "->", 9, api.OK},
		{"<!--a--b-->", 0, "", 0, api.ErrForm}, {"<!--a--->", 0, "", 0, api.ErrForm}, {"<!--a--", 0, "", 0, api.ErrForm}, {"<!--a", 0, "", 0, api.ErrForm}, {"<!-->", 0, "", 0, api.ErrForm}, {"<!--->", 0, "", 0, api.ErrForm},
		{"<!-a-->", 0, "", 0, api.ErrForm}, {"", 0, "", 0, api.ErrForm}, {"<!--a-->", -1, "", 0, api.ErrRange}, {"<!--a-->", 9, "", 0, api.ErrRange}, {"<!--a-->", 8, "", 0, api.ErrForm},
	})
	try(t, "CData", CData, []row{
		{"<![CDATA[a]]>b", 0, "a", 13, api.OK}, {"<![CDATA[]]>", 0, "", 12, api.OK}, {"<![CDATA[]]]]>]]>", 0, "]]", 14, api.OK}, {"<![CDATA[<&]>]]>", 0, "<&]>", 16, api.OK},
		{"<![CDATA[a]]", 0, "", 0, api.ErrForm}, {"<![cdata[a]]>", 0, "", 0, api.ErrForm}, {"<![CDATA", 0, "", 0, api.ErrForm}, {"", -1, "", 0, api.ErrRange}, {"", 1, "", 0, api.ErrRange},
	})
}

func TestP8_2Pi(t *testing.T) {
	long := strings.Repeat("t", 1025)
	rows := []struct {
		b            string
		at           int
		target, data string
		next         int
		e            api.Errno
	}{
		{"<?p  x ?>", 0, "p", "x ", 9, api.OK}, {"<?p?>", 0, "p", "", 5, api.OK}, {"<?p \t\r\n?>", 0, "p", "", 9, api.OK}, {"a<?p b??>c", 1, "p", "b?", 9, api.OK}, {"<?p ?x>?>", 0, "p", "?x>", 9, api.OK}, {"<?xmlx a?>", 0, "xmlx", "a", 10, api.OK},
		{"<?xml a?>", 0, "", "", 0, api.ErrForm}, {"<?XmL?>", 0, "", "", 0, api.ErrForm}, {"<?p", 0, "", "", 0, api.ErrForm}, {"<?p a", 0, "", "", 0, api.ErrForm}, {"<?p a?", 0, "", "", 0, api.ErrForm}, {"<??>", 0, "", "", 0, api.ErrForm}, {"<? p?>", 0, "", "", 0, api.ErrForm},
		{"<?p:q a?>", 0, "", "", 0, api.ErrForm}, {"<?p<?>", 0, "", "", 0, api.ErrForm}, {"<?p?a?>", 0, "", "", 0, api.ErrForm}, {"<p?>", 0, "", "", 0, api.ErrForm}, {"<?p?>", -1, "", "", 0, api.ErrRange}, {"<?p?>", 6, "", "", 0, api.ErrRange}, {"<?p?>", 5, "", "", 0, api.ErrForm}, {"<?" + long + "?>", 0, "", "", 0, api.ErrLimit},
	}
	for _, x := range rows {
		if target, data, next, e := Pi([]byte(x.b), x.at); target != x.target || data != x.data || next != x.next || e != x.e {
			t.Errorf("%.20q %d: %q %q %d %d", x.b, x.at, target, data, next, e)
		}
	}
	for s, want := range map[string]bool{"xml": true, "XML": true, "xMl": true, "xm": false, "xmll": false, "": false, "xnl": false} {
		if Reserved(s) != want {
			t.Error("Reserved", s)
		}
	}
}

func TestP8_3Put(t *testing.T) {
	puts := []struct {
		put  func(string) (string, api.Errno)
		s, w string
	}{
		{PutComment, "a", "<!--a-->"}, {PutComment, "", "<!---->"}, {PutComment, "-a", "<!---a-->"}, {PutComment, "a--b", ""}, {PutComment, "a-", ""}, {PutComment, "-", ""},
		{PutCData, "a", "<![CDATA[a]]>"}, {PutCData, "]]", "<![CDATA[]]]]>"}, {PutCData, "]]>", ""},
	}
	for _, x := range puts {
		want := api.OK
		if x.w == "" {
			want = api.ErrForm
		}
		if s, e := x.put(x.s); s != x.w || e != want {
			t.Errorf("%q: %q %d", x.s, s, e)
		}
	}
	long := strings.Repeat("t", 1025)
	pis := []struct {
		target, data, w string
		e               api.Errno
	}{
		{"p", "x ", "<?p x ?>", api.OK}, {"p", "", "<?p?>", api.OK}, {"p", "?", "<?p ??>", api.OK}, {"p:q", "", "", api.ErrForm}, {"", "", "", api.ErrForm}, {"1", "a", "", api.ErrForm}, {"Xml", "", "", api.ErrForm},
		{"p", "a?>", "", api.ErrForm}, {"p", " a", "", api.ErrForm}, {"p", "\n", "", api.ErrForm}, {long, "", "", api.ErrLimit}, {long, "a", "", api.ErrLimit}, {long, " a", "", api.ErrForm}, {long[:1024], "", "<?" + long[:1024] + "?>", api.OK},
	}
	for _, x := range pis {
		if s, e := PutPi(x.target, x.data); s != x.w || e != x.e {
			t.Errorf("%.20q %q: %.20q %d", x.target, x.data, s, e)
		}
	}
}

func TestP8_4ThereAndBack(t *testing.T) {
	for _, s := range []string{"", "a", " a ", "-a", "]]", "<&>", "?", "\xFF"} {
		if w, e := PutComment(s); e == api.OK {
			if got, next, e := Comment([]byte(w), 0); got != s || next != len(w) || e != api.OK {
				t.Errorf("%q %q", s, got)
			}
		}
		if w, e := PutCData(s); e == api.OK {
			if got, next, e := CData([]byte(w), 0); got != s || next != len(w) || e != api.OK {
				t.Errorf("%q %q", s, got)
			}
		}
		if w, e := PutPi("t", s); e == api.OK {
			if target, got, next, e := Pi([]byte(w), 0); target != "t" || got != s || next != len(w) || e != api.OK {
				t.Errorf("%q %q", s, got)
			}
		}
	}
}
