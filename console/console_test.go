package console

import (
	"strings"
	"testing"

	"narthex/api"
	"narthex/cases"
	"narthex/proc"
	"narthex/report"
)

const top = "limits 1000 1000 9 9 2 100\nallow a://b/*\nanswer ok a://b/x\n|told\n"

func doc(s string) string { return top + "doc\n|" + strings.ReplaceAll(s, "\n", "\n|") + "\n" }

func TestP46_1Do(t *testing.T) {
	want := "start a\nattr b=1\ntext x&lt;\nend a\nresult none ok\nread 0\nspent 0\nout 6\nwork 22\n"
	if out, line, e := Do("limits 0 100 5 5 0 0\ndoc\n|<a b=\"1\">x&lt;</a>\n"); out != want || line != 0 || e != api.OK {
		t.Error(out, line, e)
	}
	for _, s := range []string{"<a/>", "<a", "<a>\n" + strings.Repeat("<b/>x", 100) + "</a>", "<!DOCTYPE a [<!ENTITY x SYSTEM 'a://b/x'>]><a>&x;</a>", "<p:a/>"} {
		c, _, e := cases.Parse(doc(s))
		if e != api.OK {
			t.Fatal(e)
		}
		if out, line, e := Do(doc(s)); out != report.All(proc.Process(c.Doc, c.C, c.Script)) || line != 0 || e != api.OK {
			t.Error(s, out, line, e)
		}
	}
	if out, line, e := Do("limits 0 0 0 0 0 0\nno"); out != "" || line != 2 || e != api.ErrLine {
		t.Error(out, line, e)
	}
	if out, line, e := Do("limits 0 0 0 0 0 0\n" + strings.Repeat("allow x\n", 65) + "doc\n|\n"); out != "" || line != 0 || e != api.ErrBig {
		t.Error(out, line, e)
	}
	if out, _, e := Do("limits 0 0 0 0 0 0\nallow wrong\ndoc\n|<a/>\n"); out != "result malformed form\nread 0\nspent 0\nout 0\nwork 0\n" || e != api.OK {
		t.Error(out, e)
	}
}

func TestP46_2Check(t *testing.T) {
	rows := [][2]string{
		{"<a b='1'/>", "<a b=\"1\"></a>\n"}, {"<a", "form\n"}, {"<p:a/>", "space\n"}, {"<!--c--><a>\n</a>", "<!--c--><a>&#10;</a>\n"}, {"<!DOCTYPE a [<!ENTITY e '<!--&#13;-->'>]><a>&e;</a>", "form\n"}, {"<!DOCTYPE a [<!ENTITY x SYSTEM 'a://c'>]><a>&x;</a>", "fetch\n"},
	}
	for _, x := range rows {
		if out, e := Check(doc(x[0])); out != x[1] || e != api.OK {
			t.Errorf("%s: %q %d", x[0], out, e)
		}
	}
	if out, e := Check("no"); out != "" || e != api.ErrLine {
		t.Error(out, e)
	}
}

func TestP46_3TheSameAgain(t *testing.T) {
	for _, s := range []string{"<a b='1'/>", "<p:a xmlns:p='u' p:b=''>x<!--c--><?q r?></p:a>", "<!DOCTYPE a [<!ENTITY x SYSTEM 'a://b/x'>]><a>&x;\n</a>"} {
		once, e := Check(doc(s))
		if e != api.OK {
			t.Fatal(s, e)
		}
		if again, e := Check(doc(strings.TrimSuffix(once, "\n"))); again != once || e != api.OK {
			t.Errorf("%q %q", once, again)
		}
	}
}
