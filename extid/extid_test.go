package extid

import (
	"strings"
	"testing"

	"narthex/api"
)

type row struct {
	b    string
	at   int
	id   api.ExtID
	next int
	e    api.Errno
}

func try(t *testing.T, what string, f func([]byte, int) (api.ExtID, int, api.Errno), rows []row) {
	t.Helper()
	for _, x := range rows {
		if id, next, e := f([]byte(x.b), x.at); id != x.id || next != x.next || e != x.e {
			t.Errorf("%s %q %d: %+v %d %d", what, x.b, x.at, id, next, e)
		}
	}
}

func TestP13_1Ext(t *testing.T) {
	both := []row{
		{`SYSTEM 'a'`, 0, api.ExtID{System: "a"}, 10, api.OK}, {"xSYSTEM\n\t\"a'<&\"y", 1, api.ExtID{System: "a'<&"}, 15, api.OK}, {`SYSTEM ""`, 0, api.ExtID{}, 9, api.OK}, {`PUBLIC "p" 's'`, 0, api.ExtID{Public: "p", System: "s"}, 14, api.OK}, {`PUBLIC '' 's'`, 0, api.ExtID{System: "s"}, 13, api.OK},
		{`SYSTEM`, 0, api.ExtID{}, 0, api.ErrForm}, {`SYSTEM'a'`, 0, api.ExtID{}, 0, api.ErrForm}, {`SYSTEM a`, 0, api.ExtID{}, 0, api.ErrForm}, {`SYSTEM 'a`, 0, api.ExtID{}, 0, api.ErrForm}, {`PUBLIC"p" 's'`, 0, api.ExtID{}, 0, api.ErrForm}, {`PUBLIC "<" 's'`, 0, api.ExtID{}, 0, api.ErrForm}, {`PUBLIC "p" 's`, 0, api.ExtID{}, 0, api.ErrForm},
		{`system 'a'`, 0, api.ExtID{}, 0, api.ErrForm}, {``, 0, api.ExtID{}, 0, api.ErrForm}, {`SYSTEM 'a'`, -1, api.ExtID{}, 0, api.ErrRange}, {`SYSTEM 'a'`, 11, api.ExtID{}, 0, api.ErrRange}, {`SYSTEM 'a'`, 10, api.ExtID{}, 0, api.ErrForm},
	}
	try(t, "Ext", Ext, both)
	try(t, "Either", Either, both)
	try(t, "Ext", Ext, []row{{`PUBLIC "p"`, 0, api.ExtID{}, 0, api.ErrForm}, {`PUBLIC "p"'s'`, 0, api.ExtID{}, 0, api.ErrForm}, {`PUBLIC "p" >`, 0, api.ExtID{}, 0, api.ErrForm}})
	try(t, "Either", Either, []row{{`PUBLIC "p"`, 0, api.ExtID{Public: "p"}, 10, api.OK}, {`PUBLIC "p"'s'`, 0, api.ExtID{Public: "p"}, 10, api.OK}, {`PUBLIC "p" >`, 0, api.ExtID{Public: "p"}, 10, api.OK}, {`PUBLIC "p"  `, 0, api.ExtID{Public: "p"}, 10, api.OK}})
}

func TestP13_2Doctype(t *testing.T) {
	rows := []struct {
		b    string
		at   int
		h    Head
		next int
		e    api.Errno
	}{
		{"<!DOCTYPE a [", 0, Head{Has: true, Name: "a", Open: true}, 13, api.OK}, {"<!DOCTYPE a>", 0, Head{Has: true, Name: "a"}, 12, api.OK}, {"<!DOCTYPE a[x", 0, Head{Has: true, Name: "a", Open: true}, 12, api.OK}, {"x<!DOCTYPE\np:a\n>", 1, Head{Has: true, Name: "p:a"}, 16, api.OK},
		{"<!DOCTYPE a SYSTEM 'b'[", 0, Head{true, "a", api.ExtID{System: "b"}, true, true}, 23, api.OK}, {"<!DOCTYPE a PUBLIC 'b' 'c' >", 0, Head{true, "a", api.ExtID{Public: "b", System: "c"}, true, false}, 28, api.OK}, {"<!DOCTYPE a SYSTEM ''>", 0, Head{Has: true, Name: "a", Out: true}, 22, api.OK},
		{"<a/>", 0, Head{}, 0, api.OK}, {"<a/>", 4, Head{}, 4, api.OK}, {"<!doctype a>", 0, Head{}, 0, api.OK},
		{"<a/>", 5, Head{}, 0, api.ErrRange}, {"<a/>", -1, Head{}, 0, api.ErrRange}, {"<!DOCTYPE>", 0, Head{}, 0, api.ErrForm}, {"<!DOCTYPEa>", 0, Head{}, 0, api.ErrForm}, {"<!DOCTYPE 1>", 0, Head{}, 0, api.ErrForm}, {"<!DOCTYPE a", 0, Head{}, 0, api.ErrForm}, {"<!DOCTYPE a b>", 0, Head{}, 0, api.ErrForm},
		{"<!DOCTYPE a S>", 0, Head{}, 0, api.ErrForm}, {"<!DOCTYPE a PUBLIC 'b'>", 0, Head{}, 0, api.ErrForm}, {"<!DOCTYPE aSYSTEM 'b'>", 0, Head{}, 0, api.ErrForm}, {"<!DOCTYPE " + strings.Repeat("n", 1025) + ">", 0, Head{}, 0, api.ErrLimit},
	}
	for _, x := range rows {
		if h, next, e := Doctype([]byte(x.b), x.at); h != x.h || next != x.next || e != x.e {
			t.Errorf("%.40q %d: %+v %d %d", x.b, x.at, h, next, e)
		}
	}
}

func TestP13_3P13_4Put(t *testing.T) {
	rows := []struct {
		id api.ExtID
		w  string
		e  api.Errno
	}{
		{api.ExtID{System: "a"}, `SYSTEM "a"`, api.OK}, {api.ExtID{}, `SYSTEM ""`, api.OK}, {api.ExtID{System: `a"b`}, `SYSTEM 'a"b'`, api.OK}, {api.ExtID{System: `a'b`}, `SYSTEM "a'b"`, api.OK}, {api.ExtID{Public: "p'", System: "s"}, `PUBLIC "p'" "s"`, api.OK}, {api.ExtID{Public: "p", System: ""}, `PUBLIC "p" ""`, api.OK},
		{api.ExtID{System: `a"'`}, "", api.ErrForm}, {api.ExtID{Public: `"`}, "", api.ErrForm}, {api.ExtID{Public: "\xFF"}, "", api.ErrForm}, {api.ExtID{Public: "\t", System: "s"}, "", api.ErrForm},
	}
	for _, x := range rows {
		w, e := Put(x.id)
		if w != x.w || e != x.e {
			t.Errorf("%+v: %q %d", x.id, w, e)
		}
		if e != api.OK {
			continue
		}
		if id, next, e := Ext([]byte(w), 0); id != x.id || next != len(w) || e != api.OK {
			t.Errorf("%q: %+v %d %d", w, id, next, e)
		}
	}
}
