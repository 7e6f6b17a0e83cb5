package xdecl

import (
	"testing"

	"narthex/api"
)

type row struct {
	b    string
	at   int
	d    Decl
	next int
	e    api.Errno
}

func try(t *testing.T, what string, f func([]byte, int) (Decl, int, api.Errno), rows []row) {
	t.Helper()
	for _, x := range rows {
		if d, next, e := f([]byte(x.b), x.at); d != x.d || next != x.next || e != x.e {
			t.Errorf("%s %q %d: %+v %d %d", what, x.b, x.at, d, next, e)
		}
	}
}

var none = Decl{}

func TestP9_1Has(t *testing.T) {
	rows := []struct {
		b   string
		at  int
		has bool
	}{{"<?xml ", 0, true}, {"<?xml\n", 0, true}, {"a<?xml\t", 1, true}, {"<?xml", 0, false}, {"<?xml?>", 0, false}, {"<?xmlx ", 0, false}, {"<?XML ", 0, false}, {" <?xml ", 0, false}, {"<?xml ", -1, false}, {"<?xml ", 6, false}, {"<?xml ", 7, false}, {"", 0, false}}
	for _, x := range rows {
		if Has([]byte(x.b), x.at) != x.has {
			t.Error(x)
		}
	}
}

func TestP9_2P9_3Xml(t *testing.T) {
	try(t, "Xml", Xml, []row{
		{`<?xml version="1.0"?>`, 0, Decl{true, "1.0", "", ""}, 21, api.OK},
		{`<a/>`, 0, none, 0, api.OK}, {`<a/>`, 4, none, 4, api.OK}, {`<?xml?>`, 0, none, 0, api.OK},
		{"<?xml\n\tversion = '1.25'\r\n encoding\n=\n\"Utf-8\" standalone='no' ?>x", 0, Decl{true, "1.25", "Utf-8", "no"}, 63, api.OK},
		{`a<?xml version='1.1' standalone="yes"?>`, 1, Decl{true, "1.1", "", "yes"}, 39, api.OK},
		{`<?xml version="1.0" encoding="UTF-8"?>`, 0, Decl{true, "1.0", "UTF-8", ""}, 38, api.OK},
		{`<a/>`, -1, none, 0, api.ErrRange}, {`<a/>`, 5, none, 0, api.ErrRange},
		{`<?xml encoding="utf-8"?>`, 0, none, 0, api.ErrForm}, {`<?xml ?>`, 0, none, 0, api.ErrForm}, {`<?xml version="1"?>`, 0, none, 0, api.ErrForm}, {`<?xml version="1."?>`, 0, none, 0, api.ErrForm},
		{`<?xml version="2.0"?>`, 0, none, 0, api.ErrForm}, {`<?xml version="1.0a"?>`, 0, none, 0, api.ErrForm}, {`<?xml version=""?>`, 0, none, 0, api.ErrForm}, {`<?xml version="1.0" encoding="utf8"?>`, 0, none, 0, api.ErrForm},
		{`<?xml version="1.0" encoding="latin1"?>`, 0, none, 0, api.ErrForm}, {`<?xml version="1.0" encoding="utf-7"?>`, 0, none, 0, api.ErrForm}, {`<?xml version="1.0" standalone="Yes"?>`, 0, none, 0, api.ErrForm}, {`<?xml version="1.0"encoding="utf-8"?>`, 0, none, 0, api.ErrForm},
		{`<?xml version="1.0" standalone="yes" encoding="utf-8"?>`, 0, none, 0, api.ErrForm}, {`<?xml version="1.0" version="1.0"?>`, 0, none, 0, api.ErrForm}, {`<?xml version="1.0">`, 0, none, 0, api.ErrForm},
		{`<?xml version="1.0" `, 0, none, 0, api.ErrForm}, {`<?xml version`, 0, none, 0, api.ErrForm}, {`<?xml version "1.0"?>`, 0, none, 0, api.ErrForm}, {`<?xml version="1.0" ? >`, 0, none, 0, api.ErrForm}, {`<?xml versions="1.0"?>`, 0, none, 0, api.ErrForm},
	})
}

func TestP9_3Text(t *testing.T) {
	try(t, "Text", Text, []row{
		{`<?xml encoding="utf-8"?>x`, 0, Decl{true, "", "utf-8", ""}, 24, api.OK}, {`<?xml version="1.0" encoding='UTF-8'?>`, 0, Decl{true, "1.0", "UTF-8", ""}, 38, api.OK}, {`x`, 0, none, 0, api.OK},
		{`<?xml version="1.0"?>`, 0, none, 0, api.ErrForm}, {`<?xml encoding="utf-8" standalone="no"?>`, 0, none, 0, api.ErrForm}, {`<?xml encoding="x"?>`, 0, none, 0, api.ErrForm}, {`x`, 2, none, 0, api.ErrRange}, {`x`, -1, none, 0, api.ErrRange},
	})
}

func TestP9_4Put(t *testing.T) {
	rows := []struct {
		d Decl
		w string
		e api.Errno
	}{
		{Decl{true, "1.0", "", ""}, `<?xml version="1.0"?>`, api.OK}, {Decl{true, "1.0", "utf-8", "yes"}, `<?xml version="1.0" encoding="utf-8" standalone="yes"?>`, api.OK},
		{Decl{true, "", "UTF-8", "no"}, `<?xml encoding="UTF-8" standalone="no"?>`, api.OK},
		{Decl{}, "", api.ErrForm}, {Decl{true, "", "", ""}, "", api.ErrForm}, {Decl{true, "", "", "yes"}, "", api.ErrForm}, {Decl{false, "1.0", "", ""}, "", api.ErrForm},
		{Decl{true, "1", "", ""}, "", api.ErrForm}, {Decl{true, "1.0", "x", ""}, "", api.ErrForm}, {Decl{true, "1.0", "", "maybe"}, "", api.ErrForm},
	}
	for _, x := range rows {
		if w, e := Put(x.d); w != x.w || e != x.e {
			t.Errorf("%+v: %q %d", x.d, w, e)
		}
	}
}

func TestP9_5ThereAndBack(t *testing.T) {
	for _, v := range []string{"", "1.0", "1.99"} {
		for _, enc := range []string{"", "utf-8", "UTF-8"} {
			for _, alone := range []string{"", "yes", "no"} {
				d := Decl{true, v, enc, alone}
				w, e := Put(d)
				if e != api.OK {
					continue
				}
				if got, next, e := Xml([]byte(w), 0); v != "" && (got != d || next != len(w) || e != api.OK) {
					t.Error(w, got)
				}
				if got, next, e := Text([]byte(w), 0); enc != "" && alone == "" && (got != d || next != len(w) || e != api.OK) {
					t.Error(w, got)
				}
			}
		}
	}
}
