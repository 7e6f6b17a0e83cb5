package check

import (
	"strings"
	"testing"

	"narthex/api"
	"narthex/proc"
)

var long = strings.Repeat("n", 1025)

func full(space, local string) api.Name { return api.Name{Space: space, Local: local} }
func start(local string) api.Event      { return api.Event{Kind: api.Start, Name: full("", local)} }
func end(local string) api.Event        { return api.Event{Kind: api.End, Name: full("", local)} }
func text(s string) api.Event           { return api.Event{Kind: api.Text, Text: s} }
func comment(s string) api.Event        { return api.Event{Kind: api.Comment, Text: s} }
func pi(target, s string) api.Event {
	return api.Event{Kind: api.Pi, Name: full("", target), Text: s}
}
func attrs(l ...string) []api.Attr {
	var out []api.Attr
	for i := 0; i < len(l); i += 3 {
		out = append(out, api.Attr{Name: full(l[i], l[i+1]), Value: l[i+2]})
	}
	return out
}
func with(l ...string) api.Event {
	e := start("a")
	e.Attrs = attrs(l...)
	return e
}

func TestP40_1One(t *testing.T) {
	right := []api.Event{start("a"), {Kind: api.Start, Name: full("u", "ä"), Attrs: []api.Attr{}}, end("a"), text(" "), text("\r"), comment(""), comment("-a"), pi("p", ""), pi("p", "q "), with("", "a", "", "u", "a", "\n", "v", "xmlns", "x", "", "b", "<&\""), {Kind: api.End, Name: full(api.XmlSpace, "a")}, start(long[:1024])}
	for i, e := range right {
		if got := One(e); got != api.OK {
			t.Error(i, e, got)
		}
	}
	wrong := []struct {
		e    api.Event
		want api.Errno
	}{
		{api.Event{}, api.ErrArg}, {api.Event{Kind: 6}, api.ErrArg}, {api.Event{Kind: -1}, api.ErrArg}, {api.Event{Kind: api.Start, Name: full("", "1"), Text: "x"}, api.ErrArg}, {api.Event{Kind: api.End, Name: full("", "a"), Attrs: attrs("", "b", "")}, api.ErrArg}, {api.Event{Kind: api.End, Name: full("", "a"), Text: "x"}, api.ErrArg}, {api.Event{Kind: api.Text, Text: "x", Name: full("", "a")}, api.ErrArg}, {api.Event{Kind: api.Text, Text: "x", Attrs: attrs("", "b", "")}, api.ErrArg}, {api.Event{Kind: api.Comment, Name: full("u", "")}, api.ErrArg}, {api.Event{Kind: api.Pi, Name: full("u", "p")}, api.ErrArg}, {api.Event{Kind: api.Pi, Name: full("", "p"), Attrs: attrs("", "b", "")}, api.ErrArg},
		{start(""), api.ErrForm}, {start("a:b"), api.ErrForm}, {end("1"), api.ErrForm}, {pi("", ""), api.ErrForm}, {pi("a:b", ""), api.ErrForm}, {with("", "b:c", ""), api.ErrForm}, {with("", "", ""), api.ErrForm},
		{api.Event{Kind: api.Start, Name: full("\xFF", "a")}, api.ErrForm}, {api.Event{Kind: api.End, Name: full("\x00", "a")}, api.ErrForm}, {with("\x00", "b", ""), api.ErrForm}, {with("", "b", "\xFF"), api.ErrForm}, {text(""), api.ErrForm}, {text("\x00"), api.ErrForm}, {text("\xFF"), api.ErrForm}, {comment("--"), api.ErrForm}, {comment("a-"), api.ErrForm}, {comment("\r"), api.ErrForm}, {comment("\x00"), api.ErrForm}, {pi("xml", ""), api.ErrForm}, {pi("p", "?>"), api.ErrForm}, {pi("p", " q"), api.ErrForm}, {pi("p", "q\r"), api.ErrForm}, {pi("p", "\uFFFE"), api.ErrForm},
		{start(long), api.ErrLimit}, {end(long), api.ErrLimit}, {pi(long, ""), api.ErrLimit}, {with("", long, ""), api.ErrLimit}, {pi(long, "?>"), api.ErrForm}, {with("", long, "\x00"), api.ErrForm},
		{api.Event{Kind: api.Start, Name: full(api.XmlnsSpace, "a")}, api.ErrSpace}, {api.Event{Kind: api.End, Name: full(api.XmlnsSpace, "a")}, api.ErrSpace}, {with(api.XmlnsSpace, "b", ""), api.ErrSpace}, {with("", "xmlns", ""), api.ErrSpace}, {with("", "b", "1", "", "b", "2"), api.ErrSpace}, {with("u", "b", "", "u", "b", "", "", long, ""), api.ErrLimit},
	}
	for i, x := range wrong {
		if got := One(x.e); got != x.want {
			t.Errorf("%d %.80v: %d", i, x.e, got)
		}
	}
}

func TestP40_2Check(t *testing.T) {
	rows := []struct {
		l  []api.Event
		at int
		e  api.Errno
	}{
		{[]api.Event{start("a"), end("a")}, 2, api.OK}, {[]api.Event{comment("c"), pi("p", ""), start("a"), text("x"), comment("c"), text("y"), start("b"), end("b"), text("z"), end("a"), comment("d")}, 11, api.OK},
		{[]api.Event{start("a"), end("b")}, 1, api.ErrForm}, {[]api.Event{end("a")}, 0, api.ErrForm}, {[]api.Event{start("a"), end("a"), end("a")}, 2, api.ErrForm}, {[]api.Event{start("a"), end("a"), start("a"), end("a")}, 2, api.ErrForm}, {[]api.Event{text("x"), start("a"), end("a")}, 0, api.ErrForm}, {[]api.Event{start("a"), end("a"), text(" ")}, 2, api.ErrForm}, {[]api.Event{start("a"), text("x"), text("y"), end("a")}, 2, api.ErrForm},
		{[]api.Event{start("a")}, 1, api.ErrForm}, {nil, 0, api.ErrForm}, {[]api.Event{comment("c")}, 1, api.ErrForm}, {[]api.Event{start("a"), {}, end("b")}, 1, api.ErrArg}, {[]api.Event{start("a"), end("b"), {}}, 1, api.ErrForm}, {[]api.Event{{Kind: api.Start, Name: full("u", "a")}, end("a")}, 1, api.ErrForm}, {[]api.Event{start("a"), start("b"), end("a"), end("b")}, 2, api.ErrForm}, {[]api.Event{start("a"), start(long)}, 1, api.ErrLimit},
	}
	for i, x := range rows {
		if at, e := Check(x.l); at != x.at || e != x.e {
			t.Error(i, at, e)
		}
		if Right(x.l) != (x.e == api.OK) {
			t.Error("Right", i)
		}
	}
}

func TestP40_3WhatProcessTells(t *testing.T) {
	c := api.Cfg{MaxSize: 1000, MaxOut: 1000, MaxDepth: 9, MaxAttrs: 9}
	docs := map[string]bool{
		"<a/>": true, "<!--c--><?p q?><p:a xmlns:p='u' p:b='&#13;'>x<!--\r-->&#13;<![CDATA[]]>y</p:a>": true, "<!DOCTYPE a [<!ENTITY e 'x<b>y</b>&#13;'>]><a>z&e;&e;</a>": true,
		"<!DOCTYPE a [<!ENTITY e '<!--&#13;-->'>]><a>&e;</a>": false, "<!DOCTYPE a [<!ENTITY e '<?p &#13;?>'>]><a>&e;</a>": true, "<!DOCTYPE a [<!ENTITY e '<?p q&#13;?>'>]><a>&e;</a>": false,
	}
	for doc, want := range docs {
		r := proc.Process([]byte(doc), c, nil)
		if r.E != api.OK || Right(r.Events) != want {
			t.Error(doc, r.E)
		}
	}
}
