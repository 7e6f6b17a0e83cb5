package decl

import (
	"strings"
	"testing"

	"narthex/api"
	"narthex/atype"
)

var long = strings.Repeat("n", 1025)

func TestP16_1Next(t *testing.T) {
	if End != 0 || Entity != 1 || List != 2 || Notation != 3 || Element != 4 || Pi != 5 || Comment != 6 || Ref != 7 {
		t.Error("numbers")
	}
	rows := []struct {
		b    string
		at   int
		d    Decl
		next int
		e    api.Errno
	}{
		{"", 0, Decl{}, 0, api.OK}, {" \n", 0, Decl{}, 2, api.OK}, {"  ]>", 0, Decl{}, 2, api.OK}, {"a]", 1, Decl{}, 1, api.OK},
		{"\t%p;x", 0, Decl{Kind: Ref, Name: "p"}, 4, api.OK}, {"<!--a-->", 0, Decl{Kind: Comment, Text: "a"}, 8, api.OK}, {"<?p q?>", 0, Decl{Kind: Pi, Name: "p", Text: "q"}, 7, api.OK},
		{"a", 0, Decl{}, 0, api.ErrForm}, {"<", 0, Decl{}, 0, api.ErrForm}, {"<!FOO a>", 0, Decl{}, 0, api.ErrForm}, {"<![INCLUDE[]]>", 0, Decl{}, 0, api.ErrForm}, {"<a/>", 0, Decl{}, 0, api.ErrForm}, {"%p", 0, Decl{}, 0, api.ErrForm}, {"% p;", 0, Decl{}, 0, api.ErrForm}, {"<!--a--", 0, Decl{}, 0, api.ErrForm}, {"<?xml?>", 0, Decl{}, 0, api.ErrForm}, {"%" + long + ";", 0, Decl{}, 0, api.ErrLimit},
		{"", 1, Decl{}, 0, api.ErrRange}, {"", -1, Decl{}, 0, api.ErrRange},
	}
	for _, x := range rows {
		if d, next, e := Next([]byte(x.b), x.at); !Same(d, x.d) || next != x.next || e != x.e {
			t.Errorf("%.20q %d: %+v %d %d", x.b, x.at, d, next, e)
		}
	}
}

func one(t *testing.T, s string, want Decl, we api.Errno) {
	t.Helper()
	d, next, e := Next([]byte(s), 0)
	end := len(s)
	if we != api.OK {
		end = 0
	}
	if !Same(d, want) || next != end || e != we {
		t.Errorf("%.50q: %+v %d %d", s, d, next, e)
	}
}

func TestP16_2Entities(t *testing.T) {
	entity := func(e api.Entity) Decl { return Decl{Kind: Entity, Entity: e} }
	one(t, `<!ENTITY a "b&#65;">`, entity(api.Entity{Name: "a", Text: "bA"}), api.OK)
	one(t, "<!ENTITY\n\ta\n'x<\"&b;'  >", entity(api.Entity{Name: "a", Text: `x<"&b;`}), api.OK)
	one(t, `<!ENTITY % p SYSTEM "x">`, Decl{Kind: Entity, Param: true, Entity: api.Entity{Name: "p", Out: true, ID: api.ExtID{System: "x"}}}, api.OK)
	one(t, `<!ENTITY %  p 'y'>`, Decl{Kind: Entity, Param: true, Entity: api.Entity{Name: "p", Text: "y"}}, api.OK)
	one(t, `<!ENTITY a PUBLIC "p" "s" >`, entity(api.Entity{Name: "a", Out: true, ID: api.ExtID{Public: "p", System: "s"}}), api.OK)
	one(t, `<!ENTITY a SYSTEM "s" NDATA n >`, entity(api.Entity{Name: "a", Out: true, ID: api.ExtID{System: "s"}, Notation: "n"}), api.OK)
	for _, s := range []string{`<!ENTITYa "b">`, `<!ENTITY a"b">`, `<!ENTITY %p "b">`, `<!ENTITY % p SYSTEM "x" NDATA n>`, `<!ENTITY a "b" NDATA n>`, `<!ENTITY a SYSTEM "s"NDATA n>`, `<!ENTITY a SYSTEM "s" NDATAn>`, `<!ENTITY a SYSTEM "s" NDATA 1>`, `<!ENTITY a:b "c">`, `<!ENTITY a "%">`, `<!ENTITY a "&">`, `<!ENTITY a "b" c>`, `<!ENTITY a "b"`, `<!ENTITY a b>`, `<!ENTITY a PUBLIC "p">`, `<!ENTITY a>`, `<!ENTITY`} {
		one(t, s, Decl{}, api.ErrForm)
	}
	one(t, `<!ENTITY a "&#0;">`, Decl{}, api.ErrChar)
	one(t, `<!ENTITY `+long+` "b">`, Decl{}, api.ErrLimit)
	one(t, `<!ENTITY a "&`+long+`;">`, Decl{}, api.ErrLimit)
}

func TestP16_3Others(t *testing.T) {
	defs := []atype.Def{{Name: "b", Kind: atype.CData, Mode: atype.Implied}, {Name: "c", Kind: atype.Enum, Words: []string{"x", "y"}, Mode: atype.Plain, Value: "x"}}
	one(t, "<!ATTLIST p:a b CDATA #IMPLIED\n c (x|y) 'x'>", Decl{Kind: List, Name: "p:a", Defs: defs}, api.OK)
	one(t, "<!ATTLIST a>", Decl{Kind: List, Name: "a"}, api.OK)
	one(t, "<!ATTLIST a >", Decl{Kind: List, Name: "a"}, api.OK)
	for _, s := range []string{"<!ATTLISTa>", "<!ATTLIST>", "<!ATTLIST a", "<!ATTLIST a ", "<!ATTLIST a b>", "<!ATTLIST a b CDATA>", "<!ATTLIST a b CDATA ''c CDATA ''>", "<!ATTLIST a %p;>"} {
		one(t, s, Decl{}, api.ErrForm)
	}
	one(t, "<!ATTLIST a b CDATA '&#0;'>", Decl{}, api.ErrChar)
	one(t, "<!NOTATION n SYSTEM 's'>", Decl{Kind: Notation, Name: "n", ID: api.ExtID{System: "s"}}, api.OK)
	one(t, "<!NOTATION n PUBLIC 'p' >", Decl{Kind: Notation, Name: "n", ID: api.ExtID{Public: "p"}}, api.OK)
	one(t, "<!NOTATION n PUBLIC 'p' 's'>", Decl{Kind: Notation, Name: "n", ID: api.ExtID{Public: "p", System: "s"}}, api.OK)
	for _, s := range []string{"<!NOTATION n>", "<!NOTATION n:m SYSTEM 's'>", "<!NOTATION n SYSTEM>", "<!NOTATION n 's'>", "<!NOTATION n PUBLIC 'p'", "<!NOTATIONn SYSTEM 's'>"} {
		one(t, s, Decl{}, api.ErrForm)
	}
	one(t, "<!ELEMENT p:a (b , c)* >", Decl{Kind: Element, Name: "p:a", Text: "(b , c)* "}, api.OK)
	one(t, "<!ELEMENT a  EMPTY>", Decl{Kind: Element, Name: "a", Text: "EMPTY"}, api.OK)
	one(t, "<!ELEMENT a b>", Decl{Kind: Element, Name: "a", Text: "b"}, api.OK)
	for _, s := range []string{"<!ELEMENT a>", "<!ELEMENT a >", "<!ELEMENT a  \n>", "<!ELEMENT a (b", "<!ELEMENT a (<)>", "<!ELEMENT a &b;>", "<!ELEMENT a %b;>", "<!ELEMENT a 'x'>", `<!ELEMENT a "x">`, "<!ELEMENTa b>", "<!ELEMENT 1 b>"} {
		one(t, s, Decl{}, api.ErrForm)
	}
}

func TestP16_4All(t *testing.T) {
	b := []byte("x <!--a-->\n%p;<!ELEMENT a ANY> ]>")
	l, next, e := All(b, 1)
	if len(l) != 3 || l[0].Kind != Comment || l[1].Kind != Ref || l[2].Kind != Element || next != 31 || e != api.OK {
		t.Error(l, next, e)
	}
	if l, next, e := All(nil, 0); len(l) != 0 || next != 0 || e != api.OK {
		t.Error(l, next, e)
	}
	if l, next, e := All([]byte("<!--a--> <!FOO>"), 0); len(l) != 0 || next != 8 || e != api.ErrForm {
		t.Error(l, next, e)
	}
}

func TestP16_5Put(t *testing.T) {
	inner := func(n, text string) api.Entity { return api.Entity{Name: n, Text: text} }
	outer := api.Entity{Name: "a", Out: true, ID: api.ExtID{Public: "p", System: "s"}, Notation: "n"}
	rows := []struct {
		d Decl
		w string
		e api.Errno
	}{
		{Decl{Kind: Entity, Entity: inner("a", `b"&c;%`)}, `<!ENTITY a "b&#34;&#38;c;&#37;">`, api.OK}, {Decl{Kind: Entity, Param: true, Entity: inner("p", "")}, `<!ENTITY % p "">`, api.OK}, {Decl{Kind: Entity, Entity: outer}, `<!ENTITY a PUBLIC "p" "s" NDATA n>`, api.OK},
		{Decl{Kind: List, Name: "a", Defs: []atype.Def{{Name: "b", Kind: atype.ID, Mode: atype.Required}}}, `<!ATTLIST a b ID #REQUIRED>`, api.OK}, {Decl{Kind: List, Name: "a"}, `<!ATTLIST a>`, api.OK}, {Decl{Kind: Notation, Name: "n", ID: api.ExtID{Public: "p"}}, `<!NOTATION n PUBLIC "p">`, api.OK},
		{Decl{Kind: Notation, Name: "n", ID: api.ExtID{System: "s"}}, `<!NOTATION n SYSTEM "s">`, api.OK}, {Decl{Kind: Element, Name: "a", Text: "(b)"}, `<!ELEMENT a (b)>`, api.OK}, {Decl{Kind: Pi, Name: "p", Text: "q"}, `<?p q?>`, api.OK}, {Decl{Kind: Comment, Text: "c"}, `<!--c-->`, api.OK}, {Decl{Kind: Ref, Name: "p"}, `%p;`, api.OK},
		{Decl{}, "", api.ErrForm}, {Decl{Kind: 8}, "", api.ErrForm}, {Decl{Kind: -1}, "", api.ErrForm}, {Decl{Kind: Entity, Entity: inner("a", "\xFF")}, "", api.ErrUtf}, {Decl{Kind: Entity, Entity: inner("", "\xFF")}, "", api.ErrUtf}, {Decl{Kind: Entity, Entity: inner("a", "\x00")}, "", api.ErrChar},
		{Decl{Kind: Entity, Entity: inner("", "")}, "", api.ErrForm}, {Decl{Kind: Entity, Entity: inner(long, "")}, "", api.ErrForm}, {Decl{Kind: Entity, Entity: inner("a:b", "")}, "", api.ErrForm}, {Decl{Kind: Entity, Name: "a", Entity: inner("a", "")}, "", api.ErrForm}, {Decl{Kind: Entity, Text: "a", Entity: inner("a", "")}, "", api.ErrForm},
		{Decl{Kind: Entity, Entity: api.Entity{Name: "a", Text: "x", Out: true}}, "", api.ErrForm}, {Decl{Kind: Entity, Entity: api.Entity{Name: "a", Notation: "n"}}, "", api.ErrForm}, {Decl{Kind: Entity, Entity: api.Entity{Name: "a", ID: api.ExtID{System: "s"}}}, "", api.ErrForm}, {Decl{Kind: Entity, Param: true, Entity: outer}, "", api.ErrForm},
		{Decl{Kind: Entity, Entity: api.Entity{Name: "a", Out: true, ID: api.ExtID{System: `"'`}}}, "", api.ErrForm}, {Decl{Kind: List, Name: "a", Param: true}, "", api.ErrForm}, {Decl{Kind: List, Name: ""}, "", api.ErrForm}, {Decl{Kind: List, Name: "a", Defs: []atype.Def{{Name: long, Kind: atype.ID, Mode: atype.Required}}}, "", api.ErrLimit},
		{Decl{Kind: Element, Name: "a", Text: " b"}, "", api.ErrForm}, {Decl{Kind: Element, Name: "a", Text: "b>c"}, "", api.ErrForm}, {Decl{Kind: Element, Name: "a"}, "", api.ErrForm}, {Decl{Kind: Pi, Name: long}, "", api.ErrLimit}, {Decl{Kind: Pi, Name: "xml"}, "", api.ErrForm}, {Decl{Kind: Comment, Text: "--"}, "", api.ErrForm},
		{Decl{Kind: Comment, Name: "a", Text: "c"}, "", api.ErrForm}, {Decl{Kind: Ref, Name: "p;%q"}, "", api.ErrForm}, {Decl{Kind: Ref, Name: ""}, "", api.ErrForm}, {Decl{Kind: Ref, Name: "p", ID: api.ExtID{System: "s"}}, "", api.ErrForm},
	}
	for _, x := range rows {
		w, e := Put(x.d)
		if w != x.w || e != x.e {
			t.Errorf("%.80v: %q %d", x.d, w, e)
		}
		if e == api.OK {
			one(t, w, x.d, api.OK)
		}
	}
}

func TestP16_6WhatWasRead(t *testing.T) {
	for _, s := range []string{"<!ENTITY a '&#38;#60;&b;'>", "<!ENTITY % p PUBLIC 'x' \"y\">", "<!ATTLIST a b NOTATION (x|y) #FIXED '&c;' d IDREFS #IMPLIED>", "<!NOTATION n PUBLIC ''>", "<!NOTATION n SYSTEM ''>", "<!ELEMENT a (#PCDATA|b)*>", "<?p  q ?>", "%p;"} {
		d, _, e := Next([]byte(s), 0)
		if e != api.OK {
			t.Fatal(s, e)
		}
		w, e := Put(d)
		if e != api.OK {
			t.Fatal(s, e)
		}
		one(t, w, d, api.OK)
	}
	a := Decl{Kind: Entity}
	for i, c := range []Decl{{}, {Kind: Entity, Name: "x"}, {Kind: Entity, Param: true}, {Kind: Entity, Entity: api.Entity{Name: "x"}}, {Kind: Entity, Defs: []atype.Def{{}}}, {Kind: Entity, ID: api.ExtID{Public: "x"}}, {Kind: Entity, Text: "x"}} {
		if Same(a, c) {
			t.Error(i)
		}
	}
	if !Same(a, Decl{Kind: Entity, Defs: []atype.Def{}}) {
		t.Error("nil and empty")
	}
}
