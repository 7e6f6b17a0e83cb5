package utf

import (
	"bytes"
	"slices"
	"testing"
	"unicode/utf8"

	"narthex/api"
)

func TestP2_1IsAndEncode(t *testing.T) {
	for r := -3; r <= 0x110003; r++ {
		is := r >= 0 && r <= 0x10FFFF && !(r >= 0xD800 && r <= 0xDFFF)
		if Is(r) != is {
			t.Fatal("Is", r)
		}
		b, e := Encode(r)
		if !is {
			if e != api.ErrChar || len(b) != 0 {
				t.Fatal("Encode", r, b, e)
			}
			continue
		}
		if e != api.OK || string(b) != string(rune(r)) {
			t.Fatal("Encode", r, b, e)
		}
	}
	for _, r := range []int{-1 << 63, 1<<63 - 1, 1 << 32, 1<<32 + 65} {
		if _, e := Encode(r); Is(r) || e != api.ErrChar {
			t.Error("far numbers", r)
		}
	}
}

func TestP2_2DecodeAgainstTheLibrary(t *testing.T) {
	// every pair, and longer rows from bytes at which the rule changes
	edge := []byte{0, 0x41, 0x7F, 0x80, 0x8F, 0x90, 0x9F, 0xA0, 0xBF, 0xC0, 0xC1, 0xC2, 0xDF, 0xE0, 0xE1, 0xEC, 0xED, 0xEE, 0xEF, 0xF0, 0xF1, 0xF3, 0xF4, 0xF5, 0xF8, 0xFC, 0xFF}
	for _, a := range edge {
		for _, b := range edge {
			for _, c := range edge {
				for _, d := range edge {
					row := []byte{a, b, c, d}
					for n := 1; n <= 4; n++ {
						same(t, row[:n])
					}
				}
			}
		}
	}
}

func same(t *testing.T, b []byte) {
	t.Helper()
	r, next, e := Decode(b, 0)
	want, size := utf8.DecodeRune(b)
	if want == utf8.RuneError && size == 1 {
		if e != api.ErrUtf || r != 0 || next != 0 {
			t.Fatalf("% X: %d %d %d", b, r, next, e)
		}
		return
	}
	if e != api.OK || r != int(want) || next != size {
		t.Fatalf("% X: %d %d %d", b, r, next, e)
	}
}

func TestP2_2Places(t *testing.T) {
	b := []byte("aä€")
	for _, at := range []int{-1, 6, 7, -1 << 63, 1<<63 - 1} {
		if r, next, e := Decode(b, at); r != 0 || next != 0 || e != api.ErrRange {
			t.Error(at, r, next, e)
		}
	}
	if r, next, e := Decode(b, 1); r != 0xE4 || next != 3 || e != api.OK {
		t.Error(r, next, e)
	}
	if _, _, e := Decode(b, 2); e != api.ErrUtf {
		t.Error("within a character", e)
	}
	if _, _, e := Decode(nil, 0); e != api.ErrRange {
		t.Error("nil", e)
	}
}

func TestP2_2Check(t *testing.T) {
	rows := []struct {
		b  string
		at int
		e  api.Errno
	}{{"", 0, api.OK}, {"aä€", 6, api.OK}, {"ab\xC0\x80", 2, api.ErrUtf}, {"\x80", 0, api.ErrUtf}, {"ä\xE2\x82", 2, api.ErrUtf}, {"\xED\xA0\x80", 0, api.ErrUtf}, {"a\xF4\x90\x80\x80", 1, api.ErrUtf}}
	for _, x := range rows {
		if at, e := Check([]byte(x.b)); at != x.at || e != x.e {
			t.Errorf("%q %d %d", x.b, at, e)
		}
	}
}

func TestP2_3RunesTextLen(t *testing.T) {
	l, e := Runes([]byte("aä€😀"))
	if e != api.OK || !slices.Equal(l, []int{'a', 0xE4, 0x20AC, 0x1F600}) {
		t.Error(l, e)
	}
	if n, e := Len([]byte("aä€😀")); n != 4 || e != api.OK {
		t.Error(n, e)
	}
	if l, e := Runes([]byte("a\xFF")); len(l) != 0 || e != api.ErrUtf {
		t.Error(l, e)
	}
	if n, e := Len([]byte("a\xFF")); n != 0 || e != api.ErrUtf {
		t.Error(n, e)
	}
	if b, e := Text([]int{65, 0xD800, 66}); len(b) != 0 || e != api.ErrChar {
		t.Error(b, e)
	}
	if b, e := Text(nil); len(b) != 0 || e != api.OK {
		t.Error(b, e)
	}
}

func TestP2_4ThereAndBack(t *testing.T) {
	text := []byte("x\x00\x7Fä߿ࠀ\uFFFF𐀀\U0010FFFF")
	l, _ := Runes(text)
	if b, e := Text(l); e != api.OK || !bytes.Equal(b, text) {
		t.Error(b, e)
	}
	again, _ := Runes(text)
	if !slices.Equal(l, again) {
		t.Error(again)
	}
}
