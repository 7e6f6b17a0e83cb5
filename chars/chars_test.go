package chars

import (
	"slices"
	"testing"
)

// these are written out of the chapter once more, as it says them
var wantChar = [][2]int{{0x9, 0xA}, {0xD, 0xD}, {0x20, 0xD7FF}, {0xE000, 0xFFFD}, {0x10000, 0x10FFFF}}
var wantStart = [][2]int{{':', ':'}, {'A', 'Z'}, {'_', '_'}, {'a', 'z'}, {0xC0, 0xD6}, {0xD8, 0xF6}, {0xF8, 0x2FF}, {0x370, 0x37D}, {0x37F, 0x1FFF}, {0x200C, 0x200D}, {0x2070, 0x218F}, {0x2C00, 0x2FEF}, {0x3001, 0xD7FF}, {0xF900, 0xFDCF}, {0xFDF0, 0xFFFD}, {0x10000, 0xEFFFF}}

const pubids = "\x20\r\nabcdefghijklmnopqrstuvwxyzABCDEFGHIJKLMNOPQRSTUVWXYZ0123456789-'()+,./:=?;!*#@$_%"

func in(l [][2]int, r int) bool {
	for _, x := range l {
		if r >= x[0] && r <= x[1] {
			return true
		}
	}
	return false
}

func TestP3_1P3_2Classes(t *testing.T) {
	for r := -2; r <= 0x110002; r++ {
		blank := r == 0x20 || r == 9 || r == 13 || r == 10
		start := in(wantStart, r)
		char := start || r == '-' || r == '.' || r >= '0' && r <= '9' || r == 0xB7 || r >= 0x300 && r <= 0x36F || r == 0x203F || r == 0x2040
		pub := r >= 0 && r < 128 && slices.Contains([]byte(pubids), byte(r))
		if Char(r) != in(wantChar, r) || Blank(r) != blank || NameStart(r) != start || NameChar(r) != char || Pubid(r) != pub {
			t.Fatalf("%X: %v %v %v %v %v", r, Char(r), Blank(r), NameStart(r), NameChar(r), Pubid(r))
		}
		sum := 0
		for i, is := range []bool{in(wantChar, r), blank, start, char, pub} {
			if is {
				sum += 1 << i
			}
		}
		if Classes(r) != sum {
			t.Fatalf("Classes %X: %d", r, Classes(r))
		}
	}
	for _, r := range []int{-1 << 63, 1<<63 - 1, 1<<32 + 65} {
		if Classes(r) != 0 {
			t.Error(r)
		}
	}
}

func TestP3_3Digit(t *testing.T) {
	for r := -1; r < 300; r++ {
		ten, sixteen := -1, -1
		for i, d := range []byte("0123456789abcdef") {
			if r == int(d) {
				sixteen = i
			}
		}
		for i, d := range []byte("ABCDEF") {
			if r == int(d) {
				sixteen = 10 + i
			}
		}
		if sixteen < 10 {
			ten = sixteen
		}
		if Digit(r, 10) != ten || Digit(r, 16) != sixteen {
			t.Error(r, Digit(r, 10), Digit(r, 16))
		}
	}
	for _, base := range []int{-1, 0, 2, 8, 11, 15, 17, 36} {
		if Digit('1', base) != -1 {
			t.Error("base", base)
		}
	}
}

func TestP3_4All(t *testing.T) {
	if !All(nil, Char) || !All([]byte("aä"), NameStart) || All([]byte("a1"), NameStart) || All([]byte("a\xFF"), NameStart) || All([]byte("a"), nil) || All(nil, nil) {
		t.Error("All")
	}
	if All([]byte("\xFF"), func(int) bool { return true }) {
		t.Error("no text")
	}
}

func TestP3_4Ranges(t *testing.T) {
	if got := Ranges(Char, 0, 0x40); !slices.Equal(got, [][2]int{{9, 10}, {13, 13}, {0x20, 0x40}}) {
		t.Error(got)
	}
	if got := Ranges(Blank, 9, 10); !slices.Equal(got, [][2]int{{9, 10}}) {
		t.Error(got)
	}
	all := func(int) bool { return true }
	if got := Ranges(all, 7, 7); !slices.Equal(got, [][2]int{{7, 7}}) {
		t.Error(got)
	}
	if got := Ranges(all, 5, 5+1<<20-1); !slices.Equal(got, [][2]int{{5, 5 + 1<<20 - 1}}) {
		t.Error(got)
	}
	top := 1<<63 - 1
	if got := Ranges(all, top-1, top); !slices.Equal(got, [][2]int{{top - 1, top}}) {
		t.Error(got)
	}
	none := [][][2]int{Ranges(all, 5, 5+1<<20), Ranges(nil, 0, 5), Ranges(all, 1, 0), Ranges(all, -1<<63, top), Ranges(all, top, -1<<63), Ranges(func(int) bool { return false }, 0, 9)}
	for i, l := range none {
		if len(l) != 0 {
			t.Error(i, l)
		}
	}
	asked := 0
	Ranges(func(r int) bool { asked++; return r != 3 }, 0, 6)
	if asked != 7 {
		t.Error("asked", asked)
	}
}

func TestP3_5WhatFollows(t *testing.T) {
	for r := 0; r <= 0x10FFFF; r++ {
		if NameStart(r) && !NameChar(r) || (Blank(r) || NameChar(r) || Pubid(r)) && !Char(r) {
			t.Fatal(r)
		}
	}
}
