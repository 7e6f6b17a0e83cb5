package eol

import (
	"bytes"
	"strings"
	"testing"

	"narthex/api"
)

func TestP4_1Norm(t *testing.T) {
	rows := [][2]string{{"", ""}, {"a\r\nb\rc", "a\nb\nc"}, {"\r", "\n"}, {"\r\n", "\n"}, {"\r\r\n", "\n\n"}, {"\n\r", "\n\n"}, {"\r\r", "\n\n"}, {"\n\n", "\n\n"}, {"\xFF\r\x00", "\xFF\n\x00"}, {"ab", "ab"}, {"a\r\n\r\n\rb\r", "a\n\n\nb\n"}}
	for _, x := range rows {
		in := []byte(x[0])
		if got := Norm(in); string(got) != x[1] {
			t.Errorf("%q: %q", x[0], got)
		}
		if string(in) != x[0] {
			t.Errorf("%q was changed to %q", x[0], in)
		}
		if Is(in) != !strings.Contains(x[0], "\r") {
			t.Errorf("Is %q", x[0])
		}
	}
	in := []byte("ab")
	out := Norm(in)
	out[0] = 'x'
	if string(in) != "ab" {
		t.Error("shared memory")
	}
}

func TestP4_2Places(t *testing.T) {
	b := []byte("a\nb\n\nc")
	if Lines(b) != 4 || Lines(nil) != 1 || Lines([]byte("\n")) != 2 {
		t.Error("Lines")
	}
	where := []struct{ at, line, col int }{{0, 1, 0}, {1, 1, 1}, {2, 2, 0}, {3, 2, 1}, {4, 3, 0}, {5, 4, 0}, {6, 4, 1}}
	for _, x := range where {
		if line, col, e := Where(b, x.at); line != x.line || col != x.col || e != api.OK {
			t.Error(x, line, col, e)
		}
	}
	for _, at := range []int{-1, 7, -1 << 63, 1<<63 - 1} {
		if line, col, e := Where(b, at); line != 0 || col != 0 || e != api.ErrRange {
			t.Error(at, line, col, e)
		}
	}
	lines := []string{"a", "b", "", "c"}
	for i, at := range []int{0, 2, 4, 5} {
		if got, e := At(b, i+1); got != at || e != api.OK {
			t.Error(i, got, e)
		}
		if got, e := Line(b, i+1); string(got) != lines[i] || e != api.OK {
			t.Error(i, got, e)
		}
	}
	for _, line := range []int{0, -1, 5, -1 << 63, 1<<63 - 1} {
		if at, e := At(b, line); at != 0 || e != api.ErrRange {
			t.Error(line, at, e)
		}
		if l, e := Line(b, line); len(l) != 0 || e != api.ErrRange {
			t.Error(line, l, e)
		}
	}
	if at, e := At([]byte("a\n"), 2); at != 2 || e != api.OK {
		t.Error("an empty last line", at, e)
	}
	got, _ := Line(b, 1)
	got = append(got, 'x')
	if b[1] != '\n' {
		t.Error("shared memory", got)
	}
}

func TestP4_3WhatFollows(t *testing.T) {
	var all func(prefix []byte, left int)
	all = func(b []byte, left int) {
		n := Norm(b)
		if !Is(n) || !bytes.Equal(Norm(n), n) || len(n) > len(b) {
			t.Fatalf("%q: %q", b, n)
		}
		for line := 1; line <= Lines(b); line++ {
			at, _ := At(b, line)
			if l, col, e := Where(b, at); l != line || col != 0 || e != api.OK {
				t.Fatal(b, line, l, col, e)
			}
		}
		if left == 0 {
			return
		}
		for _, c := range []byte("a\r\n") {
			all(append(bytes.Clone(b), c), left-1)
		}
	}
	all(nil, 6)
}
