package pump

import (
	"runtime"
	"slices"
	"testing"
	"time"

	"narthex/api"
)

// counts puts 1, 2, .. up to n, or till it is told to end; it tells how many were handed on.
func counts(n int) func(func(int) bool) api.Errno {
	return func(put func(int) bool) api.Errno {
		for i := 1; i <= n; i++ {
			if !put(i) {
				return api.Errno(1000 + i - 1)
			}
		}
		return api.Errno(1000 + n)
	}
}

func start(t *testing.T, room int, f func(func(int) bool) api.Errno) *Pump[int] {
	t.Helper()
	p, e := New(room, f)
	if e != api.OK {
		t.Fatal(e)
	}
	return p
}

func next(t *testing.T, p *Pump[int], want int, has bool) {
	t.Helper()
	if x, ok := p.Next(); x != want || ok != has {
		t.Error(x, ok)
	}
}

func end(t *testing.T, p *Pump[int], want api.Errno, is bool) {
	t.Helper()
	if e, ok := p.End(); e != want || ok != is {
		t.Error(e, ok)
	}
}

func TestP38_1New(t *testing.T) {
	if p, e := New[int](-1, nil); p != nil || e != api.ErrNil {
		t.Error(e)
	}
	for _, room := range []int{-1, api.MaxStack + 1, 1<<63 - 1} {
		if p, e := New(room, counts(1)); p != nil || e != api.ErrArg {
			t.Error(room, e)
		}
	}
	called := 0
	p := start(t, api.MaxStack, func(put func(int) bool) api.Errno { called++; return api.OK })
	end(t, p, api.OK, false)
	time.Sleep(5 * time.Millisecond)
	if called != 0 {
		t.Error("make was called ahead of the first Next")
	}
	next(t, p, 0, false)
	next(t, p, 0, false)
	if p.Stop() != api.ErrDone || called != 1 {
		t.Error("called", called)
	}
}

func TestP38_1WhatWaits(t *testing.T) {
	ahead := make(chan bool)
	p := start(t, 3, func(put func(int) bool) api.Errno {
		for i := range 4 {
			put(i)
		}
		close(ahead)
		put(4)
		return api.OK
	})
	next(t, p, 0, true)
	<-ahead // with room for three, and one taken, four puts do not wait
	for i := 1; i < 5; i++ {
		next(t, p, i, true)
	}
	next(t, p, 0, false)
}

func TestP38_2NextStopEnd(t *testing.T) {
	p := start(t, 0, counts(3))
	next(t, p, 1, true)
	end(t, p, api.OK, false)
	if e := p.Stop(); e != api.OK {
		t.Error(e)
	}
	next(t, p, 0, false)
	end(t, p, 1001, true)
	if e := p.Stop(); e != api.ErrDone {
		t.Error(e)
	}
	p = start(t, 1, counts(2))
	next(t, p, 1, true)
	next(t, p, 2, true)
	end(t, p, api.OK, false)
	next(t, p, 0, false)
	end(t, p, 1002, true)
	if p.Stop() != api.ErrDone {
		t.Error("at its end")
	}
	p = start(t, 2, counts(2))
	Slice(p, 2)
	if p.Stop() != api.OK {
		t.Error("all was taken, but Next has not told false")
	}
	end(t, p, 1002, true)
}

func TestP38_2StopAheadOfAll(t *testing.T) {
	for _, room := range []int{0, 3} {
		called := 0
		p := start(t, room, func(put func(int) bool) api.Errno {
			called++
			if put(1) || put(2) {
				return api.ErrBig
			}
			return api.ErrForm
		})
		if p.Stop() != api.OK || called != 1 {
			t.Error("called", called)
		}
		end(t, p, api.ErrForm, true)
		next(t, p, 0, false)
	}
}

func TestP38_2StopWaits(t *testing.T) {
	back := false
	p := start(t, 0, func(put func(int) bool) api.Errno {
		put(1)
		for range 3 {
			if put(2) {
				t.Error("handed on behind the stop")
			}
		}
		time.Sleep(10 * time.Millisecond)
		back = true
		return api.OK
	})
	next(t, p, 1, true)
	p.Stop()
	if !back {
		t.Error("make has not come back")
	}
}

func TestP38_2PutBehindTheEnd(t *testing.T) {
	var kept func(int) bool
	p := start(t, 2, func(put func(int) bool) api.Errno { kept = put; return api.OK })
	next(t, p, 0, false)
	if kept(1) {
		t.Error("handed on when make had come back")
	}
}

// TestP38_2NotWhoIsFaster: how many were handed on ahead of a stop hangs on the room, and on what was taken, alone.
func TestP38_2NotWhoIsFaster(t *testing.T) {
	for room := range 4 {
		for taken := 1; taken < 4; taken++ {
			for range 300 {
				p := start(t, room, counts(100))
				Slice(p, taken)
				p.Stop()
				if e, _ := p.End(); e != api.Errno(1000+room+taken) {
					t.Fatal(room, taken, e)
				}
			}
		}
	}
}

func TestP38_3Slice(t *testing.T) {
	p := start(t, 1, counts(5))
	if l := Slice(p, 0); len(l) != 0 {
		t.Error(l)
	}
	if l := Slice(p, -1<<63); len(l) != 0 {
		t.Error(l)
	}
	if l := Slice(p, 2); !slices.Equal(l, []int{1, 2}) {
		t.Error(l)
	}
	if l := Slice(p, 1<<63-1); !slices.Equal(l, []int{3, 4, 5}) {
		t.Error(l)
	}
	end(t, p, 1005, true)
}

func TestP38_4InOrderAndNothingLeft(t *testing.T) {
	before := runtime.NumGoroutine()
	var want []int
	for i := 1; i <= 1000; i++ {
		want = append(want, i)
	}
	for _, room := range []int{0, 1, 7, 4096} {
		p := start(t, room, counts(1000))
		if got := Slice(p, 5000); !slices.Equal(got, want) {
			t.Error(room)
		}
		q := start(t, room, counts(1000))
		Slice(q, 3)
		q.Stop()
	}
	for range 100 {
		if runtime.NumGoroutine() <= before {
			return
		}
		time.Sleep(time.Millisecond)
	}
	t.Error("goroutines are left", runtime.NumGoroutine()-before)
}

func TestP38Nil(t *testing.T) {
	var p *Pump[string]
	if s, ok := p.Next(); s != "" || ok {
		t.Error(s, ok)
	}
	if e := p.Stop(); e != api.ErrNil {
		t.Error(e)
	}
	if l := Slice(p, 3); len(l) != 0 {
		t.Error(l)
	}
	// Next and Stop of no pump do not bring it to its end
	if e, ok := p.End(); e != api.ErrNil || ok {
		t.Error(e, ok)
	}
}

// TestP38EndOfWhatNewDidNotMake: New tells no pump beside an error, and its End is ErrNil; of a pump that has only not begun it is OK.
func TestP38EndOfWhatNewDidNotMake(t *testing.T) {
	p, _ := New[int](0, nil)
	end(t, p, api.ErrNil, false)
	p, _ = New(-1, counts(1))
	end(t, p, api.ErrNil, false)
	end(t, start(t, 0, counts(1)), api.OK, false)
}

// TestP38Zero: what it answers is open, but each call ends, and none panics.
func TestP38Zero(t *testing.T) {
	var zero Pump[int]
	zero.Next()
	zero.Stop()
	zero.End()
	Slice(&zero, 2)
}
