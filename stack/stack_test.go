package stack

import (
	"slices"
	"testing"

	"narthex/api"
)

func TestP12_1NewAndPush(t *testing.T) {
	for _, room := range []int{-1, api.MaxLimit + 1, -1 << 63, 1<<63 - 1} {
		if s, e := New[int](room); s != nil || e != api.ErrArg {
			t.Error(room, s, e)
		}
	}
	for _, room := range []int{0, 2, api.MaxLimit} {
		s, e := New[string](room)
		if e != api.OK || s.Room() != room || s.Len() != 0 || len(s.All()) != 0 {
			t.Error(room, e)
		}
	}
	s, _ := New[int](2)
	if s.Push(1) != api.OK || s.Push(2) != api.OK || s.Push(3) != api.ErrLimit || s.Len() != 2 {
		t.Error("Push")
	}
	none, _ := New[int](0)
	if none.Push(1) != api.ErrLimit || none.Len() != 0 {
		t.Error("room 0")
	}
}

func TestP12_2Rest(t *testing.T) {
	s, _ := New[int](5)
	if x, ok := s.Pop(); x != 0 || ok {
		t.Error(x, ok)
	}
	if x, ok := s.Top(); x != 0 || ok {
		t.Error(x, ok)
	}
	for _, x := range []int{7, 8, 7, 9} {
		s.Push(x)
	}
	if x, ok := s.Top(); x != 9 || !ok || s.Len() != 4 {
		t.Error(x, ok)
	}
	all := s.All()
	if !slices.Equal(all, []int{7, 8, 7, 9}) {
		t.Error(all)
	}
	all[0] = 100
	_ = append(all, 5)
	if at, ok := s.Find(func(x int) bool { return x == 7 }); at != 2 || !ok {
		t.Error(at, ok)
	}
	low, _ := New[int](2)
	low.Push(5)
	low.Push(6)
	if at, ok := low.Find(func(x int) bool { return x == 5 }); at != 0 || !ok {
		t.Error(at, ok)
	}
	if at, ok := s.Find(func(x int) bool { return x == 100 }); at != 0 || ok {
		t.Error(at, ok)
	}
	if at, ok := s.Find(nil); at != 0 || ok {
		t.Error(at, ok)
	}
	s.Cut(9)
	s.Cut(4)
	if s.Len() != 4 {
		t.Error("Cut of more")
	}
	s.Cut(2)
	if !slices.Equal(s.All(), []int{7, 8}) {
		t.Error(s.All())
	}
	s.Cut(-1 << 63)
	if s.Len() != 0 || s.Room() != 5 {
		t.Error("Cut of all")
	}
}

func TestP12_2Nil(t *testing.T) {
	var s *Stack[int]
	if s.Push(1) != api.ErrNil || s.Len() != 0 || s.Room() != 0 || len(s.All()) != 0 {
		t.Error("nil")
	}
	s.Cut(1)
	if x, ok := s.Pop(); x != 0 || ok {
		t.Error(x, ok)
	}
	if x, ok := s.Top(); x != 0 || ok {
		t.Error(x, ok)
	}
	if at, ok := s.Find(func(int) bool { return true }); at != 0 || ok {
		t.Error(at, ok)
	}
	var zero Stack[int]
	zero.Push(1)
	zero.Pop()
	zero.Cut(3)
}

func TestP12_3TheOtherWayRound(t *testing.T) {
	s, _ := New[int](100)
	for i := range 150 {
		if e := s.Push(i); (e == api.OK) != (i < 100) {
			t.Fatal(i, e)
		}
	}
	for i := 99; i >= 0; i-- {
		if x, ok := s.Pop(); x != i || !ok {
			t.Fatal(i, x, ok)
		}
	}
}
