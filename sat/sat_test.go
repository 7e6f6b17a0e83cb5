package sat

import (
	"math/big"
	"testing"
)

var edges = []int{-1 << 63, -5, -1, 0, 1, 2, 3, 7, 1 << 31, 1<<31 + 1, 1 << 32, 1 << 62, 1<<63 - 2, 1<<63 - 1}

func held(x *big.Int) int {
	top := big.NewInt(1<<63 - 1)
	if x.Sign() < 0 {
		return 0
	}
	if x.Cmp(top) > 0 {
		return 1<<63 - 1
	}
	return int(x.Int64())
}

func wide(a int) *big.Int {
	if a < 0 {
		a = 0
	}
	return big.NewInt(int64(a))
}

func TestP1_1CapAndHold(t *testing.T) {
	if Cap() != 1<<63-1 {
		t.Error("Cap", Cap())
	}
	for _, a := range edges {
		if Hold(a) != int(wide(a).Int64()) {
			t.Error("Hold", a)
		}
	}
}

func TestP1_2TwoNumbers(t *testing.T) {
	for _, a := range edges {
		for _, b := range edges {
			x, y := wide(a), wide(b)
			if got, want := Add(a, b), held(new(big.Int).Add(x, y)); got != want {
				t.Error("Add", a, b, got, want)
			}
			if got, want := Sub(a, b), held(new(big.Int).Sub(x, y)); got != want {
				t.Error("Sub", a, b, got, want)
			}
			if got, want := Mul(a, b), held(new(big.Int).Mul(x, y)); got != want {
				t.Error("Mul", a, b, got, want)
			}
		}
	}
}

func TestP1_2SumAndPow(t *testing.T) {
	if Sum() != 0 || Sum(1, -2, 3) != 4 || Sum(Cap(), -Cap(), 1) != Cap() {
		t.Error("Sum")
	}
	pows := []struct{ a, n, want int }{
		{0, 0, 1}, {0, 1, 0}, {0, Cap(), 0}, {1, Cap(), 1}, {2, 62, 1 << 62}, {2, 63, Cap()},
		{2, Cap(), Cap()}, {-3, 0, 1}, {-3, 2, 0}, {3, -1, 1}, {10, 18, 1000000000000000000}, {10, 19, Cap()},
		{Cap(), 1, Cap()}, {Cap(), 2, Cap()}, {Cap(), 0, 1},
	}
	for _, p := range pows {
		if got := Pow(p.a, p.n); got != p.want {
			t.Error("Pow", p, got)
		}
	}
}

func TestP1_3Laws(t *testing.T) {
	for _, a := range edges {
		for _, b := range edges {
			if Add(a, b) != Add(b, a) || Mul(a, b) != Mul(b, a) {
				t.Error("order", a, b)
			}
			for _, c := range edges {
				if Add(Add(a, b), c) != Add(a, Add(b, c)) || Mul(Mul(a, b), c) != Mul(a, Mul(b, c)) {
					t.Error("brackets", a, b, c)
				}
				if Mul(a, Add(b, c)) != Add(Mul(a, b), Mul(a, c)) {
					t.Error("sum of both", a, b, c)
				}
				if Hold(b) <= Hold(c) && (Add(a, b) > Add(a, c) || Mul(a, b) > Mul(a, c)) {
					t.Error("grows", a, b, c)
				}
			}
		}
	}
}
