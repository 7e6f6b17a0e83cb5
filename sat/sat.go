// Package sat reckons with numbers that are held: none goes below 0, none above the greatest int.
package sat

import "math"

// Cap tells the greatest number.
func Cap() int { return math.MaxInt }

// Hold tells a, or 0 where a is below 0.
func Hold(a int) int {
	if a < 0 {
		return 0
	}
	return a
}

// Add tells a and b together, at most Cap.
func Add(a, b int) int {
	a, b = Hold(a), Hold(b)
	if a > Cap()-b {
		return Cap()
	}
	return a + b
}

// Sub tells a less b, at least 0.
func Sub(a, b int) int {
	// both are held first, so the difference does not go round
	return Hold(Hold(a) - Hold(b))
}

// Mul tells a times b, at most Cap.
func Mul(a, b int) int {
	a, b = Hold(a), Hold(b)
	if b != 0 && a > Cap()/b {
		return Cap()
	}
	return a * b
}

// Sum tells all numbers together, at most Cap.
func Sum(l ...int) int {
	sum := 0
	for _, a := range l {
		sum = Add(sum, a)
	}
	return sum
}

// Pow tells 1, times a, n times.
func Pow(a, n int) int {
	power := 1
	for left := Hold(n); left > 0; left-- {
		next := Mul(power, a)
		// once a step changes nothing, no later one does, however many are left
		if next == power {
			return power
		}
		power = next
	}
	return power
}
