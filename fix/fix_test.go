package fix

import (
	"math"
	"math/big"
	"testing"
)

// edges are numbers about each bound that the chapter names, and about the ends of 64 bits.
func edges() []int {
	l := []int{0, math.MinInt, math.MaxInt}
	for _, n := range []int{1, 2, 3, 7, 10, 100, 1 << 24, 1 << 28, 1 << 31, 1 << 40, 1 << 56, 1 << 62, math.MaxInt} {
		for _, near := range []int{n - 1, n, n + 1} {
			l = append(l, near, -near)
		}
	}
	return l
}

func whole(n int) *big.Int { return big.NewInt(int64(n)) }

func bigWithin(n, most *big.Int) *big.Int {
	least := new(big.Int).Neg(most)
	if n.Cmp(least) < 0 {
		return least
	}
	if n.Cmp(most) > 0 {
		return most
	}
	return n
}

func bigAdd(a, b, most int) *big.Int {
	m := whole(most)
	if top := whole(1 << 40); m.Cmp(top) > 0 {
		m = top
	}
	return bigWithin(new(big.Int).Add(bigWithin(whole(a), m), bigWithin(whole(b), m)), m)
}

func bigPart(n, a, b int) *big.Int {
	if b == 0 {
		return whole(0)
	}
	m := whole(1 << 28)
	product := new(big.Int).Mul(bigWithin(whole(n), m), bigWithin(whole(a), m))
	return product.Quo(product, bigWithin(whole(b), m))
}

// P1.1
func TestWithin(t *testing.T) {
	for _, c := range []struct{ n, most, want int }{
		{3, 10, 3}, {-3, 10, -3}, {0, 10, 0},
		{9, 10, 9}, {10, 10, 10}, {11, 10, 10},
		{-9, 10, -9}, {-10, 10, -10}, {-11, 10, -10},
		{0, 0, 0}, {1, 0, 0}, {-1, 0, 0},
		{math.MaxInt, 5, 5}, {math.MinInt, 5, -5},
		{math.MaxInt, math.MaxInt, math.MaxInt},
		{math.MinInt, math.MaxInt, -math.MaxInt},
		{1 << 50, 1 << 60, 1 << 50},
	} {
		if got := Within(c.n, c.most); got != c.want {
			t.Errorf("Within(%d, %d) = %d, want %d", c.n, c.most, got, c.want)
		}
	}
}

// P1.2
func TestAdd(t *testing.T) {
	for _, c := range []struct{ a, b, most, want int }{
		{2, 3, 10, 5}, {-2, -3, 10, -5}, {2, -3, 10, -1},
		{5, 5, 10, 10}, {5, 6, 10, 10}, {-5, -5, 10, -10}, {-5, -6, 10, -10},
		// Each is brought to within most ahead of the sum.
		{100, -3, 10, 7}, {-3, 100, 10, 7}, {-100, 3, 10, -7}, {100, -100, 10, 0},
		{4, 5, 0, 0}, {math.MaxInt, math.MaxInt, 0, 0},
		{math.MaxInt, math.MaxInt, 10, 10}, {math.MinInt, math.MinInt, 10, -10},
		{math.MaxInt, math.MinInt, 10, 0},
		{1 << 40, 0, 1<<40 - 1, 1<<40 - 1},
		{1 << 40, 0, 1 << 40, 1 << 40},
		{1<<40 + 1, 0, 1<<40 + 1, 1 << 40},
		{1<<40 + 5, -2, 1<<40 + 5, 1<<40 - 2},
		{math.MaxInt, math.MaxInt, math.MaxInt, 1 << 40},
		{math.MinInt, math.MinInt, math.MaxInt, -1 << 40},
		{math.MaxInt, -1, math.MaxInt, 1<<40 - 1},
	} {
		if got := Add(c.a, c.b, c.most); got != c.want {
			t.Errorf("Add(%d, %d, %d) = %d, want %d", c.a, c.b, c.most, got, c.want)
		}
	}
}

// P1.3
func TestPart(t *testing.T) {
	for _, c := range []struct{ n, a, b, want int }{
		{6, 4, 3, 8}, {14, 1, 2, 7},
		{7, 3, 2, 10}, {-7, 3, 2, -10}, {7, -3, 2, -10}, {7, 3, -2, -10},
		{-7, -3, 2, 10}, {-7, 3, -2, 10}, {7, -3, -2, 10}, {-7, -3, -2, -10},
		{1, 1, 2, 0}, {-1, 1, 2, 0},
		{7, 3, 0, 0}, {0, 0, 0, 0}, {math.MinInt, math.MaxInt, 0, 0},
		{0, 5, 3, 0}, {5, 0, 3, 0},
		// Each of the three is brought to within 2^28, what comes of it is not.
		{1<<28 - 1, 1, 1, 1<<28 - 1}, {1 << 28, 1, 1, 1 << 28}, {1<<28 + 1, 1, 1, 1 << 28},
		{-1<<28 - 1, 1, 1, -1 << 28},
		{1, 1<<28 + 1, 1, 1 << 28}, {1, -1<<28 - 1, 1, -1 << 28},
		{1 << 28, 5, 1<<28 + 1<<20, 5}, {1 << 28, 5, -1<<28 - 1<<20, -5},
		{1 << 28, 1 << 28, 1, 1 << 56}, {-1 << 28, 1 << 28, 1, -1 << 56},
		{math.MaxInt, math.MaxInt, 1, 1 << 56}, {math.MinInt, math.MaxInt, -1, 1 << 56},
		{math.MinInt, 1, -1, 1 << 28},
		{math.MaxInt, 7, math.MaxInt, 7}, {math.MinInt, 7, math.MinInt, 7},
	} {
		if got := Part(c.n, c.a, c.b); got != c.want {
			t.Errorf("Part(%d, %d, %d) = %d, want %d", c.n, c.a, c.b, got, c.want)
		}
	}
}

// P1.1, P1.2 and P1.3, held against numbers without an end.
// Of most below 0 nothing is promised but that the calls answer.
func TestEdgesAgainstBig(t *testing.T) {
	l := edges()
	for _, a := range l {
		for _, b := range l {
			if got, want := Within(a, b), bigWithin(whole(a), whole(b)); b >= 0 && whole(got).Cmp(want) != 0 {
				t.Fatalf("Within(%d, %d) = %d, want %v", a, b, got, want)
			}
			for _, c := range l {
				if got, want := Add(a, b, c), bigAdd(a, b, c); c >= 0 && whole(got).Cmp(want) != 0 {
					t.Fatalf("Add(%d, %d, %d) = %d, want %v", a, b, c, got, want)
				}
				if got, want := Part(a, b, c), bigPart(a, b, c); whole(got).Cmp(want) != 0 {
					t.Fatalf("Part(%d, %d, %d) = %d, want %v", a, b, c, got, want)
				}
			}
		}
	}
}

// P1.2 and P1.3 on all small numbers, where each rounding and each bound is met.
func TestSmallAgainstBig(t *testing.T) {
	const far = 9
	for a := -far; a <= far; a++ {
		for b := -far; b <= far; b++ {
			for c := -far; c <= far; c++ {
				if got, want := Add(a, b, c), bigAdd(a, b, c); c >= 0 && whole(got).Cmp(want) != 0 {
					t.Fatalf("Add(%d, %d, %d) = %d, want %v", a, b, c, got, want)
				}
				if got, want := Part(a, b, c), bigPart(a, b, c); whole(got).Cmp(want) != 0 {
					t.Fatalf("Part(%d, %d, %d) = %d, want %v", a, b, c, got, want)
				}
			}
		}
	}
}
