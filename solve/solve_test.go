package solve

import (
	"math"
	"math/big"
	"testing"

	"ninepins/api"
	"ninepins/sweep"
)

// thing is one of 20 by 20, with a place, a push, a mass and what comes back.
func thing(x, y, px, py, m, r int) api.Row {
	return api.Row{X: x, Y: y, PX: px, PY: py, W: 10, H: 10, M: m, R: r}
}

// field is a number of a row, and its bounds.
type field struct {
	name        string
	of          func(r *api.Row) *int
	least, most int
}

func fields() []field {
	return []field{
		{"X", func(r *api.Row) *int { return &r.X }, -1 << 20, 1 << 20},
		{"Y", func(r *api.Row) *int { return &r.Y }, -1 << 20, 1 << 20},
		{"PX", func(r *api.Row) *int { return &r.PX }, -1 << 24, 1 << 24},
		{"PY", func(r *api.Row) *int { return &r.PY }, -1 << 24, 1 << 24},
		{"W", func(r *api.Row) *int { return &r.W }, 1, 1 << 12},
		{"H", func(r *api.Row) *int { return &r.H }, 1, 1 << 12},
		{"M", func(r *api.Row) *int { return &r.M }, 0, 9},
		{"R", func(r *api.Row) *int { return &r.R }, 0, 256},
	}
}

// badRows are good ones with one number that is not within its bounds.
func badRows() []api.Row {
	var l []api.Row
	for _, f := range fields() {
		for _, n := range []int{f.least - 1, f.most + 1, math.MinInt, math.MaxInt} {
			for _, r := range []api.Row{thing(3, -4, 0, 0, 2, 128), thing(3, -4, 0, 0, 0, 128)} {
				*f.of(&r) = n
				l = append(l, r)
			}
		}
	}
	return append(l, thing(0, 0, 1, 0, 0, 0), thing(0, 0, -1, 0, 0, 0), thing(0, 0, 0, 1, 0, 0), thing(0, 0, 0, -1, 0, 0),
		thing(0, 0, 5, 6, 0, 256), api.Row{})
}

// P4.1
func TestGood(t *testing.T) {
	for _, r := range []api.Row{
		thing(0, 0, 0, 0, 1, 0), thing(3, -4, 7, -9, 2, 128),
		thing(0, 0, 0, 0, 0, 0), thing(-1, 1, 0, 0, 0, 256),
		{X: 1 << 20, Y: 1 << 20, PX: 1 << 24, PY: 1 << 24, W: 1 << 12, H: 1 << 12, M: 9, R: 256},
		{X: -1 << 20, Y: -1 << 20, PX: -1 << 24, PY: -1 << 24, W: 1, H: 1, M: 1},
	} {
		if !Good(r) {
			t.Errorf("%+v is not good", r)
		}
	}
	for _, r := range badRows() {
		if Good(r) {
			t.Errorf("%+v is good", r)
		}
	}
}

// P4.1: number by number, up to its bounds.
func TestGoodAtBounds(t *testing.T) {
	for _, f := range fields() {
		for _, n := range []int{f.least, f.least + 1, f.most - 1, f.most} {
			r := thing(3, -4, 0, 0, 2, 128)
			*f.of(&r) = n
			if !Good(r) {
				t.Errorf("%s %d: not good", f.name, n)
			}
		}
	}
}

// P4.2
func TestSpeed(t *testing.T) {
	for _, c := range []struct{ px, py, m, vx, vy int }{
		{14, -14, 2, 7, -7}, {7, -7, 2, 3, -3}, {-7, 7, 2, -3, 3},
		{5, 6, 1, 5, 6}, {8, -8, 9, 0, 0}, {9, -9, 9, 1, -1}, {0, 26, 9, 0, 2},
		{1 << 24, -1 << 24, 1, 1 << 24, -1 << 24}, {1 << 24, -1 << 24, 9, 1864135, -1864135},
		{0, 0, 0, 0, 0},
		// What is no good row has the Part of its numbers, too.
		{7, -7, 0, 0, 0}, {7, -7, -2, -3, 3}, {math.MaxInt, math.MinInt, 1, 1 << 28, -1 << 28},
		{math.MinInt, math.MaxInt, -1, 1 << 28, -1 << 28}, {1 << 28, 1<<28 - 1, math.MaxInt, 1, 0},
	} {
		vx, vy := Speed(thing(1, 2, c.px, c.py, c.m, 3))
		if vx != c.vx || vy != c.vy {
			t.Errorf("%+v: %d, %d", c, vx, vy)
		}
	}
}

// P4.2
func TestDepth(t *testing.T) {
	for _, c := range []struct {
		a, b   api.Row
		dx, dy int
	}{
		{thing(0, 0, 0, 0, 1, 0), thing(0, 0, 0, 0, 1, 0), 20, 20},
		{thing(0, 0, 0, 0, 1, 0), thing(15, 3, 0, 0, 1, 0), 5, 17},
		{thing(0, 0, 0, 0, 1, 0), thing(-15, -3, 0, 0, 1, 0), 5, 17},
		{thing(0, 0, 0, 0, 1, 0), thing(20, -20, 0, 0, 1, 0), 0, 0},
		{thing(7, 8, 0, 0, 0, 0), thing(-15, 40, 0, 0, 0, 0), -2, -12},
		{api.Row{X: 1, Y: 2, W: 3, H: 40}, api.Row{X: 5, Y: 70, W: 6, H: 7}, 5, -21},
		{api.Row{X: 1 << 20, Y: -1 << 20, W: 1 << 12, H: 1}, api.Row{X: -1 << 20, Y: 1 << 20, W: 1 << 12, H: 1}, 1<<13 - 1<<21, 2 - 1<<21},
	} {
		if dx, dy := Depth(c.a, c.b); dx != c.dx || dy != c.dy {
			t.Errorf("%+v, %+v: %d, %d", c.a, c.b, dx, dy)
		}
		if dx, dy := Depth(c.b, c.a); dx != c.dx || dy != c.dy {
			t.Errorf("%+v, %+v: %d, %d", c.b, c.a, dx, dy)
		}
	}
}

// meeting is two things, and what comes of them.
type meeting struct {
	name       string
	a, b, x, y api.Row
}

func checkMeetings(t *testing.T, l []meeting) {
	t.Helper()
	for _, c := range l {
		x, y, ok := Meet(c.a, c.b)
		if x != c.x || y != c.y || !ok {
			t.Errorf("%s: %+v, %+v, %v", c.name, x, y, ok)
		}
	}
}

// P4.3: what is passed on.
func TestMeetPassesOn(t *testing.T) {
	const most = 1 << 24
	checkMeetings(t, []meeting{
		{"alike, all comes back", thing(0, 0, 90, 7, 1, 256), thing(16, 0, 0, 8, 1, 256), thing(-2, 0, 0, 7, 1, 256), thing(18, 0, 90, 8, 1, 256)},
		{"alike, nothing comes back", thing(0, 0, 90, 7, 1, 0), thing(16, 0, 0, 8, 1, 0), thing(-2, 0, 45, 7, 1, 0), thing(18, 0, 45, 8, 1, 0)},
		{"other masses, nothing comes back", thing(0, 0, 60, 0, 2, 0), thing(16, 0, -30, 0, 3, 0), thing(-2, 0, 12, 0, 2, 0), thing(18, 0, 18, 0, 3, 0)},
		{"other masses, all comes back", thing(0, 0, 60, 0, 2, 256), thing(16, 0, -30, 0, 3, 256), thing(-2, 0, -36, 0, 2, 256), thing(18, 0, 66, 0, 3, 256)},
		{"the lesser is a's", thing(0, 0, 60, 0, 2, 64), thing(16, 0, -30, 0, 3, 128), thing(-2, 0, 0, 0, 2, 64), thing(18, 0, 30, 0, 3, 128)},
		{"the lesser is b's", thing(0, 0, 60, 0, 2, 128), thing(16, 0, -30, 0, 3, 64), thing(-2, 0, 0, 0, 2, 128), thing(18, 0, 30, 0, 3, 64)},
		{"b is below", thing(16, 0, -90, 0, 1, 256), thing(0, 0, 0, 0, 1, 256), thing(18, 0, 0, 0, 1, 256), thing(-2, 0, -90, 0, 1, 256)},
		{"up and down", thing(1, 0, 7, 60, 2, 0), thing(0, 16, 8, -30, 3, 0), thing(1, -2, 7, 12, 2, 0), thing(0, 18, 8, 18, 3, 0)},
		{"up and down, b is below", thing(1, 16, 7, -60, 2, 0), thing(0, 0, 8, 30, 3, 0), thing(1, 18, 7, -12, 2, 0), thing(0, -2, 8, -18, 3, 0)},
		{"what is left is left out", thing(0, 0, 7, 0, 2, 1), thing(16, 0, 0, 0, 2, 1), thing(-2, 0, 4, 0, 2, 1), thing(18, 0, 3, 0, 2, 1)},
		{"so it is the other way", thing(16, 0, -7, 0, 2, 1), thing(0, 0, 0, 0, 2, 1), thing(18, 0, -4, 0, 2, 1), thing(-2, 0, -3, 0, 2, 1)},
		{"a speed is without what is left", thing(0, 0, 9, 0, 9, 0), thing(16, 0, 8, 0, 9, 0), thing(-2, 0, 5, 0, 9, 0), thing(18, 0, 12, 0, 9, 0)},
		{"as fast as one another", thing(0, 0, 8, 0, 2, 256), thing(16, 0, 20, 0, 5, 256), thing(-2, 0, 8, 0, 2, 256), thing(18, 0, 20, 0, 5, 256)},
		{"nearer by 1", thing(0, 0, 10, 0, 2, 0), thing(16, 0, 20, 0, 5, 0), thing(-2, 0, 9, 0, 2, 0), thing(18, 0, 21, 0, 5, 0)},
		{"apart by 1", thing(0, 0, 6, 0, 2, 256), thing(16, 0, 20, 0, 5, 256), thing(-2, 0, 6, 0, 2, 256), thing(18, 0, 20, 0, 5, 256)},
		{"apart, b is below", thing(16, 0, 9, 0, 1, 256), thing(0, 0, -9, 0, 1, 256), thing(18, 0, 9, 0, 1, 256), thing(-2, 0, -9, 0, 1, 256)},
		{"more than a push may be", thing(0, 0, most, 0, 1, 256), thing(16, 0, -most, 0, 1, 256), thing(-2, 0, 0, 0, 1, 256), thing(18, 0, 0, 0, 1, 256)},
		{"b can't be pushed more", thing(0, 0, most, 0, 1, 0), thing(16, 0, most, 0, 9, 0), thing(-2, 0, 3355444, 0, 1, 0), thing(18, 0, most, 0, 9, 0)},
		{"a can't be pushed more", thing(0, 0, -most, 0, 9, 0), thing(16, 0, -most, 0, 1, 0), thing(-2, 0, -most, 0, 9, 0), thing(18, 0, -3355444, 0, 1, 0)},
		{"more than Part takes", thing(0, 0, most, 0, 9, 0), thing(16, 0, -most, 0, 9, 0), thing(-2, 0, 1864136, 0, 9, 0), thing(18, 0, -1864136, 0, 9, 0)},
	})
}

// P4.3: by X or by Y, and which way.
func TestMeetByWhichLine(t *testing.T) {
	narrow := func(x, y, px, py int) api.Row {
		return api.Row{X: x, Y: y, PX: px, PY: py, W: 5, H: 10, M: 1, R: 256}
	}
	checkMeetings(t, []meeting{
		{"across is less by 1", thing(0, 0, 8, 6, 1, 256), thing(6, 5, 0, 0, 1, 256), thing(-7, 0, 0, 6, 1, 256), thing(13, 5, 8, 0, 1, 256)},
		{"both are the same", thing(0, 0, 8, 6, 1, 256), thing(5, 5, 0, 0, 1, 256), thing(0, -7, 8, 0, 1, 256), thing(5, 13, 0, 6, 1, 256)},
		{"across is more by 1", thing(0, 0, 8, 6, 1, 256), thing(4, 5, 0, 0, 1, 256), thing(0, -7, 8, 0, 1, 256), thing(4, 13, 0, 6, 1, 256)},
		{"at one place", thing(3, 4, 8, 6, 1, 256), thing(3, 4, 0, 0, 1, 256), thing(3, -6, 8, 0, 1, 256), thing(3, 14, 0, 6, 1, 256)},
		{"at one place, across", narrow(3, 4, 8, 6), narrow(3, 4, 0, 0), narrow(-2, 4, 0, 6), narrow(8, 4, 8, 0)},
		{"at one X", thing(3, 0, 8, 6, 1, 256), thing(3, 16, 0, 0, 1, 256), thing(3, -2, 8, 0, 1, 256), thing(3, 18, 0, 6, 1, 256)},
		{"at one Y", thing(0, 3, 8, 6, 1, 256), thing(16, 3, 0, 0, 1, 256), thing(-2, 3, 0, 6, 1, 256), thing(18, 3, 8, 0, 1, 256)},
		{"b is below in X, above in Y", thing(16, 0, -8, 6, 1, 256), thing(0, 9, 0, 0, 1, 256), thing(18, 0, 0, 6, 1, 256), thing(-2, 9, -8, 0, 1, 256)},
		{"b is above in X, below in Y", thing(0, 16, 8, -6, 1, 256), thing(9, 0, 0, 0, 1, 256), thing(0, 18, 8, 0, 1, 256), thing(9, -2, 0, -6, 1, 256)},
		{"below by 1", thing(1, 0, -8, 6, 1, 256), thing(0, 3, 0, 0, 1, 256), thing(1, -8, -8, 0, 1, 256), thing(0, 12, 0, 6, 1, 256)},
	})
}

// P4.3 and P4.4: one that is fixed stays as it was.
func TestMeetFixed(t *testing.T) {
	const most = 1 << 24
	checkMeetings(t, []meeting{
		{"b is fixed", thing(0, 0, 40, 3, 4, 128), thing(15, 0, 0, 0, 0, 256), thing(-5, 0, -20, 3, 4, 128), thing(15, 0, 0, 0, 0, 256)},
		{"a is fixed", thing(0, 0, 0, 0, 0, 256), thing(15, 0, -40, 3, 4, 128), thing(0, 0, 0, 0, 0, 256), thing(20, 0, 20, 3, 4, 128)},
		{"a is fixed, b is below", thing(15, 0, 0, 0, 0, 256), thing(0, 0, 40, 3, 4, 128), thing(15, 0, 0, 0, 0, 256), thing(-5, 0, -20, 3, 4, 128)},
		{"the lesser is the fixed one's", thing(0, 0, 40, 3, 4, 256), thing(15, 0, 0, 0, 0, 0), thing(-5, 0, 0, 3, 4, 256), thing(15, 0, 0, 0, 0, 0)},
		{"all comes back", thing(0, 0, 40, 3, 4, 256), thing(15, 0, 0, 0, 0, 256), thing(-5, 0, -40, 3, 4, 256), thing(15, 0, 0, 0, 0, 256)},
		{"it falls onto it", thing(0, 5, 3, -61, 2, 128), thing(3, -10, 0, 0, 0, 256), thing(0, 10, 3, 29, 2, 128), thing(3, -10, 0, 0, 0, 256)},
		{"going apart", thing(0, 0, 0, 0, 0, 256), thing(15, 0, 40, 3, 4, 128), thing(0, 0, 0, 0, 0, 256), thing(20, 0, 40, 3, 4, 128)},
		{"at rest", thing(0, 0, 0, 0, 0, 256), thing(15, 0, 0, 0, 4, 128), thing(0, 0, 0, 0, 0, 256), thing(20, 0, 0, 0, 4, 128)},
		{"as great as can be", thing(0, 0, most, 0, 1, 256), thing(15, 0, 0, 0, 0, 256), thing(-5, 0, 0, 0, 1, 256), thing(15, 0, 0, 0, 0, 256)},
		{"both, across", thing(0, 0, 0, 0, 0, 5), thing(15, 0, 0, 0, 0, 6), thing(0, 0, 0, 0, 0, 5), thing(15, 0, 0, 0, 0, 6)},
		{"both, up and down", thing(0, 0, 0, 0, 0, 0), thing(0, 19, 0, 0, 0, 0), thing(0, 0, 0, 0, 0, 0), thing(0, 19, 0, 0, 0, 0)},
		{"both, at one place", thing(1, 2, 0, 0, 0, 0), thing(1, 2, 0, 0, 0, 0), thing(1, 2, 0, 0, 0, 0), thing(1, 2, 0, 0, 0, 0)},
	})
}

// P4.4: how far they go.
func TestMeetMovesApart(t *testing.T) {
	const end = 1 << 20
	still := func(x, y, m int) api.Row { return thing(x, y, 0, 0, m, 0) }
	checkMeetings(t, []meeting{
		{"1", still(0, 0, 1), still(19, 0, 9), still(0, 0, 1), still(20, 0, 9)},
		{"1, b is below", still(19, 0, 1), still(0, 0, 9), still(19, 0, 1), still(-1, 0, 9)},
		{"2", still(0, 0, 1), still(18, 0, 9), still(-1, 0, 1), still(19, 0, 9)},
		{"3", still(0, 0, 1), still(0, 17, 9), still(0, -1, 1), still(0, 19, 9)},
		{"3, b is below", still(0, 17, 1), still(0, 0, 9), still(0, 18, 1), still(0, -2, 9)},
		{"1, b is fixed", still(0, 0, 1), still(19, 0, 0), still(-1, 0, 1), still(19, 0, 0)},
		{"1, a is fixed", still(0, 0, 0), still(19, 0, 1), still(0, 0, 0), still(20, 0, 1)},
		{"a at the end of X", still(-end, 0, 1), still(15-end, 0, 1), still(-end, 0, 1), still(18-end, 0, 1)},
		{"b at the end of X", still(end-15, 0, 1), still(end, 0, 1), still(end-17, 0, 1), still(end, 0, 1)},
		{"a at the other end of X", still(end, 0, 1), still(end-15, 0, 1), still(end, 0, 1), still(end-18, 0, 1)},
		{"a at the end of Y", still(0, -end, 1), still(0, 15-end, 1), still(0, -end, 1), still(0, 18-end, 1)},
		{"b at the end of Y", still(0, end-15, 1), still(0, end, 1), still(0, end-17, 1), still(0, end, 1)},
		{"up to the end and no further", still(end-16, 0, 0), still(end-1, 0, 1), still(end-16, 0, 0), still(end, 0, 1)},
		{"a fixed one at the end", still(end, end, 0), still(end, end, 1), still(end, end, 0), still(end, end, 1)},
	})
}

// P4.3: what is not good, or does not overlap, is as it was.
func TestMeetNot(t *testing.T) {
	for _, r := range badRows() {
		for _, other := range append(badRows(), thing(3, -4, 1, 1, 2, 0), thing(3, -4, 0, 0, 0, 0)) {
			checkNot(t, r, other)
			checkNot(t, other, r)
		}
	}
	a := thing(0, 0, 90, 90, 1, 256)
	for _, m := range []int{0, 3} {
		for _, at := range [][2]int{{20, 0}, {-20, 0}, {0, 20}, {0, -20}, {20, 20}, {-20, 20}, {21, 0}, {0, -21}, {500, 3}, {3, -500}, {600, 600}} {
			checkNot(t, a, thing(at[0], at[1], 0, 0, m, 256))
			checkNot(t, thing(at[0], at[1], 0, 0, m, 256), a)
			checkNot(t, thing(0, 0, 0, 0, 0, 0), thing(at[0], at[1], 0, 0, m, 256))
		}
	}
}

func checkNot(t *testing.T, a, b api.Row) {
	t.Helper()
	if x, y, ok := Meet(a, b); x != a || y != b || ok {
		t.Errorf("Meet(%+v, %+v) = %+v, %+v, %v", a, b, x, y, ok)
	}
}

// P4.5
func TestWall(t *testing.T) {
	for _, c := range []struct{ at, push, half, wide, back, place, left int }{
		{50, 8, 5, 100, 0, 50, 8}, {50, -8, 5, 100, 999, 50, -8},
		{5, -8, 5, 100, 128, 5, -8}, {95, 8, 5, 100, 128, 95, 8},
		{4, -8, 5, 100, 128, 5, 4}, {4, 8, 5, 100, 128, 5, 4}, {-900, -8, 5, 100, 128, 5, 4},
		{96, 8, 5, 100, 128, 95, -4}, {96, -8, 5, 100, 128, 95, -4}, {900, 8, 5, 100, 128, 95, -4},
		{4, -9, 5, 100, 128, 5, 4}, {96, 9, 5, 100, 128, 95, -4},
		{4, -9, 5, 100, 0, 5, 0}, {96, 9, 5, 100, 0, 95, 0},
		{4, -9, 5, 100, 256, 5, 9}, {4, -9, 5, 100, 257, 5, 9}, {4, -9, 5, 100, 1 << 28, 5, 9},
		{96, 9, 5, 100, 256, 95, -9}, {96, 9, 5, 100, 257, 95, -9},
		{4, -9, 5, 100, -128, 5, -4}, {96, 9, 5, 100, -128, 95, 4}, {96, 9, 5, 100, -999, 95, 9},
		{4, 0, 5, 100, 256, 5, 0}, {96, 0, 5, 100, 256, 95, 0},
		// As wide as the thing, and less.
		{49, -9, 50, 100, 256, 50, 9}, {50, -9, 50, 100, 256, 50, -9}, {51, 9, 50, 100, 256, 50, -9},
		{49, -9, 50, 99, 256, 50, 9}, {50, -9, 50, 99, 256, 50, -9}, {51, 9, 50, 99, 256, 50, -9},
		{49, -9, 50, 60, 256, 50, 9}, {50, 9, 50, 60, 256, 50, 9}, {51, 9, 50, 60, 256, 50, -9}, {11, 9, 50, 60, 256, 50, 9},
		{51, 9, 50, 101, 256, 51, 9}, {52, 9, 50, 101, 256, 51, -9},
		{-1, -3, 0, 1, 256, 0, 3}, {0, -3, 0, 1, 256, 0, -3}, {1, 3, 0, 1, 256, 1, 3}, {2, 3, 0, 1, 256, 1, -3},
		{-6, -3, -5, 10, 256, -5, 3}, {16, 3, -5, 10, 256, 15, -3}, {15, 3, -5, 10, 256, 15, 3},
		{-1 << 28, -1 << 28, 1 << 28, 1 << 28, 1 << 28, 1 << 28, 1 << 28},
		{1 << 28, 1 << 28, -1 << 28, -1 << 28, 256, 0, -1 << 28},
		{1 << 28, 1 << 28, 5, 1 << 28, 255, 1<<28 - 5, 1<<20 - 1<<28},
	} {
		if place, left := Wall(c.at, c.push, c.half, c.wide, c.back); place != c.place || left != c.left {
			t.Errorf("%+v: %d, %d", c, place, left)
		}
	}
}

// dice are chance numbers that are the same in each run.
type dice uint64

func (d *dice) from(least, most int) int {
	*d = *d*6364136223846793005 + 1442695040888963407
	return least + int(uint64(*d)>>33)%(most-least+1)
}

// row is a thing that is fixed, or slow, or at the bounds.
func (d *dice) row(far, half, most int) api.Row {
	r := api.Row{X: d.from(-far, far), Y: d.from(-far, far), W: d.from(1, half), H: d.from(1, half), R: d.from(0, api.Unit)}
	if d.from(0, 3) == 0 {
		return r
	}
	r.M, r.PX, r.PY = d.from(1, api.MaxMass), d.from(-most, most), d.from(-most, most)
	return r
}

// part is one thing along one line.
type part struct{ at, push, half, mass, back int }

func lines(r api.Row) [2]part {
	return [2]part{{r.X, r.PX, r.W, r.M, r.R}, {r.Y, r.PY, r.H, r.M, r.R}}
}

func rowOf(l [2]part) api.Row {
	return api.Row{X: l[0].at, Y: l[1].at, PX: l[0].push, PY: l[1].push, W: l[0].half, H: l[1].half, M: l[0].mass, R: l[0].back}
}

func (a part) depth(b part) int {
	if a.at > b.at {
		a, b = b, a
	}
	return (a.at + a.half) - (b.at - b.half)
}

func (a part) speed() int {
	if a.mass == 0 {
		return 0
	}
	return a.push / a.mass
}

func clamp(n, most int) int {
	if n > most {
		return most
	}
	if n < -most {
		return -most
	}
	return n
}

// passed is what is passed on from the one that lies below to the one that lies above, worked out without an end of numbers.
func passed(below, above part) int {
	near := below.speed() - above.speed()
	if near <= 0 {
		return 0
	}
	m, n := below.mass*above.mass, below.mass+above.mass
	if m == 0 {
		m, n = n, 1
	}
	product := big.NewInt(int64(clamp(near*m, 1<<28)))
	product.Mul(product, big.NewInt(int64(256+min(below.back, above.back))))
	return int(product.Quo(product, big.NewInt(int64(n*256))).Int64())
}

// model is Meet of good ones, in other words: the lesser one goes down, the greater one up.
func model(a, b api.Row) (api.Row, api.Row, bool) {
	la, lb := lines(a), lines(b)
	across, upright := la[0].depth(lb[0]), la[1].depth(lb[1])
	if across <= 0 || upright <= 0 {
		return a, b, false
	}
	k, depth := 1, upright
	if across < upright {
		k, depth = 0, across
	}
	goA, goB := depth/2, depth-depth/2
	if a.M == 0 {
		goA, goB = 0, depth
	}
	if b.M == 0 {
		goA, goB = depth, 0
	}
	below, above, down, up := &la[k], &lb[k], goA, goB
	if lb[k].at < la[k].at {
		below, above, down, up = above, below, goB, goA
	}
	p := clamp(passed(*below, *above), 1<<24)
	if a.M == 0 && b.M == 0 {
		return a, b, true
	}
	if below.mass != 0 {
		below.at, below.push = clamp(below.at-down, 1<<20), clamp(below.push-p, 1<<24)
	}
	if above.mass != 0 {
		above.at, above.push = clamp(above.at+up, 1<<20), clamp(above.push+p, 1<<24)
	}
	return rowOf(la), rowOf(lb), true
}

// P4.2, P4.3 and P4.4: chance things, held against the model.
func TestMeetAgainstModel(t *testing.T) {
	d := dice(4)
	met := 0
	for i := range 300000 {
		far, half, most := 30, 20, 100
		switch i % 4 {
		case 1:
			most = api.MaxPush
		case 2:
			far, half, most = 3, 4, 9
		case 3:
			far, half, most = api.MaxHalf, api.MaxHalf, 1<<d.from(0, 24)
		}
		a, b := d.row(far, half, most), d.row(far, half, most)
		if i%5 == 0 {
			corner := [2]int{api.MaxPlace - far, far - api.MaxPlace}[i%2]
			a.X, b.X, a.Y, b.Y = a.X+corner, b.X+corner, a.Y+corner, b.Y+corner
		}
		x, y, ok := Meet(a, b)
		wantX, wantY, want := model(a, b)
		if x != wantX || y != wantY || ok != want {
			t.Fatalf("Meet(%+v, %+v) = %+v, %+v, %v, want %+v, %+v, %v", a, b, x, y, ok, wantX, wantY, want)
		}
		if !Good(x) || !Good(y) {
			t.Fatalf("Meet(%+v, %+v) = %+v, %+v: not good", a, b, x, y)
		}
		if ok {
			met++
		}
	}
	if met < 100000 || met > 290000 {
		t.Errorf("%d of 300000 have met", met)
	}
}

// P4.2: things have a Depth in both lines just where their boxes overlap.
func TestDepthIsOverlap(t *testing.T) {
	boxOf := func(id int, r api.Row) api.Box {
		return api.Box{Id: id, X1: r.X - r.W, Y1: r.Y - r.H, X2: r.X + r.W, Y2: r.Y + r.H}
	}
	d := dice(42)
	for range 50000 {
		a, b := d.row(9, 6, 5), d.row(9, 6, 5)
		dx, dy := Depth(a, b)
		if got, want := dx >= 1 && dy >= 1, sweep.Meet(boxOf(1, a), boxOf(2, b)); got != want {
			t.Fatalf("Depth(%+v, %+v) = %d, %d, and that they overlap is %v", a, b, dx, dy, want)
		}
	}
}

// P4.3 and P4.4: away from all bounds no push is lost between two that move, and they no longer overlap.
func TestMeetKeepsPush(t *testing.T) {
	d := dice(43)
	for range 50000 {
		a, b := d.row(30, 20, 5000), d.row(30, 20, 5000)
		x, y, ok := Meet(a, b)
		if !ok || a.M == 0 && b.M == 0 {
			continue
		}
		if a.M != 0 && b.M != 0 && (x.PX+y.PX != a.PX+b.PX || x.PY+y.PY != a.PY+b.PY) {
			t.Fatalf("Meet(%+v, %+v) = %+v, %+v: another push", a, b, x, y)
		}
		if _, _, again := Meet(x, y); again {
			t.Fatalf("Meet(%+v, %+v) = %+v, %+v: they overlap still", a, b, x, y)
		}
	}
}

// P4.5: chance numbers, held against the words.
func TestWallAgainstWords(t *testing.T) {
	d := dice(44)
	for i := range 200000 {
		n := [3]int{12, 600, 1 << 28}[i%3]
		at, push, half, wide, back := d.from(-n, n), d.from(-n, n), d.from(-n, n), d.from(-n, n), d.from(-300, 300)
		wantAt, wantPush := at, push
		edge := wide - half
		if edge < half {
			edge = half
		}
		if some := int(math.Abs(float64(push))) * clamp(back, 256) / 256; at < half {
			wantAt, wantPush = half, some
		} else if at > edge {
			wantAt, wantPush = edge, -some
		}
		if a, p := Wall(at, push, half, wide, back); a != wantAt || p != wantPush {
			t.Fatalf("Wall(%d, %d, %d, %d, %d) = %d, %d, want %d, %d", at, push, half, wide, back, a, p, wantAt, wantPush)
		}
	}
}

// Every call answers, at all numbers: of these none is a good row.
func TestAllNumbers(t *testing.T) {
	ends := []int{math.MinInt, math.MinInt + 1, -1 << 31, -1, 0, 1, 1 << 31, math.MaxInt - 1, math.MaxInt}
	d := dice(45)
	end := func() int { return ends[d.from(0, len(ends)-1)] }
	for range 50000 {
		a := api.Row{X: end(), Y: end(), PX: end(), PY: end(), W: 1 << 31, H: end(), M: end(), R: end()}
		b := api.Row{X: end(), Y: end(), PX: end(), PY: end(), W: end(), H: end(), M: end(), R: end()}
		Speed(a)
		Depth(a, b)
		Wall(end(), end(), end(), end(), end())
		checkNot(t, a, b)
		checkNot(t, b, a)
	}
}
