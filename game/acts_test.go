package game

import (
	"math"
	"slices"
	"testing"

	"ninepins/api"
	"ninepins/world"
)

// wrongParts are masks that are not just one part.
func wrongParts() []int {
	l := []int{math.MinInt, -16, -1, 32, 33, 64, 1 << 32, 1 << 62, math.MaxInt}
	for mask := range 32 {
		if mask != 1 && mask != 2 && mask != 4 && mask != 8 && mask != 16 {
			l = append(l, mask)
		}
	}
	return l
}

// P6.3: of each mask, and of each part.
func TestGive(t *testing.T) {
	for mask := 1; mask <= api.Parts; mask++ {
		for _, part := range []int{1, 2, 4, 8, 16} {
			by := thing{still, cut(still, other)}
			had := thing{mask, cut(mask, full)}
			g := begin(t, by, had)
			act := api.Act{Kind: api.ActGive, Id: 1, Mask: part, Row: other}
			if mask&part != 0 {
				refuses(t, g, act, api.ErrForm)
				act.Row = wild
				refuses(t, g, act, api.ErrForm)
				continue
			}
			if act.Row = wild; part != api.Falls {
				refuses(t, g, act, api.ErrRange)
			}
			// Only what comes is of the row; the rest of it may be anything.
			act.Row = mixed(part, other, wild)
			want(t, g, act, api.Reply{})
			holds(t, g, by, thing{mask | part, cut(mask|part, mixed(mask, full, other))})
			refuses(t, g, act, api.ErrForm)
		}
	}
}

// mixed is a row that has a mask's parts of one, and all others of another one.
func mixed(mask int, a, b api.Row) api.Row {
	a, b = cut(mask, a), cut(^mask, b)
	return api.Row{X: a.X + b.X, Y: a.Y + b.Y, PX: a.PX + b.PX, PY: a.PY + b.PY, W: a.W + b.W, H: a.H + b.H, M: a.M + b.M, R: a.R + b.R}
}

// P6.3: the numbers of a part that comes are held to their bounds.
func TestGiveBounds(t *testing.T) {
	for _, c := range []struct {
		part     int
		in, outs []api.Row
	}{
		{1, []api.Row{{}, {X: 1 << 20, Y: -1 << 20}, {X: -1 << 20, Y: 1 << 20}}, []api.Row{{X: 1<<20 + 1}, {X: -1<<20 - 1}, {Y: 1<<20 + 1}, {Y: -1<<20 - 1}}},
		{2, []api.Row{{}, {PX: most, PY: -most}, {PX: -most, PY: most}}, []api.Row{{PX: most + 1}, {PX: -most - 1}, {PY: most + 1}, {PY: -most - 1}}},
		{4, []api.Row{{W: 1, H: 1}, {W: 4096, H: 4096}}, []api.Row{{}, {W: 1}, {H: 1}, {W: 4097, H: 1}, {W: 1, H: 4097}, {W: -1, H: 1}}},
		{8, []api.Row{{M: 1}, {M: 9, R: 256}}, []api.Row{{}, {R: 1}, {M: 10}, {M: -1}, {M: 1, R: 257}, {M: 1, R: -1}}},
		{16, []api.Row{{}, wild}, nil},
	} {
		has := api.Parts &^ c.part
		for _, r := range c.in {
			g := begin(t, thing{has, cut(has, full)})
			want(t, g, api.Act{Kind: api.ActGive, Mask: c.part, Row: r}, api.Reply{})
			holds(t, g, thing{api.Parts, mixed(has, full, cut(c.part, r))})
		}
		for _, r := range c.outs {
			refuses(t, begin(t, thing{has, cut(has, full)}), api.Act{Kind: api.ActGive, Mask: c.part, Row: r}, api.ErrRange)
		}
	}
}

// P6.3: of each mask, and of each part; the last one stays, since a thing without parts is none.
func TestTake(t *testing.T) {
	for mask := 1; mask <= api.Parts; mask++ {
		for _, part := range []int{1, 2, 4, 8, 16} {
			for _, r := range []api.Row{{}, other, wild} {
				by := thing{still, cut(still, other)}
				g := begin(t, by, thing{mask, cut(mask, full)})
				act := api.Act{Kind: api.ActTake, Id: 1, Mask: part, Row: r}
				switch {
				case mask&part == 0:
					refuses(t, g, act, api.ErrForm)
				case mask == part:
					refuses(t, g, act, api.ErrRange)
				default:
					want(t, g, act, api.Reply{})
					holds(t, g, by, thing{mask - part, cut(mask-part, full)})
					refuses(t, g, act, api.ErrForm)
				}
			}
		}
	}
}

// P6.3
func TestWrongParts(t *testing.T) {
	for mask := 1; mask <= api.Parts; mask++ {
		had := thing{mask, cut(mask, full)}
		g := begin(t, had)
		for _, part := range wrongParts() {
			refuses(t, g, api.Act{Kind: api.ActGive, Mask: part, Row: other}, api.ErrForm)
			refuses(t, g, api.Act{Kind: api.ActTake, Mask: part, Row: other}, api.ErrForm)
		}
		holds(t, g, had)
	}
}

// P6.3: each mask; nothing but PX and PY is taken of the row.
func TestKick(t *testing.T) {
	for mask := 1; mask <= api.Parts; mask++ {
		by, had := thing{api.Parts, other}, thing{mask, cut(mask, full)}
		g := begin(t, by, had)
		r := wild
		r.PX, r.PY = -7, 9
		act := api.Act{Kind: api.ActKick, Id: 1, N: 5, Mask: -1, Row: r}
		if mask&2 == 0 {
			refuses(t, g, act, api.ErrForm)
			continue
		}
		want(t, g, act, api.Reply{})
		had.r.PX, had.r.PY = 23, 49
		holds(t, g, by, had)
		want(t, g, act, api.Reply{})
		had.r.PX, had.r.PY = 16, 58
		holds(t, g, by, had)
	}
}

// P6.3: pushes end at MaxPush, and so does what is added to them.
func TestKickEnds(t *testing.T) {
	for _, c := range []struct{ had, by, is int }{
		{0, 0, 0}, {5, 0, 5}, {0, most, most}, {0, -most, -most}, {1, most - 1, most}, {1, most, most}, {-1, -most, -most},
		{most, 1, most}, {most, -1, most - 1}, {-most, -1, -most}, {-most, 1, 1 - most}, {most, -most, 0}, {-most, most, 0},
		{5, most + 1, most}, {-5, most + 1, most - 5}, {-5, math.MaxInt, most - 5}, {5, math.MinInt, 5 - most},
		{-most, math.MaxInt, 0}, {most, math.MaxInt, most}, {-most, math.MinInt, -most}, {most, math.MinInt, 0},
	} {
		g := begin(t, thing{2, api.Row{PX: c.had, PY: 3}}, thing{2, api.Row{PX: 3, PY: c.had}})
		want(t, g, api.Act{Kind: api.ActKick, Id: 0, Row: api.Row{PX: c.by}}, api.Reply{})
		want(t, g, api.Act{Kind: api.ActKick, Id: 1, Row: api.Row{PY: c.by}}, api.Reply{})
		holds(t, g, thing{2, api.Row{PX: c.is, PY: 3}}, thing{2, api.Row{PX: 3, PY: c.is}})
	}
}

// P6.4: as many steps as one asks for, each with who has met in it.
func TestStep(t *testing.T) {
	l := []thing{{rolls, ball(100, 8)}, {rolls, ball(140, 0)}, {rolls, ball(180, 0)}, {still, cut(still, ball(230, 0))}, {api.Parts, ball(100, 0)}}
	for n := 1; n <= 8; n++ {
		g := begin(t, l...)
		w := g.World()
		for act := range 5 {
			var met []api.Pair
			for range n {
				next, pairs, _ := world.Step(w)
				w = next
				met = append(met, pairs...)
			}
			want(t, g, api.Act{Kind: api.ActStep, N: n, Id: 77, Mask: -1, Row: wild}, api.Reply{N: len(met), Met: met})
			if is := g.World(); !slices.Equal(contents(is), contents(w)) {
				t.Fatalf("%d steps, act %d: %+v, want %+v", n, act, is, w)
			}
		}
	}
	for _, n := range []int{math.MinInt, -1, 0, 9, 10, 1 << 32, 1<<32 + 1, math.MaxInt} {
		refuses(t, begin(t, l...), api.Act{Kind: api.ActStep, N: n}, api.ErrRange)
	}
}

// P6.4, by hand: one rolls against the next, and that one against the last: pairs step by step, not by number.
func TestStepMet(t *testing.T) {
	g := begin(t, thing{rolls, ball(142, 0)}, thing{rolls, ball(121, 0)}, thing{rolls, ball(100, 4)})
	// 2 comes to 104, 3 too far: it goes back 2 of these, and 1 goes on by 1. That 1 is up to 0 then, no further.
	want(t, g, api.Act{Kind: api.ActStep, N: 1}, api.Reply{N: 1, Met: []api.Pair{{A: 1, B: 2}}})
	holds(t, g, thing{rolls, ball(142, 0)}, thing{rolls, ball(122, 4)}, thing{rolls, ball(102, 0)})
	// 1 comes to 126, 4 too far: it goes back to 124, and 0 on to 144, and from there on by its push.
	want(t, g, api.Act{Kind: api.ActStep, N: 2}, api.Reply{N: 1, Met: []api.Pair{{A: 0, B: 1}}})
	holds(t, g, thing{rolls, ball(148, 4)}, thing{rolls, ball(124, 0)}, thing{rolls, ball(102, 0)})

	g = begin(t, thing{rolls, ball(142, 0)}, thing{rolls, ball(121, 0)}, thing{rolls, ball(100, 4)})
	want(t, g, api.Act{Kind: api.ActStep, N: 3}, api.Reply{N: 2, Met: []api.Pair{{A: 1, B: 2}, {A: 0, B: 1}}})
	holds(t, g, thing{rolls, ball(148, 4)}, thing{rolls, ball(124, 0)}, thing{rolls, ball(102, 0)})
}

// P6.4: who overlaps a box, by number, as the world stands.
func TestLook(t *testing.T) {
	g := begin(t, thing{rolls, ball(300, 0)}, thing{still, cut(still, ball(200, 0))}, thing{rolls, ball(100, 5)},
		thing{api.Place, cut(api.Place, ball(200, 0))}, thing{api.Shape, cut(api.Shape, ball(200, 0))})
	look := func(b api.Box, ids ...int) {
		t.Helper()
		want(t, g, api.Act{Kind: api.ActLook, Box: b, Id: 1, N: 1, Mask: 1, Row: wild}, api.Reply{Ids: ids})
	}
	look(api.Box{X1: 0, Y1: 0, X2: 1000, Y2: 1000}, 0, 1, 2)
	look(api.Box{Id: 1, X1: 109, Y1: 509, X2: 191, Y2: 600}, 1, 2)
	look(api.Box{X1: 110, Y1: 400, X2: 190, Y2: 600})
	look(api.Box{X1: 0, Y1: 400, X2: 1000, Y2: 490})
	look(api.Box{X1: math.MinInt, Y1: math.MinInt, X2: math.MaxInt, Y2: math.MaxInt}, 0, 1, 2)
	look(api.Box{X1: math.MaxInt, Y1: math.MaxInt, X2: math.MinInt, Y2: math.MinInt})
	look(api.Box{})
	want(t, g, api.Act{Kind: api.ActStep, N: 1}, api.Reply{})
	look(api.Box{X1: 110, Y1: 400, X2: 190, Y2: 600}, 2)
	want(t, g, api.Act{Kind: api.ActKill, Id: 1}, api.Reply{})
	look(api.Box{X1: 0, Y1: 0, X2: 1000, Y2: 1000}, 0, 2)
	want(t, g, api.Act{Kind: api.ActGive, Id: 4, Mask: api.Place, Row: api.Row{X: 700, Y: 500}}, api.Reply{})
	look(api.Box{X1: 0, Y1: 0, X2: 1000, Y2: 1000}, 0, 2, 4)
}

// P6.5: saves are numbered from 0 on, there are MaxSaves at most, and each stays as it was, load by load.
func TestSaves(t *testing.T) {
	g := begin(t)
	for _, n := range []int{math.MinInt, -1, 0, 1, 3, math.MaxInt} {
		refuses(t, g, api.Act{Kind: api.ActLoad, N: n}, api.ErrNone)
	}
	var worlds []api.World
	for n := range 3 {
		want(t, g, api.Act{Kind: api.ActSave, N: 77, Id: 77, Mask: -1, Row: wild}, api.Reply{N: n})
		worlds = append(worlds, g.World())
		refuses(t, g, api.Act{Kind: api.ActLoad, N: n + 1}, api.ErrNone)
		refuses(t, g, api.Act{Kind: api.ActLoad, N: -1}, api.ErrNone)
		want(t, g, api.Act{Kind: api.ActSpawn, Mask: rolls, Row: ball(100+19*n, 8)}, api.Reply{N: n})
	}
	for range 3 {
		refuses(t, g, api.Act{Kind: api.ActSave}, api.ErrFull)
	}
	for _, n := range []int{2, 0, 1, 1, 2, 0, 0, 2} {
		want(t, g, api.Act{Kind: api.ActLoad, N: n, Id: 77, Mask: -1, Row: wild}, api.Reply{})
		if is := g.World(); !alike(is, worlds[n]) {
			t.Fatalf("save %d: %+v, want %+v", n, is, worlds[n])
		}
		// The next number is the world's, and comes again with it.
		want(t, g, api.Act{Kind: api.ActSpawn, Mask: 1}, api.Reply{N: n})
		g.Do(api.Act{Kind: api.ActKick, Id: 0, Row: api.Row{PX: 5, PY: 5}})
		g.Do(api.Act{Kind: api.ActStep, N: 3})
		g.Do(api.Act{Kind: api.ActTake, Id: 1, Mask: api.Shape})
		g.Do(api.Act{Kind: api.ActKill, Id: 0})
		refuses(t, g, api.Act{Kind: api.ActSave}, api.ErrFull)
	}
}

// P6.5: what was loaded may be saved again, and acts that were done stay done.
func TestSaveOfLoaded(t *testing.T) {
	g := begin(t, thing{1, api.Row{X: 5}})
	want(t, g, api.Act{Kind: api.ActSave}, api.Reply{N: 0})
	want(t, g, api.Act{Kind: api.ActKill, Id: 0}, api.Reply{})
	want(t, g, api.Act{Kind: api.ActSave}, api.Reply{N: 1})
	want(t, g, api.Act{Kind: api.ActLoad, N: 0}, api.Reply{})
	want(t, g, api.Act{Kind: api.ActSave}, api.Reply{N: 2})
	want(t, g, api.Act{Kind: api.ActLoad, N: 1}, api.Reply{})
	holds(t, g, thing{})
	want(t, g, api.Act{Kind: api.ActLoad, N: 2}, api.Reply{})
	holds(t, g, thing{1, api.Row{X: 5}})
	for range 150 - 8 {
		want(t, g, api.Act{Kind: api.ActLoad, N: 0}, api.Reply{})
	}
	refuses(t, g, api.Act{Kind: api.ActLoad, N: 0}, api.ErrFull)
}
