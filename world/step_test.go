package world

import (
	"reflect"
	"slices"
	"testing"

	"ninepins/api"
)

const (
	still  = api.Place | api.Shape                       // it does not move
	rolls  = api.Place | api.Push | api.Shape | api.Mass // it moves, and does not fall
	flies  = api.Place | api.Push | api.Mass             // it moves, and meets none
	end    = api.MaxPlace
	most   = api.MaxPush
	unseen = 1 << 20 // so wide and high that no edge is met
)

// ball is one of 20 by 20.
func ball(x, y, px, py, m, r int) api.Row {
	return api.Row{X: x, Y: y, PX: px, PY: py, W: 10, H: 10, M: m, R: r}
}

// step is one step's things before it, those behind it, and which have met.
type step struct {
	name             string
	fall, wide, high int
	was, is          []thing
	met              []api.Pair
}

func checkSteps(t *testing.T, l []step) {
	t.Helper()
	for _, c := range l {
		w := api.World{Things: things(t, c.was...), Fall: c.fall, Wide: c.wide, High: c.high}
		got, met, e := Step(w)
		if e != api.OK || !Good(got) || got.Fall != c.fall || got.Wide != c.wide || got.High != c.high || got.Things.Next != len(c.was) {
			t.Errorf("%s: %+v, %d", c.name, got, e)
		}
		if is := listed(got.Things); !slices.Equal(is, c.is) {
			t.Errorf("%s: %+v, want %+v", c.name, is, c.is)
		}
		if !slices.Equal(met, c.met) {
			t.Errorf("%s: met %v, want %v", c.name, met, c.met)
		}
	}
}

// P5.3: each mask alone: what moves goes on, and it is pushed if it falls; what does not stays.
func TestStepOfMasks(t *testing.T) {
	r := api.Row{X: 1000, Y: 2000, PX: 30, PY: 41, W: 5, H: 6, M: 7, R: 8}
	for mask := 1; mask <= api.Parts; mask++ {
		had := thing{mask, api.Row{}}
		if mask&1 != 0 {
			had.r.X, had.r.Y = r.X, r.Y
		}
		if mask&2 != 0 {
			had.r.PX, had.r.PY = r.PX, r.PY
		}
		if mask&4 != 0 {
			had.r.W, had.r.H = r.W, r.H
		}
		if mask&8 != 0 {
			had.r.M, had.r.R = r.M, r.R
		}
		has := had
		switch mask &^ api.Shape {
		case 1 + 2 + 8: // 30 by 7, 41 by 7
			has.r.X, has.r.Y = 1004, 2005
		case 1 + 2 + 8 + 16: // 41 less 3 times 7 is 20, which is 2 by 7
			has.r.X, has.r.Y, has.r.PY = 1004, 2002, 20
		}
		name := "mask " + string(rune('0'+mask/10)) + string(rune('0'+mask%10))
		checkSteps(t, []step{{name: name, fall: -3, wide: unseen, high: unseen, was: []thing{had}, is: []thing{has}}})
	}
}

// P5.3: how what moves goes on.
func TestStepGoesOn(t *testing.T) {
	free := func(name string, fall int, was, is api.Row, mask int) step {
		return step{name: name, fall: fall, wide: unseen, high: unseen, was: []thing{{mask, was}}, is: []thing{{mask, is}}}
	}
	const falls = flies | api.Falls
	checkSteps(t, []step{
		free("7 further on", 0, api.Row{PX: 14, M: 2}, api.Row{X: 7, PX: 14, M: 2}, flies),
		free("what is left is left out", 0, api.Row{X: 9, Y: 9, PX: 15, PY: -15, M: 2}, api.Row{X: 16, Y: 2, PX: 15, PY: -15, M: 2}, flies),
		free("it falls not", 64, api.Row{X: 9, Y: 9, M: 2}, api.Row{X: 9, Y: 9, M: 2}, flies),
		free("it falls upwards", 64, api.Row{X: 9, Y: 9, M: 2}, api.Row{X: 9, Y: 73, PY: 128, M: 2}, falls),
		free("it falls as it goes", -64, api.Row{X: 9, Y: 99, PX: 8, PY: 9, M: 9}, api.Row{X: 9, Y: 36, PX: 8, PY: -567, M: 9}, falls),
		free("Fall 0", 0, api.Row{X: 9, Y: 99, PX: 9, PY: -9, M: 9}, api.Row{X: 10, Y: 98, PX: 9, PY: -9, M: 9}, falls),
		free("it has no place", -1, api.Row{PY: 7, M: 7}, api.Row{PY: 7, M: 7}, api.Push|api.Mass|api.Falls),
		free("it has no mass", -1, api.Row{Y: 9, PY: 7}, api.Row{Y: 9, PY: 7}, api.Place|api.Push|api.Falls),
		free("it has no push", -1, api.Row{Y: 9, M: 7}, api.Row{Y: 9, M: 7}, api.Place|api.Mass|api.Falls),
		free("a push up to its end", 64, api.Row{Y: 0, PY: most - 575, M: 9}, api.Row{Y: end, PY: most, M: 9}, falls),
		free("a push from its end", -64, api.Row{Y: 5, PY: most, M: 9}, api.Row{Y: end, PY: most - 576, M: 9}, falls),
		free("a place up to its end", 0, api.Row{X: end - 3, Y: end - 3, PX: 3, PY: 3, M: 1}, api.Row{X: end, Y: end, PX: 3, PY: 3, M: 1}, flies),
		// Places end at MaxPlace, so that an edge there is never passed.
		free("a place beyond its end", 0, api.Row{X: end - 3, Y: end - 3, PX: 4, PY: most, M: 1}, api.Row{X: end, Y: end, PX: 4, PY: most, M: 1}, flies),
		free("a speed beyond the end of places", 0, api.Row{X: -100, Y: -90, PX: end + 1, PY: most, M: 1}, api.Row{X: end - 100, Y: end - 90, PX: end + 1, PY: most, M: 1}, flies),
		free("a push below its end", -64, api.Row{Y: 9, PY: -most, M: 1, R: 256}, api.Row{Y: 0, PY: most, M: 1, R: 256}, falls),
	})
}

// P5.3: who meets whom, and what comes of it.
func TestStepMeets(t *testing.T) {
	pair := []api.Pair{{A: 0, B: 1}}
	at := func(name string, was, is []thing, met []api.Pair) step {
		return step{name: name, wide: unseen, high: unseen, was: was, is: is, met: met}
	}
	checkSteps(t, []step{
		at("alike: the push is the other one's",
			[]thing{{rolls, ball(100, 100, 4, 0, 1, 256)}, {rolls, ball(120, 100, 0, 0, 1, 256)}},
			[]thing{{rolls, ball(102, 100, 0, 0, 1, 256)}, {rolls, ball(122, 100, 4, 0, 1, 256)}}, pair),
		at("the lesser number is the second one's below",
			[]thing{{rolls, ball(120, 100, -3, 0, 1, 256)}, {rolls, ball(100, 100, 0, 0, 1, 256)}},
			[]thing{{rolls, ball(118, 100, 0, 0, 1, 256)}, {rolls, ball(98, 100, -3, 0, 1, 256)}}, pair),
		at("up to an edge: they do not meet",
			[]thing{{rolls, ball(100, 100, 4, 0, 1, 256)}, {rolls, ball(124, 100, 0, 0, 1, 256)}},
			[]thing{{rolls, ball(104, 100, 4, 0, 1, 256)}, {rolls, ball(124, 100, 0, 0, 1, 256)}}, nil),
		at("they overlapped, and have gone apart",
			[]thing{{rolls, ball(100, 100, -9, 0, 1, 256)}, {rolls, ball(119, 100, 9, 0, 1, 256)}},
			[]thing{{rolls, ball(91, 100, -9, 0, 1, 256)}, {rolls, ball(128, 100, 9, 0, 1, 256)}}, nil),
		at("both have gone on ahead of any meeting",
			[]thing{{rolls, ball(100, 100, 9, 0, 1, 256)}, {rolls, ball(115, 100, 14, 0, 1, 256)}},
			[]thing{{rolls, ball(109, 100, 9, 0, 1, 256)}, {rolls, ball(129, 100, 14, 0, 1, 256)}}, nil),
		at("without a shape none is met",
			[]thing{{flies, api.Row{X: 100, Y: 100, PX: 4, M: 1, R: 256}}, {rolls, ball(104, 100, 0, 0, 1, 256)}},
			[]thing{{flies, api.Row{X: 104, Y: 100, PX: 4, M: 1, R: 256}}, {rolls, ball(104, 100, 0, 0, 1, 256)}}, nil),
	})
}

// P5.3: what does not move is met as fixed, and stays as it was.
func TestStepMeetsFixed(t *testing.T) {
	pair := []api.Pair{{A: 0, B: 1}}
	const heavy, pushed = still | api.Mass, still | api.Push
	ground := func(px, py, m, r int) api.Row {
		return api.Row{X: 100, Y: 50, PX: px, PY: py, W: 90, H: 10, M: m, R: r}
	}
	onto := func(name string, mask int, r, is api.Row) step {
		return step{
			name: name, wide: unseen, high: unseen, met: pair,
			was: []thing{{mask, r}, {rolls, ball(100, 75, 6, -20, 2, 128)}},
			is:  []thing{{mask, r}, {rolls, is}},
		}
	}
	checkSteps(t, []step{
		onto("neither a mass nor a push", still, ground(0, 0, 0, 0), ball(103, 70, 6, 0, 2, 128)),
		onto("it falls, but has none", still|api.Falls, ground(0, 0, 0, 0), ball(103, 70, 6, 0, 2, 128)),
		onto("a mass, no push: its R is asked for", heavy, ground(0, 0, 9, 64), ball(103, 70, 6, 5, 2, 128)),
		onto("its R is the greater", heavy|api.Falls, ground(0, 0, 1, 256), ball(103, 70, 6, 10, 2, 128)),
		onto("a push, no mass", pushed, ground(most, -most, 0, 0), ball(103, 70, 6, 0, 2, 128)),
		onto("a push, no mass, it falls", pushed|api.Falls, ground(-5, 40, 0, 0), ball(103, 70, 6, 0, 2, 128)),
		{
			name: "the fixed one is the second", fall: -4, wide: unseen, high: unseen, met: pair,
			was: []thing{{rolls | api.Falls, ball(100, 75, 6, -12, 2, 128)}, {heavy, ground(0, 0, 9, 64)}},
			is:  []thing{{rolls | api.Falls, ball(103, 70, 6, 5, 2, 128)}, {heavy, ground(0, 0, 9, 64)}},
		},
		{
			name: "both are fixed: they have met", fall: 64, wide: 1, high: 1, met: pair,
			was: []thing{{pushed | api.Falls, ground(7, 8, 0, 0)}, {heavy, ball(100, 55, 0, 0, 3, 9)}},
			is:  []thing{{pushed | api.Falls, ground(7, 8, 0, 0)}, {heavy, ball(100, 55, 0, 0, 3, 9)}},
		},
		{
			name: "both are fixed, an edge in common", fall: 64, wide: 1, high: 1,
			was: []thing{{still, ground(0, 0, 0, 0)}, {still, ball(100, 70, 0, 0, 0, 0)}},
			is:  []thing{{still, ground(0, 0, 0, 0)}, {still, ball(100, 70, 0, 0, 0, 0)}},
		},
	})
}

// P5.3: pair by pair, of both as they have become by now.
func TestStepPairByPair(t *testing.T) {
	at := func(name string, was, is []thing, met ...api.Pair) step {
		return step{name: name, wide: unseen, high: unseen, was: was, is: is, met: met}
	}
	checkSteps(t, []step{
		at("a push goes through a row",
			[]thing{{rolls, ball(100, 100, 4, 0, 1, 256)}, {rolls, ball(120, 100, 0, 0, 1, 256)}, {rolls, ball(140, 100, 0, 0, 1, 256)}},
			// 0 and 1 overlap alone, as they are then: that 1 comes upon 2 is for the next step.
			[]thing{{rolls, ball(102, 100, 0, 0, 1, 256)}, {rolls, ball(122, 100, 4, 0, 1, 256)}, {rolls, ball(140, 100, 0, 0, 1, 256)}},
			api.Pair{A: 0, B: 1}),
		at("so it does within one step, where they overlap",
			[]thing{{rolls, ball(100, 100, 4, 0, 1, 256)}, {rolls, ball(120, 100, 0, 0, 1, 256)}, {rolls, ball(138, 100, 0, 0, 1, 256)}},
			// By 4: 0 at 102, 1 at 122, with a push of 4; by 4: 1 at 120, 2 at 140.
			[]thing{{rolls, ball(102, 100, 0, 0, 1, 256)}, {rolls, ball(120, 100, 0, 0, 1, 256)}, {rolls, ball(140, 100, 4, 0, 1, 256)}},
			api.Pair{A: 0, B: 1}, api.Pair{A: 1, B: 2}),
		at("one meets two, by two ways",
			[]thing{{rolls, ball(100, 100, 0, 0, 1, 0)}, {rolls, ball(118, 100, 0, 0, 1, 0)}, {rolls, ball(81, 100, 0, 0, 1, 0)}},
			// By 2: 0 at 99, 1 at 119; 0 and 2, by 2: 0 at 100, 2 at 80.
			[]thing{{rolls, ball(100, 100, 0, 0, 1, 0)}, {rolls, ball(119, 100, 0, 0, 1, 0)}, {rolls, ball(80, 100, 0, 0, 1, 0)}},
			api.Pair{A: 0, B: 1}, api.Pair{A: 0, B: 2}),
		at("all four have met, in the order of their numbers",
			[]thing{{still, ball(100, 100, 0, 0, 0, 0)}, {rolls, ball(101, 115, 0, 0, 1, 0)}, {rolls, ball(101, 133, 0, 0, 1, 0)}, {rolls, ball(119, 101, 0, 0, 1, 0)}},
			// 0 and 1, by 5: 1 at 120. 0 and 3, by 1: 3 at 120. 1 and 2, by 7: 1 at 117, 2 at 137. 1 and 3, by 1: 1 at 101, 3 at 121.
			[]thing{{still, ball(100, 100, 0, 0, 0, 0)}, {rolls, ball(101, 117, 0, 0, 1, 0)}, {rolls, ball(101, 137, 0, 0, 1, 0)}, {rolls, ball(121, 101, 0, 0, 1, 0)}},
			api.Pair{A: 0, B: 1}, api.Pair{A: 0, B: 3}, api.Pair{A: 1, B: 2}, api.Pair{A: 1, B: 3}),
		at("a pair that has come apart has not met",
			[]thing{{still, ball(100, 100, 0, 0, 0, 0)}, {rolls, ball(115, 100, 0, 0, 1, 0)}, {still, ball(131, 119, 0, 0, 0, 0)}, {rolls, ball(96, 101, 0, 0, 1, 0)}},
			// 0 and 1, by 5: 1 at 120. 0 and 3, by 16: 3 at 80. 1 and 2, by 1: 1 at 99. 1 and 3 overlapped by 1.
			[]thing{{still, ball(100, 100, 0, 0, 0, 0)}, {rolls, ball(120, 99, 0, 0, 1, 0)}, {still, ball(131, 119, 0, 0, 0, 0)}, {rolls, ball(80, 101, 0, 0, 1, 0)}},
			api.Pair{A: 0, B: 1}, api.Pair{A: 0, B: 3}, api.Pair{A: 1, B: 2}),
	})
}

// P5.3: nothing that moves leaves the world.
func TestStepWalls(t *testing.T) {
	in := func(name string, was, is thing) step {
		return step{name: name, wide: 300, high: 200, was: []thing{was}, is: []thing{is}}
	}
	flat := func(x, y, px, py, m, r int) thing {
		return thing{rolls, api.Row{X: x, Y: y, PX: px, PY: py, W: 20, H: 5, M: m, R: r}}
	}
	bare := func(x, y, px, py, m, r int) thing {
		return thing{flies, api.Row{X: x, Y: y, PX: px, PY: py, M: m, R: r}}
	}
	checkSteps(t, []step{
		in("up to all edges", flat(27, 12, -14, -14, 2, 128), flat(20, 5, -14, -14, 2, 128)),
		in("beyond the lower ones", flat(26, 11, -14, -14, 2, 128), flat(20, 5, 7, 7, 2, 128)),
		in("up to the upper ones", flat(273, 188, 14, 14, 2, 128), flat(280, 195, 14, 14, 2, 128)),
		in("beyond the upper ones", flat(274, 189, 14, 14, 2, 128), flat(280, 195, -7, -7, 2, 128)),
		in("beyond one alone", flat(274, 100, 14, 3, 1, 256), flat(280, 103, -14, 3, 1, 256)),
		in("beyond the other one alone", flat(150, 194, 14, 3, 1, 256), flat(164, 195, 14, -3, 1, 256)),
		in("nothing comes back", flat(274, 189, 14, 14, 1, 0), flat(280, 195, 0, 0, 1, 0)),
		in("what is left is left out", flat(26, 11, -15, -13, 1, 128), flat(20, 5, 7, 6, 1, 128)),
		in("far outside", flat(-end, end, 0, -8, 1, 64), flat(20, 195, 0, -2, 1, 64)),
		in("it goes back by itself, but not far enough", flat(-50, 250, 8, -8, 1, 256), flat(20, 195, 8, -8, 1, 256)),
		in("without a shape, up to the edge", bare(7, 7, -7, -7, 1, 256), bare(0, 0, -7, -7, 1, 256)),
		in("without a shape, beyond it", bare(6, 6, -7, -7, 1, 256), bare(0, 0, 7, 7, 1, 256)),
		in("without a shape, up to the upper edge", bare(293, 193, 7, 7, 1, 256), bare(300, 200, 7, 7, 1, 256)),
		in("without a shape, beyond that", bare(294, 194, 7, 7, 1, 256), bare(300, 200, -7, -7, 1, 256)),
		in("what does not move may lie outside", thing{still, ball(-500, 5000, 0, 0, 0, 0)}, thing{still, ball(-500, 5000, 0, 0, 0, 0)}),
		in("so may what has a push and no mass", thing{3, api.Row{X: -500, PX: -4}}, thing{3, api.Row{X: -500, PX: -4}}),
		{
			name: "too narrow and too low", wide: 30, high: 1,
			was: []thing{flat(15, 1, 0, 0, 1, 256)}, is: []thing{flat(20, 5, 0, 0, 1, 256)},
		},
		{
			name: "too narrow, from above", wide: 30, high: 9,
			was: []thing{flat(21, 6, 8, 8, 1, 128)}, is: []thing{flat(20, 5, -4, -4, 1, 128)},
		},
	})
}

// P5.3: the edges come behind the meetings: what is pushed out by another one is brought back.
func TestStepWallsBehindMeetings(t *testing.T) {
	checkSteps(t, []step{
		{
			name: "against the edge", wide: 300, high: 200, met: []api.Pair{{A: 0, B: 1}},
			was: []thing{{rolls, ball(10, 100, 0, 0, 1, 256)}, {rolls, ball(32, 100, -6, 0, 1, 256)}},
			// They meet by 4, at 8 and 28, the push is the first one's; it comes back from the edge.
			is: []thing{{rolls, ball(10, 100, 6, 0, 1, 256)}, {rolls, ball(28, 100, 0, 0, 1, 256)}},
		},
		{
			name: "both beyond the edge: they meet there", wide: 300, high: 200, met: []api.Pair{{A: 0, B: 1}},
			was: []thing{{rolls, ball(-100, 100, 0, 0, 1, 256)}, {rolls, ball(-90, 100, 0, 0, 1, 256)}},
			is:  []thing{{rolls, ball(10, 100, 0, 0, 1, 256)}, {rolls, ball(10, 100, 0, 0, 1, 256)}},
		},
		{
			name: "they overlap by the edge alone: they do not meet in this step", wide: 300, high: 200,
			was: []thing{{rolls, ball(0, 100, -50, 0, 1, 256)}, {rolls, ball(29, 100, 0, 0, 1, 256)}},
			is:  []thing{{rolls, ball(10, 100, 50, 0, 1, 256)}, {rolls, ball(29, 100, 0, 0, 1, 256)}},
		},
	})
}

// P5.3: what is not good is refused, and is as it was.
func TestStepRefuses(t *testing.T) {
	for name, w := range badWorlds() {
		got, met, e := Step(w)
		if e != api.ErrForm || len(met) != 0 || !reflect.DeepEqual(got, w) {
			t.Errorf("%s: %+v, %v, %d", name, got, met, e)
		}
	}
}

// P5.3: a world without things is one step on as it was.
func TestStepOfNothing(t *testing.T) {
	for _, s := range []api.Store{{}, {Next: 1 << 20}, {Tables: []api.Table{}, Next: 3}} {
		w := api.World{Things: s, Fall: 64, Wide: 1, High: 1 << 20}
		if got, met, e := Step(w); e != api.OK || len(met) != 0 || !reflect.DeepEqual(got, w) {
			t.Errorf("%+v, %v, %d", got, met, e)
		}
	}
}
