package game

import (
	"reflect"
	"slices"
	"testing"

	"ninepins/api"
	"ninepins/store"
)

// P6.6
func TestRun(t *testing.T) {
	l := []api.Act{
		{Kind: api.ActSpawn, Mask: rolls, Row: ball(100, 8)},
		{Kind: api.ActSpawn, Mask: rolls, Row: ball(140, 0)},
		{Kind: 10},
		{Kind: api.ActKill, Id: 2},
		{Kind: api.ActStep, N: 4},
		{Kind: api.ActLook, Box: api.Box{X2: 1000, Y2: 1000}},
		{Kind: api.ActSave},
		{Kind: api.ActSave},
	}
	handed := slices.Clone(l)
	for range 2 {
		// Each run is at a new game.
		got, e := Run(1000, 1000, 0, l)
		replies := []api.Reply{{}, {N: 1}, {Code: api.ErrKind}, {Code: api.ErrNone}, {N: 1, Met: []api.Pair{{A: 0, B: 1}}}, {Ids: []int{0, 1}}, {}, {N: 1}}
		if e != api.OK || !slices.EqualFunc(got, replies, same) {
			t.Errorf("%+v, %d, want %+v", got, e, replies)
		}
		if !slices.Equal(l, handed) {
			t.Fatalf("the acts were changed: %+v", l)
		}
	}
	for _, none := range [][]api.Act{nil, {}} {
		if got, e := Run(1, 1, 0, none); e != api.OK || len(got) != 0 {
			t.Errorf("%+v, %d", got, e)
		}
	}
}

// P6.6: how wide and high a world is and how it falls reach the game.
func TestRunWorld(t *testing.T) {
	l := []api.Act{
		{Kind: api.ActSpawn, Mask: api.Parts, Row: api.Row{X: 50, Y: 50, PX: 900, W: 1, H: 1, M: 1}},
		{Kind: api.ActStep, N: 1},
		{Kind: api.ActLook, Box: api.Box{X1: 98, Y1: 54, X2: 100, Y2: 56}},
		{Kind: api.ActStep, N: 8},
		{Kind: api.ActLook, Box: api.Box{X1: 98, Y1: 68, X2: 100, Y2: 70}},
	}
	got, e := Run(100, 70, 5, l)
	if e != api.OK || !slices.EqualFunc(got, []api.Reply{{}, {}, {Ids: []int{0}}, {}, {Ids: []int{0}}}, same) {
		t.Errorf("%+v, %d", got, e)
	}
}

// P6.6: New's error comes first, then a list that is too long, of which nothing is answered.
func TestRunRefuses(t *testing.T) {
	for _, n := range wrongWorlds() {
		for _, l := range [][]api.Act{nil, make([]api.Act, 1), make([]api.Act, 151)} {
			if got, e := Run(n[0], n[1], n[2], l); e != api.ErrRange || len(got) != 0 {
				t.Errorf("%v: %+v, %d", n, got, e)
			}
		}
	}
	for _, n := range []int{151, 152, 1000} {
		if got, e := Run(9, 9, 0, make([]api.Act, n)); e != api.ErrFull || len(got) != 0 {
			t.Errorf("%d acts: %+v, %d", n, got, e)
		}
	}
	l := make([]api.Act, 150)
	l[149] = api.Act{Kind: api.ActSpawn, Mask: 16}
	got, e := Run(9, 9, 0, l)
	if e != api.OK || len(got) != 150 || got[148].Code != api.ErrKind || !same(got[149], api.Reply{}) {
		t.Errorf("150 acts: %+v, %d", got, e)
	}
}

// DOC.md's examples of the whole: 1.
func TestExampleFurtherOn(t *testing.T) {
	g := begin(t, thing{api.Place | api.Push | api.Mass, api.Row{X: 100, Y: 100, PX: 14, M: 2}})
	for i := range 8 {
		want(t, g, api.Act{Kind: api.ActStep, N: 1}, api.Reply{})
		if _, r, _ := store.Get(g.World().Things, 0); r.X != 107+7*i || r.PX != 14 {
			t.Fatalf("step %d: %+v", i, r)
		}
	}
}

// DOC.md's examples of the whole: 2.
func TestExamplePushPassed(t *testing.T) {
	g := begin(t, thing{rolls, ball(100, 8)}, thing{rolls, ball(124, 0)})
	want(t, g, api.Act{Kind: api.ActStep, N: 8}, api.Reply{N: 1, Met: []api.Pair{{A: 0, B: 1}}})
	l := contents(g.World())
	if l[0].r.PX != 0 || l[1].r.PX != 8 {
		t.Errorf("%+v", l)
	}
}

// DOC.md's examples of the whole: 3.
func TestExampleComesToLie(t *testing.T) {
	ground := api.Row{X: 500, Y: 50, W: 400, H: 10}
	heavy := ground
	heavy.M = 9
	for i, one := range []thing{{still, ground}, {still | api.Push, ground}, {still | api.Mass, heavy}} {
		g := begin(t, one, thing{api.Parts, api.Row{X: 500, Y: 200, W: 10, H: 10, M: 2}})
		for range 4 {
			g.Do(api.Act{Kind: api.ActStep, N: 8})
		}
		if l := contents(g.World()); l[0] != one || l[1].r.X != 500 || l[1].r.Y != 70 {
			t.Errorf("ground %d: %+v", i, l)
		}
	}
}

// DOC.md's examples of the whole: 4.
func TestExampleAgain(t *testing.T) {
	g := begin(t, thing{api.Parts, ball(100, 9)}, thing{rolls, ball(140, -5)}, thing{api.Parts, ball(170, 3)}, thing{still, cut(still, ball(230, 0))})
	want(t, g, api.Act{Kind: api.ActSave}, api.Reply{})
	var replies [2][10]api.Reply
	var worlds [2][10]api.World
	for again := range 2 {
		for i := range 10 {
			replies[again][i] = g.Do(api.Act{Kind: api.ActStep, N: 1})
			worlds[again][i] = g.World()
		}
		want(t, g, api.Act{Kind: api.ActLoad}, api.Reply{})
	}
	if !reflect.DeepEqual(replies[0], replies[1]) || !reflect.DeepEqual(worlds[0], worlds[1]) {
		t.Errorf("%+v, %+v, want %+v, %+v", replies[1], worlds[1], replies[0], worlds[0])
	}
}
