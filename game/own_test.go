package game

import (
	"slices"
	"testing"

	"ninepins/api"
)

// spoil writes over all that a world has.
func spoil(w api.World) {
	for i := range w.Things.Tables {
		table := &w.Things.Tables[i]
		for j := range table.Ids {
			table.Ids[j], table.Rows[j] = -5, wild
		}
		*table = api.Table{Mask: -5, Ids: append(table.Ids, -5), Rows: append(table.Rows, wild)}
	}
}

// What a game answers is the caller's: what is done to it reaches neither the game nor its saves.
func TestAnswersAreTheCallers(t *testing.T) {
	l := []thing{{rolls, ball(100, 8)}, {rolls, ball(119, 0)}, {still, cut(still, ball(138, 0))}}
	g, twin := begin(t, l...), begin(t, l...)
	acts := []api.Act{
		{Kind: api.ActSave}, {Kind: api.ActStep, N: 3}, {Kind: api.ActLook, Box: api.Box{X2: 1000, Y2: 1000}},
		{Kind: api.ActKick, Id: 1, Row: api.Row{PX: 3}}, {Kind: api.ActSave}, {Kind: api.ActTake, Id: 0, Mask: api.Mass},
		{Kind: api.ActLoad, N: 1}, {Kind: api.ActStep, N: 8}, {Kind: api.ActLoad, N: 0}, {Kind: api.ActLoad, N: 0},
		{Kind: api.ActKill, Id: 0}, {Kind: api.ActGive, Id: 2, Mask: api.Falls}, {Kind: api.ActLoad, N: 1}, {Kind: api.ActStep, N: 2},
	}
	for i, a := range acts {
		spoil(g.World())
		r := g.Do(a)
		if wanted := twin.Do(a); !same(r, wanted) {
			t.Fatalf("act %d: %+v, want %+v", i, r, wanted)
		}
		for j := range r.Ids {
			r.Ids[j] = -5
		}
		for j := range r.Met {
			r.Met[j] = api.Pair{A: -5, B: -5}
		}
		_, _ = append(r.Ids, -5), append(r.Met, api.Pair{A: -5})
		if is, wanted := g.World(), twin.World(); !alike(is, wanted) {
			t.Fatalf("act %d: %+v, want %+v", i, is, wanted)
		}
	}
}

// What a game answered stays, whatever is done behind it.
func TestAnswersStay(t *testing.T) {
	g := begin(t, thing{rolls, ball(100, 8)}, thing{rolls, ball(119, 0)})
	was := g.World()
	before := contents(was)
	for _, a := range []api.Act{
		{Kind: api.ActKick, Row: api.Row{PY: 9}}, {Kind: api.ActStep, N: 3}, {Kind: api.ActSpawn, Mask: rolls, Row: ball(5, 5)},
		{Kind: api.ActTake, Mask: api.Mass}, {Kind: api.ActGive, Mask: api.Falls}, {Kind: api.ActKill}, {Kind: api.ActSave}, {Kind: api.ActLoad},
	} {
		if r := g.Do(a); r.Code != api.OK {
			t.Fatalf("%+v: %+v", a, r)
		}
		if !slices.Equal(contents(was), before) || was.Things.Next != 2 {
			t.Fatalf("%+v: %+v, and was %+v", a, was, before)
		}
	}
}

// Two games have nothing in common.
func TestGamesApart(t *testing.T) {
	g, h := begin(t, thing{1, api.Row{X: 1}}), begin(t)
	want(t, g, api.Act{Kind: api.ActSave}, api.Reply{})
	refuses(t, h, api.Act{Kind: api.ActLoad}, api.ErrNone)
	for range 148 {
		g.Do(api.Act{})
	}
	refuses(t, g, api.Act{}, api.ErrFull)
	refuses(t, h, api.Act{}, api.ErrKind)
	holds(t, g, thing{1, api.Row{X: 1}})
	holds(t, h)
}
