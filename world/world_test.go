package world

import (
	"math"
	"slices"
	"testing"

	"ninepins/api"
	"ninepins/store"
)

// thing is what a world has of a number.
type thing struct {
	mask int
	r    api.Row
}

// full has each part, each with numbers that differ from all others.
var full = api.Row{X: 101, Y: 102, PX: 30, PY: 40, W: 5, H: 6, M: 7, R: 8}

// things is a store of some, numbered from 0 on.
func things(t *testing.T, l ...thing) api.Store {
	t.Helper()
	var s api.Store
	for _, one := range l {
		var e api.Errno
		if s, _, e = store.Spawn(s, one.mask, one.r); e != api.OK {
			t.Fatalf("%+v: %d", one, e)
		}
	}
	return s
}

// listed is what a store has, by number.
func listed(s api.Store) []thing {
	var l []thing
	for _, id := range store.Query(s, 0) {
		mask, r, _ := store.Get(s, id)
		l = append(l, thing{mask, r})
	}
	return l
}

// badStores are some that are not good, each for one reason.
func badStores() map[string]api.Store {
	ids := func(n int) []int {
		l := make([]int, n)
		for i := range l {
			l[i] = i
		}
		return l
	}
	table := func(mask int, ids []int, rows ...api.Row) api.Table {
		return api.Table{Mask: mask, Ids: ids, Rows: rows}
	}
	solid := api.Row{W: 1, H: 1}
	return map[string]api.Store{
		"Next":                   {Next: -1},
		"Next above":             {Next: 1<<20 + 1},
		"an empty table":         {Tables: []api.Table{{Mask: 5}}, Next: 1},
		"a row too few":          {Tables: []api.Table{table(5, ids(2), solid)}, Next: 2},
		"a row too many":         {Tables: []api.Table{table(5, ids(1), solid, solid)}, Next: 2},
		"no rows":                {Tables: []api.Table{table(5, ids(1))}, Next: 2},
		"no numbers":             {Tables: []api.Table{table(5, nil, solid)}, Next: 2},
		"no good row":            {Tables: []api.Table{table(5, ids(1), api.Row{})}, Next: 1},
		"wild rows":              {Tables: []api.Table{table(15, ids(1), api.Row{X: math.MinInt, Y: math.MaxInt, W: math.MaxInt, H: math.MinInt, M: math.MinInt})}, Next: 1},
		"a number twice":         {Tables: []api.Table{table(5, []int{3, 3}, solid, solid)}, Next: 4},
		"a number in two tables": {Tables: []api.Table{table(4, ids(1), solid), table(5, ids(1), solid)}, Next: 4},
		"masks fall":             {Tables: []api.Table{table(5, ids(1), solid), table(4, []int{1}, solid)}, Next: 4},
		"mask 0":                 {Tables: []api.Table{table(0, ids(1), api.Row{})}, Next: 1},
		"mask 32":                {Tables: []api.Table{table(32, ids(1), api.Row{})}, Next: 1},
		"mask -1":                {Tables: []api.Table{table(-1, ids(1), full)}, Next: 1},
		"a number below 0":       {Tables: []api.Table{table(5, []int{-1}, solid)}, Next: 1},
		"a number that is Next":  {Tables: []api.Table{table(5, []int{1}, solid)}, Next: 1},
		"11 things":              {Tables: []api.Table{table(16, ids(11), make([]api.Row, 11)...)}, Next: 11},
		"many things":            {Tables: []api.Table{table(5, ids(1<<20), slices.Repeat([]api.Row{solid}, 1<<20)...)}, Next: 1 << 20},
	}
}

// badWorlds are some that are not good.
func badWorlds() map[string]api.World {
	l := map[string]api.World{"nothing": {}}
	for name, s := range badStores() {
		l[name] = api.World{Things: s, Wide: 1000, High: 1000}
	}
	good := api.Store{Tables: []api.Table{{Mask: api.Parts, Ids: []int{2}, Rows: []api.Row{full}}}, Next: 3}
	for name, w := range map[string]api.World{
		"Fall below": {Fall: -65, Wide: 1, High: 1}, "Fall least": {Fall: math.MinInt, Wide: 1, High: 1},
		"Fall above": {Fall: 65, Wide: 1, High: 1}, "Fall most": {Fall: math.MaxInt, Wide: 1, High: 1},
		"Wide 0": {Wide: 0, High: 1}, "Wide below": {Wide: -1, High: 1}, "Wide least": {Wide: math.MinInt, High: 1},
		"Wide above": {Wide: 1<<20 + 1, High: 1}, "Wide most": {Wide: math.MaxInt, High: 1},
		"High 0": {Wide: 1, High: 0}, "High below": {Wide: 1, High: -1}, "High least": {Wide: 1, High: math.MinInt},
		"High above": {Wide: 1, High: 1<<20 + 1}, "High most": {Wide: 1, High: math.MaxInt},
	} {
		w.Things = good
		l[name] = w
	}
	return l
}

// P5.1
func TestGood(t *testing.T) {
	stores := []api.Store{{}, {Next: 1 << 20}, things(t, thing{api.Parts, full}, thing{api.Place, api.Row{X: 5}})}
	for _, s := range stores {
		for _, fall := range []int{-64, -63, 0, 63, 64} {
			for _, wide := range []int{1, 2, 1000, 1<<20 - 1, 1 << 20} {
				for _, high := range []int{1, 2, 1000, 1<<20 - 1, 1 << 20} {
					if w := (api.World{Things: s, Fall: fall, Wide: wide, High: high}); !Good(w) {
						t.Errorf("%+v is not good", w)
					}
				}
			}
		}
	}
	for name, w := range badWorlds() {
		if Good(w) {
			t.Errorf("%s: good", name)
		}
	}
}

// P5.2: of each mask, with a number of its own each.
func TestBoxesOfMasks(t *testing.T) {
	for mask := 1; mask <= api.Parts; mask++ {
		s := things(t, thing{api.Falls, api.Row{}}, thing{mask, store.Only(mask, full)})
		var want []api.Box
		if mask&1 != 0 && mask&4 != 0 {
			want = []api.Box{{Id: 1, X1: 96, Y1: 96, X2: 106, Y2: 108}}
		}
		if got := Boxes(s); !slices.Equal(got, want) {
			t.Errorf("mask %d: %v", mask, got)
		}
	}
}

// P5.2: by number, wherever things stand in their tables.
func TestBoxesByNumber(t *testing.T) {
	const end = 1 << 20
	s := api.Store{
		Tables: []api.Table{
			{Mask: api.Place, Ids: []int{0}, Rows: []api.Row{{X: 3}}},
			{Mask: 5, Ids: []int{8, 2, 6}, Rows: []api.Row{{X: 1, Y: 2, W: 3, H: 4}, {X: end, Y: end, W: 1 << 12, H: 1}, {X: -end, Y: -end, W: 1, H: 1 << 12}}},
			{Mask: 7, Ids: []int{7, 5}, Rows: []api.Row{{X: -9, PX: 70, W: 1, H: 2}, {Y: 9, PY: 70, W: 2, H: 1}}},
			{Mask: api.Parts, Ids: []int{3}, Rows: []api.Row{full}},
		},
		Next: 1 << 20,
	}
	want := []api.Box{
		{Id: 2, X1: end - 4096, Y1: end - 1, X2: end + 4096, Y2: end + 1},
		{Id: 3, X1: 96, Y1: 96, X2: 106, Y2: 108},
		{Id: 5, X1: -2, Y1: 8, X2: 2, Y2: 10},
		{Id: 6, X1: -end - 1, Y1: -end - 4096, X2: -end + 1, Y2: -end + 4096},
		{Id: 7, X1: -10, Y1: -2, X2: -8, Y2: 2},
		{Id: 8, X1: -2, Y1: -2, X2: 4, Y2: 6},
	}
	if got := Boxes(s); !slices.Equal(got, want) {
		t.Errorf("%v", got)
	}
	for _, s := range []api.Store{{}, {Tables: []api.Table{}, Next: 7}} {
		if got := Boxes(s); len(got) != 0 {
			t.Errorf("%v", got)
		}
	}
}

// Every call answers: of stores that are not good, too.
func TestBoxesOfBadStores(t *testing.T) {
	for _, s := range badStores() {
		Boxes(s)
	}
}
