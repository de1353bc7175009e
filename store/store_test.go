package store

import (
	"maps"
	"math"
	"reflect"
	"slices"
	"testing"

	"ninepins/api"
)

// full has each part, each with numbers that differ from all others.
var full = api.Row{X: 1, Y: 2, PX: 3, PY: 4, W: 5, H: 6, M: 7, R: 8}

// field is one number of a row: its part, its bounds, and where it is.
type field struct {
	name        string
	part        int
	least, most int
	of          func(r *api.Row) *int
}

func fields() []field {
	return []field{
		{"X", api.Place, -1 << 20, 1 << 20, func(r *api.Row) *int { return &r.X }},
		{"Y", api.Place, -1 << 20, 1 << 20, func(r *api.Row) *int { return &r.Y }},
		{"PX", api.Push, -1 << 24, 1 << 24, func(r *api.Row) *int { return &r.PX }},
		{"PY", api.Push, -1 << 24, 1 << 24, func(r *api.Row) *int { return &r.PY }},
		{"W", api.Shape, 1, 1 << 12, func(r *api.Row) *int { return &r.W }},
		{"H", api.Shape, 1, 1 << 12, func(r *api.Row) *int { return &r.H }},
		{"M", api.Mass, 1, 9, func(r *api.Row) *int { return &r.M }},
		{"R", api.Mass, 0, 256, func(r *api.Row) *int { return &r.R }},
	}
}

// cut is full with 0 in all that does not belong to a mask, field by field.
func cut(mask int) api.Row {
	r := full
	for _, f := range fields() {
		if mask&f.part == 0 {
			*f.of(&r) = 0
		}
	}
	return r
}

func wrongMasks() []int {
	return []int{0, -1, -31, 32, 33, 63, 1 << 40, math.MaxInt, math.MinInt, math.MinInt + 1}
}

// one is a table of one thing of a mask.
func one(mask, id int) api.Table {
	return api.Table{Mask: mask, Ids: []int{id}, Rows: []api.Row{cut(mask)}}
}

// sample has things 0 to 5 but for 3, its numbers out of order, and room for two more numbers.
func sample() api.Store {
	return api.Store{
		Tables: []api.Table{
			{Mask: api.Place, Ids: []int{5, 1}, Rows: []api.Row{{X: 50}, {X: 10}}},
			{Mask: api.Place | api.Push, Ids: []int{4, 0}, Rows: []api.Row{{X: 40, PX: 41}, {X: 1, PX: 2}}},
			{Mask: api.Parts, Ids: []int{2}, Rows: []api.Row{full}},
		},
		Next: 8,
	}
}

// many is a store of n things of one table, and Next behind them.
func many(n int) api.Store {
	t := api.Table{Mask: api.Falls}
	for i := range n {
		t.Ids = append(t.Ids, i)
		t.Rows = append(t.Rows, api.Row{})
	}
	return api.Store{Tables: []api.Table{t}, Next: n}
}

// bads are stores that are not good, each for one reason.
func bads() map[string]api.Store {
	tables := func(next int, l ...api.Table) api.Store { return api.Store{Tables: l, Next: next} }
	return map[string]api.Store{
		"Next below 0":            {Next: -1},
		"Next least":              {Next: math.MinInt},
		"Next above 2^20":         {Next: 1<<20 + 1},
		"Next most":               {Next: math.MaxInt},
		"an empty table":          tables(9, api.Table{Mask: 1}),
		"an empty table behind":   tables(9, one(1, 0), api.Table{Mask: 2}),
		"an empty table of 0":     tables(9, api.Table{}),
		"mask 0":                  tables(9, api.Table{Ids: []int{0}, Rows: []api.Row{{}}}),
		"mask 32":                 tables(9, api.Table{Mask: 32, Ids: []int{0}, Rows: []api.Row{{}}}),
		"mask -1":                 tables(9, api.Table{Mask: -1, Ids: []int{0}, Rows: []api.Row{full}}),
		"masks fall":              tables(9, one(2, 0), one(1, 1)),
		"masks twice":             tables(9, one(2, 0), one(2, 1)),
		"masks fall behind":       tables(9, one(1, 0), one(4, 1), one(2, 2)),
		"a row too few":           tables(9, api.Table{Mask: 16, Ids: []int{0, 1}, Rows: []api.Row{{}}}),
		"a row too many":          tables(9, api.Table{Mask: 16, Ids: []int{0}, Rows: []api.Row{{}, {}}}),
		"rows alone":              tables(9, api.Table{Mask: 16, Rows: []api.Row{{}}}),
		"numbers alone":           tables(9, api.Table{Mask: 16, Ids: []int{0}}),
		"no good row":             tables(9, api.Table{Mask: 4, Ids: []int{0}, Rows: []api.Row{{W: 1}}}),
		"no good row behind":      tables(9, api.Table{Mask: 1, Ids: []int{0, 1}, Rows: []api.Row{{}, {M: 1}}}),
		"a number twice":          tables(9, api.Table{Mask: 16, Ids: []int{3, 3}, Rows: []api.Row{{}, {}}}),
		"a number in two tables":  tables(9, one(1, 3), one(2, 4), one(4, 3)),
		"a number below 0":        tables(9, one(1, -1)),
		"the least number":        tables(9, one(1, math.MinInt)),
		"a number that is Next":   tables(9, one(1, 9)),
		"a number beyond Next":    tables(9, one(1, 10)),
		"a number, Next 0":        tables(0, one(1, 0)),
		"2^20 as a number":        tables(1<<20, one(1, 1<<20)),
		"more than MaxThings":     many(11),
		"far more than MaxThings": many(1000),
		"more, in two tables": tables(11, one(1, 10),
			api.Table{Mask: 16, Ids: many(10).Tables[0].Ids, Rows: many(10).Tables[0].Rows}),
	}
}

// P2.1
func TestGoodRowMasks(t *testing.T) {
	for mask := 1; mask <= 31; mask++ {
		if !GoodRow(mask, cut(mask)) {
			t.Errorf("mask %d: %+v is not good", mask, cut(mask))
		}
	}
	for _, mask := range wrongMasks() {
		for _, r := range []api.Row{{}, full, cut(mask)} {
			if GoodRow(mask, r) {
				t.Errorf("mask %d: %+v is good", mask, r)
			}
		}
	}
}

// P2.1
func TestGoodRowBounds(t *testing.T) {
	for _, f := range fields() {
		for mask := 1; mask <= 31; mask++ {
			for _, n := range []int{
				math.MinInt, f.least - 1, f.least, f.least + 1, -1, 0, 1, f.most - 1, f.most, f.most + 1, math.MaxInt,
			} {
				r := cut(mask)
				*f.of(&r) = n
				want := n == 0
				if mask&f.part != 0 {
					want = n >= f.least && n <= f.most
				}
				if got := GoodRow(mask, r); got != want {
					t.Errorf("mask %d, %s %d: %v", mask, f.name, n, got)
				}
			}
		}
	}
}

// P2.2
func TestOnly(t *testing.T) {
	for mask := 0; mask <= 31; mask++ {
		if got := Only(mask, full); got != cut(mask) {
			t.Errorf("mask %d: %+v, want %+v", mask, got, cut(mask))
		}
		// It takes what is there, good or not.
		wild := api.Row{X: math.MinInt, Y: math.MaxInt, PX: -9, PY: 1 << 30, W: -1, H: 1 << 50, M: 10, R: -3}
		got := Only(mask, wild)
		for _, f := range fields() {
			want := 0
			if mask&f.part != 0 {
				want = *f.of(&wild)
			}
			if *f.of(&got) != want {
				t.Errorf("mask %d, %s: %+v", mask, f.name, got)
			}
		}
	}
	for _, mask := range wrongMasks() {
		Only(mask, full)
	}
}

// P2.3
func TestGood(t *testing.T) {
	all := api.Store{Next: 1 << 20}
	for i := range 10 {
		all.Tables = append(all.Tables, one(22+i, 9-i))
	}
	for name, s := range map[string]api.Store{
		"nothing":             {},
		"no tables":           {Tables: []api.Table{}},
		"nothing, Next 1":     {Next: 1},
		"nothing, Next most":  {Next: 1 << 20},
		"one":                 {Tables: []api.Table{one(1, 0)}, Next: 1},
		"the last number":     {Tables: []api.Table{one(31, 1<<20-1)}, Next: 1 << 20},
		"out of order":        sample(),
		"MaxThings":           many(10),
		"MaxThings of tables": all,
	} {
		if !Good(s) {
			t.Errorf("%s: not good", name)
		}
	}
	for name, s := range bads() {
		if Good(s) {
			t.Errorf("%s: good", name)
		}
	}
}

// P2.4
func TestGetAndSize(t *testing.T) {
	s := sample()
	for _, c := range []struct {
		id, mask int
		r        api.Row
	}{
		{0, 3, api.Row{X: 1, PX: 2}}, {1, 1, api.Row{X: 10}}, {2, 31, full},
		{4, 3, api.Row{X: 40, PX: 41}}, {5, 1, api.Row{X: 50}},
	} {
		if mask, r, ok := Get(s, c.id); mask != c.mask || r != c.r || !ok {
			t.Errorf("%d: %d, %+v, %v", c.id, mask, r, ok)
		}
	}
	for _, id := range []int{3, 6, 7, 8, -1, 1 << 20, math.MinInt, math.MaxInt} {
		if mask, r, ok := Get(s, id); mask != 0 || r != (api.Row{}) || ok {
			t.Errorf("%d: %d, %+v, %v", id, mask, r, ok)
		}
	}
	if _, _, ok := Get(api.Store{}, 0); ok {
		t.Error("there is a thing in an empty store")
	}
	for n, s := range map[int]api.Store{0: {Next: 7}, 5: s, 10: many(10)} {
		if got := Size(s); got != n {
			t.Errorf("Size %d, want %d", got, n)
		}
	}
}

// P2.4
func TestQuery(t *testing.T) {
	s := sample()
	for _, c := range []struct {
		mask int
		want []int
	}{
		{0, []int{0, 1, 2, 4, 5}}, {api.Place, []int{0, 1, 2, 4, 5}},
		{api.Push, []int{0, 2, 4}}, {api.Place | api.Push, []int{0, 2, 4}},
		{api.Push | api.Falls, []int{2}}, {api.Parts, []int{2}},
	} {
		if got := Query(s, c.mask); !slices.Equal(got, c.want) {
			t.Errorf("%d: %v, want %v", c.mask, got, c.want)
		}
	}
	if got := Query(api.Store{Next: 5}, 0); len(got) != 0 {
		t.Errorf("of nothing: %v", got)
	}
	s.Tables = s.Tables[:2]
	for _, mask := range []int{api.Shape, api.Mass, api.Falls, api.Place | api.Falls, api.Parts} {
		if got := Query(s, mask); len(got) != 0 {
			t.Errorf("%d: %v", mask, got)
		}
	}
}

// P2.4: a table for each mask, each mask asked for.
func TestQueryMasks(t *testing.T) {
	for first := 1; first <= 22; first++ {
		s := api.Store{Next: 40}
		for mask := first; mask < first+10; mask++ {
			s.Tables = append(s.Tables, one(mask, 39-mask))
		}
		for mask := 0; mask <= 31; mask++ {
			var want []int
			for id := range 40 {
				has := 39 - id
				if has >= first && has < first+10 && has&mask == mask {
					want = append(want, id)
				}
			}
			if got := Query(s, mask); !slices.Equal(got, want) {
				t.Errorf("from %d, mask %d: %v, want %v", first, mask, got, want)
			}
		}
	}
}

// P2.5
func TestSpawn(t *testing.T) {
	s := sample()
	for mask := 1; mask <= 31; mask++ {
		got, id, e := Spawn(s, mask, cut(mask))
		want := contents(s)
		want[8] = thing{mask, cut(mask)}
		if e != api.OK || id != 8 || got.Next != 9 || !Good(got) || !maps.Equal(contents(got), want) {
			t.Errorf("mask %d: %+v, %d, %d", mask, got, id, e)
		}
	}
	got, id, e := Spawn(api.Store{Next: 1<<20 - 1}, api.Falls, api.Row{})
	if e != api.OK || id != 1<<20-1 || got.Next != 1<<20 || !Good(got) || Size(got) != 1 {
		t.Errorf("the last number: %+v, %d, %d", got, id, e)
	}
	if got, _, e := Spawn(many(9), api.Place, api.Row{}); e != api.OK || Size(got) != 10 || !Good(got) {
		t.Errorf("the last thing: %+v, %d", got, e)
	}
}

// P2.5: what is refused, and which error comes first.
func TestSpawnRefuses(t *testing.T) {
	last := api.Store{Tables: []api.Table{one(1, 0)}, Next: 1 << 20}
	for _, c := range []struct {
		s    api.Store
		mask int
		r    api.Row
		e    api.Errno
	}{
		{api.Store{Next: -1}, 16, api.Row{}, api.ErrForm}, {api.Store{Next: -1}, 0, api.Row{}, api.ErrForm},
		{many(11), 16, api.Row{}, api.ErrForm}, {many(11), 0, api.Row{}, api.ErrForm},
		{sample(), 0, api.Row{}, api.ErrRange}, {sample(), 32, api.Row{}, api.ErrRange}, {sample(), -1, full, api.ErrRange},
		{sample(), api.Place, api.Row{M: 1}, api.ErrRange}, {sample(), api.Mass, api.Row{}, api.ErrRange},
		{many(10), 0, api.Row{}, api.ErrRange}, {last, 4, api.Row{}, api.ErrRange},
		{many(10), 16, api.Row{}, api.ErrFull}, {last, 16, api.Row{}, api.ErrFull},
	} {
		if got, id, e := Spawn(c.s, c.mask, c.r); e != c.e || id != 0 || !reflect.DeepEqual(got, c.s) {
			t.Errorf("%d, %+v: %+v, %d, %d, want %d", c.mask, c.r, got, id, e, c.e)
		}
	}
}

// P2.5
func TestKill(t *testing.T) {
	s := sample()
	for _, id := range Query(s, 0) {
		got, e := Kill(s, id)
		want := contents(s)
		delete(want, id)
		if e != api.OK || got.Next != s.Next || !Good(got) || !maps.Equal(contents(got), want) {
			t.Errorf("%d: %+v, %d", id, got, e)
		}
		if _, e := Kill(got, id); e != api.ErrNone {
			t.Errorf("%d again: %d", id, e)
		}
	}
	for _, id := range Query(s, 0) {
		s, _ = Kill(s, id)
	}
	if Size(s) != 0 || len(s.Tables) != 0 || s.Next != 8 {
		t.Errorf("all: %+v", s)
	}
}

// P2.5
func TestSet(t *testing.T) {
	s := sample()
	for id, r := range map[int]api.Row{
		0: {X: -7, Y: 8, PX: -9, PY: 10}, 1: {Y: 3}, 2: {W: 1, H: 1, M: 1}, 4: {}, 5: {X: 1 << 20, Y: -1 << 20},
	} {
		got, e := Set(s, id, r)
		want := contents(s)
		want[id] = thing{want[id].mask, r}
		if e != api.OK || got.Next != s.Next || !Good(got) || !maps.Equal(contents(got), want) {
			t.Errorf("%d: %+v, %d", id, got, e)
		}
	}
	for id, r := range map[int]api.Row{0: {W: 1}, 1: {PX: 1}, 2: {}, 4: {X: 1<<20 + 1}, 5: {R: 1}} {
		if got, e := Set(s, id, r); e != api.ErrRange || !reflect.DeepEqual(got, s) {
			t.Errorf("%d: %+v, %d", id, got, e)
		}
	}
}

// P2.6: from each mask to each, field by field.
func TestChange(t *testing.T) {
	r := api.Row{X: 11, Y: 12, PX: 13, PY: 14, W: 15, H: 16, M: 9, R: 18}
	for from := 1; from <= 31; from++ {
		s := sample()
		s, id, _ := Spawn(s, from, cut(from))
		for to := 1; to <= 31; to++ {
			want := contents(s)
			want[id] = thing{to, merged(from, to, r)}
			got, e := Change(s, id, to, r)
			if e != api.OK || got.Next != s.Next || !Good(got) || !maps.Equal(contents(got), want) {
				t.Errorf("%d to %d: %+v, %d", from, to, got, e)
			}
		}
		for _, to := range wrongMasks() {
			if got, e := Change(s, id, to, r); e != api.ErrRange || !reflect.DeepEqual(got, s) {
				t.Errorf("%d to %d: %+v, %d", from, to, got, e)
			}
		}
	}
}

// merged is what comes of full, cut to one mask, with what another mask has more of a row.
func merged(from, to int, r api.Row) api.Row {
	m := api.Row{}
	for _, f := range fields() {
		switch {
		case to&f.part == 0:
		case from&f.part != 0:
			*f.of(&m) = *f.of(&full)
		default:
			*f.of(&m) = *f.of(&r)
		}
	}
	return m
}

// P2.6: only what comes is taken of the row, and only that may be out of its bounds.
func TestChangeBounds(t *testing.T) {
	wild := api.Row{X: math.MaxInt, Y: math.MinInt, PX: 1 << 60, PY: -1 << 60, W: 0, H: -1, M: 10, R: 257}
	for from := 1; from <= 31; from++ {
		s, id, _ := Spawn(sample(), from, cut(from))
		for to := 1; to <= 31; to++ {
			_, e := Change(s, id, to, wild)
			come := to &^ from &^ api.Falls
			if (come == 0) != (e == api.OK) || come != 0 && e != api.ErrRange {
				t.Errorf("%d to %d: %d", from, to, e)
			}
		}
	}
	s, id, _ := Spawn(sample(), api.Falls, api.Row{})
	for _, f := range fields() {
		for _, n := range []int{math.MinInt, f.least - 1, f.least, f.most, f.most + 1, math.MaxInt} {
			r := full
			*f.of(&r) = n
			_, e := Change(s, id, api.Parts, r)
			if in := n >= f.least && n <= f.most; in != (e == api.OK) || !in && e != api.ErrRange {
				t.Errorf("%s %d: %d", f.name, n, e)
			}
		}
	}
}

// P2.5, P2.6: numbers that are nobody's, ahead of what is out of range.
func TestNobody(t *testing.T) {
	for _, s := range []api.Store{{}, {Next: 1 << 20}, sample(), many(10)} {
		for _, id := range []int{-1, 3, 6, s.Next, s.Next + 1, 1 << 20, math.MinInt, math.MaxInt} {
			if _, _, ok := Get(s, id); ok {
				continue
			}
			if got, e := Kill(s, id); e != api.ErrNone || !reflect.DeepEqual(got, s) {
				t.Errorf("Kill %d: %+v, %d", id, got, e)
			}
			for _, r := range []api.Row{{}, {M: 10}} {
				if got, e := Set(s, id, r); e != api.ErrNone || !reflect.DeepEqual(got, s) {
					t.Errorf("Set %d: %+v, %d", id, got, e)
				}
				for _, mask := range []int{0, 1, 31, 32} {
					if got, e := Change(s, id, mask, r); e != api.ErrNone || !reflect.DeepEqual(got, s) {
						t.Errorf("Change %d: %+v, %d", id, got, e)
					}
				}
			}
		}
	}
}

// The sentence ahead of P2.5: ErrForm comes first. What is said of good stores alone does not panic.
func TestBadStores(t *testing.T) {
	for name, s := range bads() {
		for _, id := range []int{-1, 0, 1, 3, 9, 1 << 20, math.MinInt, math.MaxInt} {
			Get(s, id)
			if got, e := Kill(s, id); e != api.ErrForm || !reflect.DeepEqual(got, s) {
				t.Errorf("%s: Kill %d: %+v, %d", name, id, got, e)
			}
			for _, mask := range []int{-1, 0, 1, 16, 31, 32, math.MinInt, math.MaxInt} {
				r := cut(mask)
				if got, e := Set(s, id, r); e != api.ErrForm || !reflect.DeepEqual(got, s) {
					t.Errorf("%s: Set %d: %+v, %d", name, id, got, e)
				}
				if got, e := Change(s, id, mask, r); e != api.ErrForm || !reflect.DeepEqual(got, s) {
					t.Errorf("%s: Change %d, %d: %+v, %d", name, id, mask, got, e)
				}
				if got, n, e := Spawn(s, mask, r); e != api.ErrForm || n != 0 || !reflect.DeepEqual(got, s) {
					t.Errorf("%s: Spawn %d: %+v, %d, %d", name, mask, got, n, e)
				}
				Query(s, mask)
			}
		}
		Size(s)
	}
}

// thing is what a store has of a number.
type thing struct {
	mask int
	r    api.Row
}

// contents is what a store has, read off its tables.
func contents(s api.Store) map[int]thing {
	m := map[int]thing{}
	for _, t := range s.Tables {
		for i, id := range t.Ids {
			m[id] = thing{t.Mask, t.Rows[i]}
		}
	}
	return m
}
