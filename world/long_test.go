package world

import (
	"maps"
	"reflect"
	"slices"
	"testing"

	"ninepins/api"
	"ninepins/solve"
	"ninepins/store"
)

// dice are chance numbers that are the same in each run.
type dice uint64

func (d *dice) from(least, most int) int {
	*d = *d*6364136223846793005 + 1442695040888963407
	return least + int(uint64(*d)>>33)%(most-least+1)
}

// world is a chance one, so crowded that much is met.
func (d *dice) world(t *testing.T) api.World {
	wide := [4]int{60, 200, 2000, end}[d.from(0, 3)]
	push := [4]int{20, 300, 9000, most}[d.from(0, 3)]
	l := make([]thing, d.from(1, api.MaxThings))
	for i := range l {
		l[i].mask = [5]int{d.from(1, api.Parts), still, rolls, api.Parts, api.Parts}[d.from(0, 4)]
		l[i].r = store.Only(l[i].mask, api.Row{
			X: d.from(-9, 120), Y: d.from(-9, 120), PX: d.from(-push, push), PY: d.from(-push, push),
			W: d.from(1, 30), H: d.from(1, 30), M: d.from(1, api.MaxMass), R: d.from(0, api.Unit),
		})
	}
	return api.World{Things: things(t, l...), Fall: d.from(-api.MaxFall, api.MaxFall), Wide: wide, High: d.from(40, 300)}
}

// mixed is a store with its things at other places of their tables.
func (d *dice) mixed(s api.Store) api.Store {
	s = store.Clone(s)
	for _, t := range s.Tables {
		for i := range t.Ids {
			j := d.from(0, i)
			t.Ids[i], t.Ids[j] = t.Ids[j], t.Ids[i]
			t.Rows[i], t.Rows[j] = t.Rows[j], t.Rows[i]
		}
	}
	return s
}

// modelStep is a step of a world without tables and without a look from the left: all are asked of all.
// It answers which pairs have met, and how many that overlapped have not.
func modelStep(l map[int]thing, w api.World) ([]api.Pair, int) {
	moves := func(id int) bool { return l[id].mask&1 != 0 && l[id].mask&2 != 0 && l[id].mask&8 != 0 }
	ids := slices.Sorted(maps.Keys(l))
	for _, id := range ids {
		if one := l[id]; moves(id) {
			if one.mask&16 != 0 {
				one.r.PY = max(-most, min(most, one.r.PY+w.Fall*one.r.M))
			}
			// A speed, too, is taken up to the end of places alone.
			x, y := max(-end, min(end, one.r.PX/one.r.M)), max(-end, min(end, one.r.PY/one.r.M))
			one.r.X, one.r.Y = max(-end, min(end, one.r.X+x)), max(-end, min(end, one.r.Y+y))
			l[id] = one
		}
	}
	var near, met []api.Pair
	for i, a := range ids {
		for _, b := range ids[i+1:] {
			if l[a].mask&5 == 5 && l[b].mask&5 == 5 {
				if x, y := solve.Depth(l[a].r, l[b].r); x > 0 && y > 0 {
					near = append(near, api.Pair{A: a, B: b})
				}
			}
		}
	}
	for _, p := range near {
		var rows [2]api.Row
		for k, id := range [2]int{p.A, p.B} {
			rows[k] = l[id].r
			if !moves(id) {
				rows[k] = api.Row{X: rows[k].X, Y: rows[k].Y, W: rows[k].W, H: rows[k].H, R: rows[k].R}
			}
		}
		a, b, ok := solve.Meet(rows[0], rows[1])
		if ok {
			met = append(met, p)
		}
		if ok && moves(p.A) {
			l[p.A] = thing{l[p.A].mask, a}
		}
		if ok && moves(p.B) {
			l[p.B] = thing{l[p.B].mask, b}
		}
	}
	for _, id := range ids {
		if one := l[id]; moves(id) {
			one.r.X, one.r.PX = solve.Wall(one.r.X, one.r.PX, one.r.W, w.Wide, one.r.R)
			one.r.Y, one.r.PY = solve.Wall(one.r.Y, one.r.PY, one.r.H, w.High, one.r.R)
			l[id] = one
		}
	}
	return met, len(near) - len(met)
}

func contents(s api.Store) map[int]thing {
	l := map[int]thing{}
	for _, t := range s.Tables {
		for i, id := range t.Ids {
			l[id] = thing{t.Mask, t.Rows[i]}
		}
	}
	return l
}

// P5.3: chance worlds, step by step, held against the model; on the way things come to other places
// of their tables, which is to be seen in nothing else.
func TestStepAgainstModel(t *testing.T) {
	d := dice(5)
	times, apart := 0, 0
	for range 1500 {
		w := d.world(t)
		model := contents(w.Things)
		for range 12 {
			before := maps.Clone(model)
			want, not := modelStep(model, w)
			w.Things = d.mixed(w.Things)
			got, met, e := Step(w)
			if e != api.OK || !Good(got) || got.Things.Next != w.Things.Next || got.Fall != w.Fall || got.Wide != w.Wide || got.High != w.High {
				t.Fatalf("%+v: %+v, %d", w, got, e)
			}
			if !maps.Equal(contents(got.Things), model) || !slices.Equal(met, want) {
				t.Fatalf("%+v: %+v, %v, want %+v, %v", before, got, met, model, want)
			}
			w = got
			times, apart = times+len(met), apart+not
		}
	}
	if times < 10000 || apart < 100 {
		t.Errorf("%d pairs have met, %d were apart by then", times, apart)
	}
}

// roomy is a world whose lists have room behind them, marked; things fall there, meet, and are still.
func roomy() api.World {
	s := api.Store{
		Tables: []api.Table{
			{Mask: still, Ids: []int{4, 1}, Rows: []api.Row{ball(100, 50, 0, 0, 0, 0), ball(115, 50, 0, 0, 0, 0)}},
			{Mask: api.Parts, Ids: []int{3, 0}, Rows: []api.Row{ball(100, 75, 6, -20, 2, 128), ball(20, 20, -14, 3, 1, 0)}},
		},
		Next: 8,
	}
	for i := range s.Tables {
		t := &s.Tables[i]
		t.Ids = append(t.Ids, 77, 78)[:2]
		t.Rows = append(t.Rows, api.Row{X: 77}, api.Row{X: 78})[:2]
	}
	s.Tables = append(s.Tables, api.Table{Mask: 77}, api.Table{Mask: 78})[:2]
	return api.World{Things: s, Fall: -2, Wide: 1000, High: 1000}
}

// spread is the lists of roomy up to where their room was, when it was made, to be seen.
func spread(w api.World) []api.Table {
	l := slices.Clone(w.Things.Tables[:4])
	for i := range 2 {
		l[i].Ids, l[i].Rows = slices.Clone(l[i].Ids[:4]), slices.Clone(l[i].Rows[:4])
	}
	return l
}

// spoil writes over all that a world has.
func spoil(w api.World) {
	for i := range w.Things.Tables {
		t := &w.Things.Tables[i]
		for j := range t.Ids {
			t.Ids[j], t.Rows[j] = -5, api.Row{X: -5}
		}
		*t = api.Table{Mask: -5, Ids: append(t.Ids, -5), Rows: append(t.Rows, api.Row{X: -5})}
	}
	_ = append(w.Things.Tables, api.Table{Mask: -5})
}

// What is handed in is not changed, its spare room neither, nor by what is done to an answer.
func TestHandedInStays(t *testing.T) {
	for name, change := range map[string]func(w *api.World){
		"a good world":  func(w *api.World) {},
		"nothing moves": func(w *api.World) { w.Things.Tables = w.Things.Tables[:1] },
		"not good":      func(w *api.World) { w.Fall = 65 },
		"no good store": func(w *api.World) { w.Things.Next = 0 },
	} {
		w := roomy()
		change(&w)
		want := spread(w)
		got, met, e := Step(w)
		if (e == api.OK) != (len(met) > 0) {
			t.Errorf("%s: %v, %d", name, met, e)
		}
		if !reflect.DeepEqual(spread(w), want) {
			t.Errorf("%s: the world was changed: %+v", name, spread(w))
		}
		if spoil(got); !reflect.DeepEqual(spread(w), want) {
			t.Errorf("%s: the answer is the world's: %+v", name, spread(w))
		}
		Good(w)
		if Boxes(w.Things); !reflect.DeepEqual(spread(w), want) {
			t.Errorf("%s: the world was changed: %+v", name, spread(w))
		}
	}
}

// The document's third example: a thing comes to lie on one that is fixed.
func TestComesToLie(t *testing.T) {
	ground := thing{still, api.Row{X: 500, Y: 50, W: 400, H: 10}}
	w := api.World{Things: things(t, ground, thing{api.Parts, ball(500, 300, 0, 0, 3, 128)}), Fall: -2, Wide: 1000, High: 1000}
	met := 0
	for range 300 {
		var l []api.Pair
		w, l, _ = Step(w)
		met += len(l)
	}
	l := listed(w.Things)
	if met == 0 || l[0] != ground || l[1].r.X != 500 || l[1].r.Y < 69 || l[1].r.Y > 72 {
		t.Errorf("%d: %+v", met, l)
	}
}

// The document's fourth example: what is done again leads to the same again, number by number.
func TestAgain(t *testing.T) {
	d := dice(6)
	for range 50 {
		saved := d.world(t)
		var ends [2]api.World
		for k := range ends {
			w := saved
			for range 10 {
				w, _, _ = Step(w)
			}
			ends[k] = w
		}
		if !reflect.DeepEqual(ends[0], ends[1]) {
			t.Fatalf("%+v: %+v, %+v", saved, ends[0], ends[1])
		}
	}
}
