package game

import (
	"maps"
	"slices"
	"testing"

	"ninepins/api"
	"ninepins/store"
	"ninepins/world"
)

// dice are chance numbers that are the same in each run.
type dice uint64

func (d *dice) from(least, most int) int {
	*d = *d*6364136223846793005 + 1442695040888963407
	return least + int(uint64(*d)>>33)%(most-least+1)
}

// row is a chance one: nearly always one that a thing may have.
func (d *dice) row() api.Row {
	r := api.Row{
		X: d.from(-9, 120), Y: d.from(-9, 120), PX: d.from(-90, 90), PY: d.from(-90, 90),
		W: d.from(1, 30), H: d.from(1, 30), M: d.from(1, api.MaxMass), R: d.from(0, api.Unit),
	}
	if d.from(0, 9) == 0 {
		r.M, r.W, r.PX = 10, 0, most+1
	}
	return r
}

// act is a chance one, mostly one that may be done.
func (d *dice) act(p plain) api.Act {
	id := d.from(-1, p.next)
	if l := slices.Sorted(maps.Keys(p.things)); len(l) > 0 && d.from(0, 4) > 0 {
		id = l[d.from(0, len(l)-1)]
	}
	// More come than are killed, so that worlds are crowded.
	kind := [16]int{1, 1, 1, 1, 2, 3, 3, 4, 4, 5, 6, 6, 7, 8, 9, 9}[d.from(0, 15)]
	a := api.Act{Kind: kind, Id: id, Mask: 1 << d.from(0, 4), N: d.from(0, 3), Row: d.row()}
	x, y := d.from(0, 100), d.from(0, 100)
	a.Box = api.Box{X1: x, Y1: y, X2: x + d.from(-2, 60), Y2: y + d.from(-2, 60)}
	switch d.from(0, 30) {
	case 0:
		a.Kind = 0
	case 1:
		a.Mask = d.from(-1, 33)
	case 2:
		a.N = api.MaxSteps + d.from(0, 1)
	}
	if a.Kind == api.ActSpawn {
		a.Mask = [3]int{d.from(0, 32), rolls, api.Parts}[d.from(0, 2)]
		if d.from(0, 9) > 0 {
			a.Row = cut(a.Mask, a.Row)
		}
	}
	return a
}

// plain is a world without tables: what each number has, and the next one.
type plain struct {
	things map[int]thing
	next   int
}

func (p plain) copied() plain { return plain{maps.Clone(p.things), p.next} }

// store is the things of a plain world, in tables.
func (p plain) store() api.Store {
	s := api.Store{Next: p.next}
	for mask := 1; mask <= api.Parts; mask++ {
		t := api.Table{Mask: mask}
		for id := range p.next {
			if one := p.things[id]; one.mask == mask {
				t.Ids, t.Rows = append(t.Ids, id), append(t.Rows, one.r)
			}
		}
		if len(t.Ids) > 0 {
			s.Tables = append(s.Tables, t)
		}
	}
	return s
}

// model is a game by the words of the chapter, with plain worlds.
type model struct {
	now   plain
	saves []plain
	acts  int
}

func (m *model) do(a api.Act, w api.World) api.Reply {
	m.acts++
	if m.acts > 150 {
		return api.Reply{Code: api.ErrFull}
	}
	switch a.Kind {
	case 1:
		return m.spawn(a)
	case 2, 3, 4, 5:
		return api.Reply{Code: m.touch(a)}
	case 6:
		return m.step(a.N, w)
	case 7:
		if len(m.saves) == 3 {
			return api.Reply{Code: api.ErrFull}
		}
		m.saves = append(m.saves, m.now.copied())
		return api.Reply{N: len(m.saves) - 1}
	case 8:
		if a.N < 0 || a.N >= len(m.saves) {
			return api.Reply{Code: api.ErrNone}
		}
		m.now = m.saves[a.N].copied()
		return api.Reply{}
	case 9:
		return api.Reply{Ids: m.look(a.Box)}
	}
	return api.Reply{Code: api.ErrKind}
}

func (m *model) spawn(a api.Act) api.Reply {
	switch {
	case !store.GoodRow(a.Mask, a.Row):
		return api.Reply{Code: api.ErrRange}
	case len(m.now.things) == 10:
		return api.Reply{Code: api.ErrFull}
	}
	m.now.things[m.now.next] = thing{a.Mask, a.Row}
	m.now.next++
	return api.Reply{N: m.now.next - 1}
}

// touch is a kill, a gift, a take or a kick.
func (m *model) touch(a api.Act) api.Errno {
	one, ok := m.now.things[a.Id]
	if !ok {
		return api.ErrNone
	}
	part := slices.Contains([]int{1, 2, 4, 8, 16}, a.Mask)
	switch a.Kind {
	case 2:
		delete(m.now.things, a.Id)
		return api.OK
	case 3:
		if !part || one.mask&a.Mask != 0 {
			return api.ErrForm
		}
		one.r = mixed(a.Mask, a.Row, one.r)
		one.mask += a.Mask
	case 4:
		if !part || one.mask&a.Mask == 0 {
			return api.ErrForm
		}
		one.mask -= a.Mask
		one.r = cut(one.mask, one.r)
	case 5:
		if one.mask&2 == 0 {
			return api.ErrForm
		}
		one.r.PX = max(-most, min(most, one.r.PX+max(-most, min(most, a.Row.PX))))
		one.r.PY = max(-most, min(most, one.r.PY+max(-most, min(most, a.Row.PY))))
	}
	if !store.GoodRow(one.mask, one.r) {
		return api.ErrRange
	}
	m.now.things[a.Id] = one
	return api.OK
}

func (m *model) step(n int, w api.World) api.Reply {
	if n < 1 || n > 8 {
		return api.Reply{Code: api.ErrRange}
	}
	var reply api.Reply
	for ; n > 0; n-- {
		w.Things = m.now.store()
		next, met, _ := world.Step(w)
		for id, one := range contents(next) {
			if one.mask != 0 {
				m.now.things[id] = one
			}
		}
		reply.Met = append(reply.Met, met...)
		reply.N += len(met)
	}
	return reply
}

func (m *model) look(b api.Box) []int {
	var ids []int
	for id := range m.now.next {
		r := m.now.things[id].r
		if m.now.things[id].mask&5 == 5 && r.X-r.W < b.X2 && b.X1 < r.X+r.W && r.Y-r.H < b.Y2 && b.Y1 < r.Y+r.H {
			ids = append(ids, id)
		}
	}
	return ids
}

// P6.2 to P6.6: long runs of chance acts, held against the model; and run again at once.
func TestLongRuns(t *testing.T) {
	d := dice(6)
	codes, met, seen := map[[2]int]int{}, 0, 0
	for range 300 {
		w := api.World{Wide: d.from(60, 200), High: d.from(60, 200), Fall: d.from(-api.MaxFall, api.MaxFall)}
		g, e := New(w.Wide, w.High, w.Fall)
		if e != api.OK {
			t.Fatal(e)
		}
		m := model{now: plain{things: map[int]thing{}}}
		var acts []api.Act
		var replies []api.Reply
		for range 155 {
			a := d.act(m.now)
			got, wanted := g.Do(a), m.do(a, w)
			is := g.World()
			if !same(got, wanted) || !world.Good(is) || is.Things.Next != m.now.next || !maps.Equal(listed(is), m.now.things) ||
				is.Wide != w.Wide || is.High != w.High || is.Fall != w.Fall {
				t.Fatalf("act %d, %+v: %+v, %+v, want %+v, %+v", len(acts), a, got, is, wanted, m.now)
			}
			acts, replies = append(acts, a), append(replies, got)
			codes[[2]int{a.Kind, int(got.Code)}]++
			met, seen = met+len(got.Met), seen+len(got.Ids)
		}
		if got, e := Run(w.Wide, w.High, w.Fall, acts[:150]); e != api.OK || !slices.EqualFunc(got, replies[:150], same) {
			t.Fatalf("%+v, %d, want %+v", got, e, replies)
		}
	}
	// All that may come of each kind of act has come of it, so that the runs tell something.
	for kind, l := range [10][]api.Errno{
		{api.ErrKind}, {0, api.ErrRange, api.ErrFull}, {0, api.ErrNone}, {0, api.ErrNone, api.ErrForm, api.ErrRange}, {0, api.ErrNone, api.ErrForm, api.ErrRange},
		{0, api.ErrNone, api.ErrForm}, {0, api.ErrRange}, {0, api.ErrFull}, {0, api.ErrNone}, {0},
	} {
		for _, e := range l {
			if codes[[2]int{kind, int(e)}] < 20 {
				t.Errorf("kind %d, code %d: %d times", kind, e, codes[[2]int{kind, int(e)}])
			}
		}
	}
	if met < 1000 || seen < 1000 {
		t.Errorf("met %d, seen %d", met, seen)
	}
}

// listed is what a world has of each number that is not free.
func listed(w api.World) map[int]thing {
	l := map[int]thing{}
	for id, one := range contents(w) {
		if one.mask != 0 {
			l[id] = one
		}
	}
	return l
}
