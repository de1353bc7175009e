package store

import (
	"maps"
	"reflect"
	"slices"
	"testing"

	"ninepins/api"
)

// dice answers numbers that look like thrown ones, the same at each run.
type dice uint64

func (d *dice) below(n int) int {
	*d = *d*6364136223846793005 + 1442695040888963407
	return int(uint64(*d)>>33) % n
}

// row is a row of a mask that is good nearly always.
func (d *dice) row(mask int) api.Row {
	r := api.Row{
		X: d.below(100) - 50, Y: d.below(100) - 50, PX: d.below(100) - 50, PY: d.below(100) - 50,
		W: d.below(20) + 1, H: d.below(20) + 1, M: d.below(10) + 1, R: d.below(257),
	}
	for _, f := range fields() {
		if mask&f.part == 0 {
			*f.of(&r) = 0
		}
	}
	return r
}

// plain is a store without tables: what each number has, and the next one.
type plain struct {
	things map[int]thing
	next   int
}

func (p *plain) spawn(mask int, r api.Row) api.Errno {
	switch {
	case !GoodRow(mask, r):
		return api.ErrRange
	case len(p.things) == 10:
		return api.ErrFull
	}
	p.things[p.next] = thing{mask, r}
	p.next++
	return api.OK
}

func (p *plain) kill(id int) api.Errno {
	if _, ok := p.things[id]; !ok {
		return api.ErrNone
	}
	delete(p.things, id)
	return api.OK
}

func (p *plain) set(id int, r api.Row) api.Errno {
	was, ok := p.things[id]
	if !ok {
		return api.ErrNone
	}
	if !GoodRow(was.mask, r) {
		return api.ErrRange
	}
	p.things[id] = thing{was.mask, r}
	return api.OK
}

func (p *plain) change(id, mask int, r api.Row) api.Errno {
	was, ok := p.things[id]
	if !ok {
		return api.ErrNone
	}
	for _, f := range fields() {
		if was.mask&f.part != 0 {
			*f.of(&r) = *f.of(&was.r)
		}
		if mask&f.part == 0 {
			*f.of(&r) = 0
		}
	}
	if !GoodRow(mask, r) {
		return api.ErrRange
	}
	p.things[id] = thing{mask, r}
	return api.OK
}

// P2.4, P2.5 and P2.6: a long run of calls, held against a store without tables.
func TestLongRun(t *testing.T) {
	d := dice(9)
	for range 20 {
		var s api.Store
		p := plain{things: map[int]thing{}}
		for range 500 {
			was := deep(s)
			got, e, want := both(&d, s, &p)
			if !reflect.DeepEqual(s, was) {
				t.Fatalf("%+v was changed to %+v", was, s)
			}
			s = got
			if e != want || !Good(s) || s.Next != p.next || !maps.Equal(contents(s), p.things) {
				t.Fatalf("%+v, %d, want %+v, %d", s, e, p, want)
			}
			asks(t, s, p, d.below(32))
		}
	}
}

// both does one call that the dice choose to a store and to the plain one.
func both(d *dice, s api.Store, p *plain) (api.Store, api.Errno, api.Errno) {
	id, mask := d.below(p.next+2)-1, d.below(33)
	if l := slices.Sorted(maps.Keys(p.things)); len(l) > 0 && d.below(4) > 0 {
		id = l[d.below(len(l))]
	}
	r := d.row(mask)
	switch d.below(5) {
	case 0, 1:
		got, _, e := Spawn(s, mask, r)
		return got, e, p.spawn(mask, r)
	case 2:
		got, e := Kill(s, id)
		return got, e, p.kill(id)
	case 3:
		r = d.row(p.things[id].mask)
		got, e := Set(s, id, r)
		return got, e, p.set(id, r)
	}
	got, e := Change(s, id, mask, r)
	return got, e, p.change(id, mask, r)
}

// asks holds what is asked of a store against the plain one.
func asks(t *testing.T, s api.Store, p plain, mask int) {
	var want []int
	for id := range p.next {
		has, ok := p.things[id]
		if m, r, found := Get(s, id); found != ok || m != has.mask || r != has.r {
			t.Fatalf("Get %d: %d, %+v, %v, want %+v", id, m, r, found, has)
		}
		if ok && has.mask&mask == mask {
			want = append(want, id)
		}
	}
	if got := Query(s, mask); !slices.Equal(got, want) {
		t.Fatalf("Query %d: %v, want %v", mask, got, want)
	}
	if Size(s) != len(p.things) {
		t.Fatalf("Size %d, want %d", Size(s), len(p.things))
	}
}

// deep is a copy made without the package's own.
func deep(s api.Store) api.Store {
	c := api.Store{Next: s.Next}
	for _, t := range s.Tables {
		c.Tables = append(c.Tables, api.Table{
			Mask: t.Mask, Ids: append([]int(nil), t.Ids...), Rows: append([]api.Row(nil), t.Rows...),
		})
	}
	if s.Tables != nil && c.Tables == nil {
		c.Tables = []api.Table{}
	}
	return c
}

// roomy is the sample with room behind each of its lists, marked.
func roomy() api.Store {
	s := sample()
	for i := range s.Tables {
		t := &s.Tables[i]
		n := len(t.Ids)
		t.Ids = append(t.Ids, 77, 78)[:n]
		t.Rows = append(t.Rows, api.Row{X: 77}, api.Row{X: 78})[:n]
	}
	s.Tables = append(s.Tables, api.Table{Mask: 77}, api.Table{Mask: 78})[:3]
	return s
}

// spread is a store with its lists up to where their room was, when it was made, to be seen.
func spread(s api.Store) api.Store {
	s = api.Store{Tables: slices.Clone(s.Tables[:5]), Next: s.Next}
	for i := range 3 {
		t := &s.Tables[i]
		n := len(t.Ids) + 2
		t.Ids, t.Rows = slices.Clone(t.Ids[:n]), slices.Clone(t.Rows[:n])
	}
	return s
}

// calls are all calls that answer a store, to a good end and to an error.
func calls() map[string]func(s api.Store) api.Store {
	first := func(s api.Store, _ api.Errno) api.Store { return s }
	spawn := func(s api.Store, mask int, r api.Row) api.Store {
		got, _, _ := Spawn(s, mask, r)
		return got
	}
	return map[string]func(s api.Store) api.Store{
		"Clone":                Clone,
		"Spawn, an old table":  func(s api.Store) api.Store { return spawn(s, 1, api.Row{}) },
		"Spawn, a new table":   func(s api.Store) api.Store { return spawn(s, 2, api.Row{}) },
		"Spawn, last table":    func(s api.Store) api.Store { return spawn(s, 31, full) },
		"Spawn, ErrRange":      func(s api.Store) api.Store { return spawn(s, 0, api.Row{}) },
		"Kill, of two":         func(s api.Store) api.Store { return first(Kill(s, 5)) },
		"Kill, of one":         func(s api.Store) api.Store { return first(Kill(s, 2)) },
		"Kill, ErrNone":        func(s api.Store) api.Store { return first(Kill(s, 3)) },
		"Set":                  func(s api.Store) api.Store { return first(Set(s, 4, api.Row{X: 99})) },
		"Set, ErrNone":         func(s api.Store) api.Store { return first(Set(s, 3, api.Row{})) },
		"Set, ErrRange":        func(s api.Store) api.Store { return first(Set(s, 4, api.Row{M: 1})) },
		"Change, an old table": func(s api.Store) api.Store { return first(Change(s, 5, 3, full)) },
		"Change, a new table":  func(s api.Store) api.Store { return first(Change(s, 2, 16, full)) },
		"Change, its own":      func(s api.Store) api.Store { return first(Change(s, 5, 1, full)) },
		"Change, ErrNone":      func(s api.Store) api.Store { return first(Change(s, 3, 1, full)) },
		"Change, ErrRange":     func(s api.Store) api.Store { return first(Change(s, 5, 0, full)) },
	}
}

// What is handed in is not changed, its spare room neither, nor by what is done to an answer.
func TestHandedInStays(t *testing.T) {
	want := spread(roomy())
	for name, call := range calls() {
		s := roomy()
		got := call(s)
		if !reflect.DeepEqual(spread(s), want) {
			t.Errorf("%s: the store was changed: %+v", name, spread(s))
		}
		for i := range got.Tables {
			table := &got.Tables[i]
			for j := range table.Ids {
				table.Ids[j], table.Rows[j] = -5, api.Row{X: -5}
			}
			*table = api.Table{Mask: -5, Ids: append(table.Ids, -5), Rows: append(table.Rows, api.Row{X: -5})}
		}
		if !reflect.DeepEqual(spread(s), want) {
			t.Errorf("%s: the answer is the store's: %+v", name, spread(s))
		}
	}
	s := roomy()
	for _, mask := range []int{0, 1, 3, 31} {
		l := Query(s, mask)
		for i := range l {
			l[i] = -5
		}
		_ = append(l, -5)
		if !reflect.DeepEqual(spread(s), want) {
			t.Errorf("Query %d: the store was changed: %+v", mask, spread(s))
		}
	}
}

// Clone: the same, whatever it is, and in memory of its own.
func TestClone(t *testing.T) {
	l := bads()
	l["nothing"], l["no tables"] = api.Store{}, api.Store{Tables: []api.Table{}, Next: 5}
	for name, s := range l {
		if got := Clone(s); !reflect.DeepEqual(got, s) {
			t.Errorf("%s: %+v, want %+v", name, got, s)
		}
	}
}
