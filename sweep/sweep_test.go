package sweep

import (
	"math"
	"slices"
	"testing"

	"ninepins/api"
)

func box(id, x1, y1, x2, y2 int) api.Box {
	return api.Box{Id: id, X1: x1, Y1: y1, X2: x2, Y2: y2}
}

// sample has boxes that overlap, that touch at an edge and at a corner, and that lie within others.
func sample() []api.Box {
	return []api.Box{
		box(4, 0, 0, 10, 10),
		box(-2, 10, 0, 20, 10), // an edge in common with 4
		box(9, 10, 10, 20, 20), // a corner in common with 4, an edge with -2
		box(0, 5, 5, 12, 12),   // overlaps these three
		box(6, 1, 1, 2, 2),     // within 4
		box(3, -50, 19, 50, 30),
	}
}

func samplePairs() []api.Pair {
	return []api.Pair{{A: -2, B: 0}, {A: 0, B: 4}, {A: 0, B: 9}, {A: 3, B: 9}, {A: 4, B: 6}}
}

// badLists are sample with one thing wrong, at each place.
func badLists() map[string][]api.Box {
	lists := map[string][]api.Box{}
	spoil := func(name string, i int, change func(b *api.Box)) {
		l := sample()
		change(&l[i])
		lists[name+" at "+string(rune('0'+i))] = l
	}
	for i, b := range sample() {
		spoil("X1 is X2", i, func(b *api.Box) { b.X1 = b.X2 })
		spoil("Y1 is Y2", i, func(b *api.Box) { b.Y1 = b.Y2 })
		spoil("X1 above X2", i, func(b *api.Box) { b.X1 = b.X2 + 1 })
		spoil("Y1 above Y2", i, func(b *api.Box) { b.Y1 = b.Y2 + 1 })
		spoil("X turned round", i, func(b *api.Box) { b.X1, b.X2 = b.X2, b.X1 })
		spoil("Y turned round", i, func(b *api.Box) { b.Y1, b.Y2 = b.Y2, b.Y1 })
		spoil("X from end to end", i, func(b *api.Box) { b.X1, b.X2 = math.MaxInt, math.MinInt })
		spoil("Y from end to end", i, func(b *api.Box) { b.Y1, b.Y2 = math.MaxInt, math.MinInt })
		for j := range i {
			spoil("number as at "+string(rune('0'+j)), i, func(b *api.Box) { b.Id = sample()[j].Id })
		}
		lists["twice the box at "+string(rune('0'+i))] = append(sample(), b)
	}
	lists["one that is empty"] = []api.Box{{}}
	lists["a number twice, far apart"] = []api.Box{box(1, 0, 0, 1, 1), box(1, 90, 90, 91, 91)}
	lists["number 0 twice"] = []api.Box{box(0, 0, 0, 1, 1), box(0, 0, 0, 1, 1)}
	return lists
}

// below4 is all boxes whose numbers are from 0 to 3, good or not.
func below4() []api.Box {
	var l []api.Box
	for n := range 256 {
		l = append(l, box(n, n&3, n>>2&3, n>>4&3, n>>6&3))
	}
	return l
}

// cells is the places of a box, place by place, each a bit.
func cells(b api.Box) (set uint16) {
	for x := b.X1; x < b.X2; x++ {
		for y := b.Y1; y < b.Y2; y++ {
			set |= 1 << (4*x + y)
		}
	}
	return set
}

// P3.1: two boxes of which none is empty meet where they have a place in common.
func TestMeetIsAPlaceInCommon(t *testing.T) {
	for _, a := range below4() {
		for _, b := range below4() {
			if cells(a) == 0 || cells(b) == 0 {
				continue
			}
			if got, want := Meet(a, b), cells(a)&cells(b) != 0; got != want {
				t.Fatalf("Meet(%v, %v) = %v", a, b, got)
			}
		}
	}
}

// P3.1: the words hold of boxes that are empty or turned round, too.
func TestMeetAsItIsSaid(t *testing.T) {
	for _, c := range []struct {
		name string
		a, b api.Box
		want bool
	}{
		{"alike", box(1, 0, 0, 4, 4), box(2, 0, 0, 4, 4), true},
		{"with itself", box(1, 0, 0, 4, 4), box(1, 0, 0, 4, 4), true},
		{"within", box(1, 0, 0, 9, 9), box(2, 3, 3, 4, 4), true},
		{"crosswise", box(1, 0, 3, 9, 4), box(2, 3, 0, 4, 9), true},
		{"one place in common", box(1, 0, 0, 4, 4), box(2, 3, 3, 9, 9), true},
		{"an edge from the left", box(1, 0, 0, 4, 4), box(2, 4, 0, 9, 4), false},
		{"an edge from above", box(1, 0, 0, 4, 4), box(2, 0, 4, 4, 9), false},
		{"a corner", box(1, 0, 0, 4, 4), box(2, 4, 4, 9, 9), false},
		{"apart in X", box(1, 0, 0, 4, 4), box(2, 5, 0, 9, 4), false},
		{"apart in Y", box(1, 0, 0, 4, 4), box(2, 0, 5, 4, 9), false},
		{"an empty one inside", box(1, 0, 0, 4, 4), box(2, 2, 2, 2, 2), true},
		{"an empty one at the edge", box(1, 0, 0, 4, 4), box(2, 0, 2, 0, 2), false},
		{"an empty one, with itself", box(1, 2, 2, 2, 2), box(1, 2, 2, 2, 2), false},
		{"one that is turned round, inside", box(1, 0, 0, 4, 4), box(2, 3, 3, 1, 1), true},
		{"one that is turned round, about", box(1, 1, 1, 3, 3), box(2, 4, 4, 0, 0), false},
		{"all there is", box(1, math.MinInt, math.MinInt, math.MaxInt, math.MaxInt), box(2, 0, 0, 1, 1), true},
		{"all there is, twice", box(1, math.MinInt, math.MinInt, math.MaxInt, math.MaxInt),
			box(2, math.MinInt, math.MinInt, math.MaxInt, math.MaxInt), true},
		{"at both ends of X", box(1, math.MinInt, 0, math.MinInt+1, 1), box(2, math.MaxInt-1, 0, math.MaxInt, 1), false},
		{"at both ends of Y", box(1, 0, math.MinInt, 1, math.MinInt+1), box(2, 0, math.MaxInt-1, 1, math.MaxInt), false},
	} {
		if Meet(c.a, c.b) != c.want || Meet(c.b, c.a) != c.want {
			t.Errorf("%s: Meet(%v, %v) = %v, turned %v", c.name, c.a, c.b, Meet(c.a, c.b), Meet(c.b, c.a))
		}
	}
}

// P3.1: numbers are no part of it.
func TestMeetIsDeafToNumbers(t *testing.T) {
	for _, id := range []int{math.MinInt, -1, 0, 1, 7, math.MaxInt} {
		if !Meet(box(7, 0, 0, 4, 4), box(id, 3, 3, 5, 5)) || Meet(box(7, 0, 0, 4, 4), box(id, 4, 4, 5, 5)) {
			t.Errorf("number %d", id)
		}
	}
}

// P3.2
func TestGood(t *testing.T) {
	for name, l := range map[string][]api.Box{
		"nil":              nil,
		"none":             {},
		"sample":           sample(),
		"one, number 0":    {box(0, 0, 0, 1, 1)},
		"one, below 0":     {box(-1, -9, -9, -8, -8)},
		"alike but for Id": {box(1, 0, 0, 1, 1), box(2, 0, 0, 1, 1)},
		"the ends": {box(math.MinInt, math.MinInt, math.MinInt, math.MaxInt, math.MaxInt),
			box(math.MaxInt, math.MaxInt-1, math.MinInt, math.MaxInt, math.MinInt+1)},
	} {
		if !Good(l) {
			t.Errorf("%s: not good", name)
		}
	}
	for name, l := range badLists() {
		if Good(l) {
			t.Errorf("%s: good", name)
		}
	}
}

// P3.2: of all small boxes.
func TestGoodOfOne(t *testing.T) {
	for _, b := range below4() {
		if got, want := Good([]api.Box{b}), cells(b) != 0; got != want {
			t.Errorf("Good(%v) = %v", b, got)
		}
	}
}

// P3.2: a number that comes twice is found wherever it stands, in a list of many.
func TestGoodOfMany(t *testing.T) {
	for n := 2; n < 40; n++ {
		l := row(n)
		if !Good(l) {
			t.Fatalf("%d: not good", n)
		}
		for i := range n {
			l[i].Id = l[(i+n/2)%n].Id
			if Good(l) {
				t.Fatalf("%d, twice at %d: good", n, i)
			}
			l = row(n)
		}
	}
}

// row is boxes side by side, each upon a bit of the next one, the last numbers first.
func row(n int) []api.Box {
	var l []api.Box
	for i := range n {
		l = append(l, box(n-i, 10*i, i%3, 10*i+11, i%3+3))
	}
	return l
}

// P3.3
func TestPairs(t *testing.T) {
	ends := []api.Box{
		box(math.MaxInt, math.MinInt, math.MinInt, math.MaxInt, math.MaxInt),
		box(math.MinInt, math.MaxInt-1, math.MaxInt-1, math.MaxInt, math.MaxInt),
		box(0, math.MinInt, math.MinInt, math.MinInt+1, math.MinInt+1),
	}
	for _, c := range []struct {
		name string
		l    []api.Box
		want []api.Pair
	}{
		{"nil", nil, nil},
		{"none", []api.Box{}, nil},
		{"one", []api.Box{box(1, 0, 0, 4, 4)}, nil},
		{"two that touch", []api.Box{box(1, 0, 0, 4, 4), box(2, 4, 0, 8, 4)}, nil},
		{"two that meet", []api.Box{box(2, 0, 0, 4, 4), box(1, 3, 3, 8, 8)}, []api.Pair{{A: 1, B: 2}}},
		{"in one column, apart", []api.Box{box(2, 0, 0, 4, 4), box(1, 0, 4, 4, 8)}, nil},
		{"three alike", []api.Box{box(8, 0, 0, 4, 4), box(-8, 0, 0, 4, 4), box(0, 0, 0, 4, 4)},
			[]api.Pair{{A: -8, B: 0}, {A: -8, B: 8}, {A: 0, B: 8}}},
		{"a short one ahead of a long one's end", []api.Box{box(1, 0, 0, 100, 4), box(2, 1, 0, 2, 4), box(3, 50, 0, 51, 4), box(4, 99, 0, 200, 4)},
			[]api.Pair{{A: 1, B: 2}, {A: 1, B: 3}, {A: 1, B: 4}}},
		{"sample", sample(), samplePairs()},
		{"the ends", ends, []api.Pair{{A: math.MinInt, B: math.MaxInt}, {A: 0, B: math.MaxInt}}},
	} {
		if got := Pairs(c.l); !slices.Equal(got, c.want) {
			t.Errorf("%s: %v, not %v", c.name, got, c.want)
		}
	}
}

// P3.3: of boxes that are not good there are none, though others of them meet.
func TestPairsOfNotGood(t *testing.T) {
	for name, l := range badLists() {
		if got := Pairs(l); len(got) != 0 {
			t.Errorf("%s: %v", name, got)
		}
	}
}

// P3.3: in which order the boxes are handed in is not to be seen.
func TestPairsInEachOrder(t *testing.T) {
	eachOrder(sample(), func(l []api.Box) {
		if got := Pairs(l); !slices.Equal(got, samplePairs()) {
			t.Fatalf("Pairs(%v) = %v", l, got)
		}
	})
}

// P3.3: numbers and places so far apart that their difference is beyond 64 bits.
func TestPairsFarApart(t *testing.T) {
	places := []api.Box{box(1, math.MinInt, 0, 20, 1), box(2, 1, 0, 3, 1), box(3, 10, 0, 11, 1), box(4, 11, 0, math.MaxInt, 1)}
	numbers := []api.Box{
		box(math.MinInt, 3, 0, 4, 4), box(-1, 2, 0, 4, 4), box(1, 1, 0, 4, 4), box(math.MaxInt, 0, 0, 4, 4),
	}
	eachOrder(places, func(l []api.Box) {
		want := []api.Pair{{A: 1, B: 2}, {A: 1, B: 3}, {A: 1, B: 4}}
		if got := Pairs(l); !slices.Equal(got, want) {
			t.Fatalf("Pairs(%v) = %v", l, got)
		}
	})
	eachOrder(numbers, func(l []api.Box) {
		want := []api.Pair{
			{A: math.MinInt, B: -1}, {A: math.MinInt, B: 1}, {A: math.MinInt, B: math.MaxInt},
			{A: -1, B: 1}, {A: -1, B: math.MaxInt}, {A: 1, B: math.MaxInt},
		}
		if got := Pairs(l); !slices.Equal(got, want) {
			t.Fatalf("Pairs(%v) = %v", l, got)
		}
		if got := Look(l, l[0]); !slices.Equal(got, []int{math.MinInt, -1, 1, math.MaxInt}) {
			t.Fatalf("Look(%v, %v) = %v", l, l[0], got)
		}
	})
}

// eachOrder calls f with l in each of its orders.
func eachOrder(l []api.Box, f func(l []api.Box)) {
	var from func(i int)
	from = func(i int) {
		if i == len(l) {
			f(l)
			return
		}
		for j := i; j < len(l); j++ {
			l[i], l[j] = l[j], l[i]
			from(i + 1)
			l[i], l[j] = l[j], l[i]
		}
	}
	from(0)
}

// P3.3: a long row, each with the next one.
func TestPairsOfALongRow(t *testing.T) {
	const n = 50000
	got := Pairs(row(n))
	if len(got) != n-1 {
		t.Fatalf("%d pairs", len(got))
	}
	for i, p := range got {
		if p != (api.Pair{A: i + 1, B: i + 2}) {
			t.Fatalf("pair %d: %v", i, p)
		}
	}
}

// P3.4
func TestLook(t *testing.T) {
	for _, c := range []struct {
		name string
		b    api.Box
		want []int
	}{
		{"all", box(77, -50, -50, 50, 50), []int{-2, 0, 3, 4, 6, 9}},
		{"some, rising", box(77, 9, 9, 11, 11), []int{-2, 0, 4, 9}},
		{"none", box(77, 100, 100, 200, 200), nil},
		{"an edge in common", box(77, 20, 0, 30, 10), nil},
		{"a corner in common", box(77, 20, 30, 60, 40), nil},
		{"the number of one, elsewhere", box(4, 15, 15, 16, 16), []int{9}},
		{"one of them, itself", box(4, 0, 0, 10, 10), []int{0, 4, 6}},
		{"an empty one, inside", box(77, 5, 4, 5, 4), []int{4}},
		{"an empty one, at an edge", box(77, 0, 0, 0, 0), nil},
		{"one that is turned round", box(77, 8, 8, 6, 6), []int{0, 4}},
		{"all there is", box(77, math.MinInt, math.MinInt, math.MaxInt, math.MaxInt), []int{-2, 0, 3, 4, 6, 9}},
		{"all there is, turned round", box(77, math.MaxInt, math.MaxInt, math.MinInt, math.MinInt), nil},
		{"nothing but zeros", api.Box{}, nil},
	} {
		eachOrder(sample(), func(l []api.Box) {
			if got := Look(l, c.b); !slices.Equal(got, c.want) {
				t.Errorf("%s: Look(%v, %v) = %v, not %v", c.name, l, c.b, got, c.want)
			}
		})
	}
	if len(Look(nil, box(1, 0, 0, 9, 9))) != 0 || len(Look([]api.Box{}, box(1, 0, 0, 9, 9))) != 0 {
		t.Error("of no boxes some")
	}
}

// P3.4: of boxes that are not good there are none, though others of them meet the one.
func TestLookOfNotGood(t *testing.T) {
	for name, l := range badLists() {
		if got := Look(l, box(77, -100, -100, 100, 100)); len(got) != 0 {
			t.Errorf("%s: %v", name, got)
		}
	}
}

// dice answers numbers that look like thrown ones, the same at each run.
type dice uint64

func (d *dice) below(n int) int {
	*d = *d*6364136223846793005 + 1442695040888963407
	return int(uint64(*d)>>33) % n
}

// boxes is good boxes, n of them, the numbers mixed.
func (d *dice) boxes(n, wide, most int) []api.Box {
	var l []api.Box
	for i := range n {
		x, y := d.below(wide)-wide/2, d.below(wide)-wide/2
		l = append(l, box(3*i-n, x, y, x+1+d.below(most), y+1+d.below(most)))
	}
	for i := range n {
		j := i + d.below(n-i)
		l[i], l[j] = l[j], l[i]
	}
	return l
}

// allOfAll is the pairs as one finds them without a sweep: each number with each greater one.
func allOfAll(l []api.Box) []api.Pair {
	byId := slices.Clone(l)
	slices.SortFunc(byId, func(a, b api.Box) int { return a.Id - b.Id })
	var met []api.Pair
	for i, a := range byId {
		for _, b := range byId[i+1:] {
			if Meet(a, b) {
				met = append(met, api.Pair{A: a.Id, B: b.Id})
			}
		}
	}
	return met
}

// P3.3, P3.4: what comes of it is the same as asking all of all.
func TestAsAllOfAll(t *testing.T) {
	d := dice(3)
	for range 4000 {
		l := d.boxes(d.below(30), 1+d.below(60), 1+d.below(20))
		want := allOfAll(l)
		if got := Pairs(l); !slices.Equal(got, want) {
			t.Fatalf("Pairs(%v) = %v, not %v", l, got, want)
		}
		for _, b := range l {
			if got := Look(l, b); !slices.Equal(got, with(want, b.Id)) {
				t.Fatalf("Look(%v, %v) = %v of %v", l, b, got, want)
			}
		}
	}
}

// with is all that a number stands in a pair with, and itself, rising.
func with(l []api.Pair, id int) []int {
	ids := []int{id}
	for _, p := range l {
		switch id {
		case p.A:
			ids = append(ids, p.B)
		case p.B:
			ids = append(ids, p.A)
		}
	}
	slices.Sort(ids)
	return ids
}

// What holds everywhere: lists that are handed in are not changed, their spare room neither.
func TestListsStay(t *testing.T) {
	lists := badLists()
	lists["sample"] = sample()
	lists["a row"] = row(30)
	for name, l := range lists {
		room := append(slices.Clone(l), sample()...)
		was := slices.Clone(room)
		given := room[:len(l)]
		Good(given)
		Pairs(given)
		Look(given, box(77, 0, 0, 20, 20))
		if !slices.Equal(room, was) {
			t.Errorf("%s: %v, now %v", name, was, room)
		}
	}
}

// What holds everywhere: what a call answered is not another call's.
func TestAnswersAreNew(t *testing.T) {
	l, b := sample(), box(77, -50, -50, 50, 50)
	pairs, ids := Pairs(l), Look(l, b)
	clear(pairs[:cap(pairs)])
	clear(ids[:cap(ids)])
	if !slices.Equal(l, sample()) {
		t.Errorf("the boxes: %v", l)
	}
	if got := Pairs(l); !slices.Equal(got, samplePairs()) {
		t.Errorf("Pairs: %v", got)
	}
	if got := Look(l, b); !slices.Equal(got, []int{-2, 0, 3, 4, 6, 9}) {
		t.Errorf("Look: %v", got)
	}
}
