package game

import (
	"math"
	"reflect"
	"slices"
	"testing"

	"ninepins/api"
	"ninepins/world"
)

const (
	still = api.Place | api.Shape                       // it does not move
	rolls = api.Place | api.Push | api.Shape | api.Mass // it moves, and does not fall
	most  = api.MaxPush
)

// full has each part, each with numbers that differ from all others.
var full = api.Row{X: 101, Y: 102, PX: 30, PY: 40, W: 5, H: 6, M: 7, R: 8}

// other has each part, too, and no number in common with full.
var other = api.Row{X: 201, Y: 202, PX: 50, PY: 60, W: 15, H: 16, M: 3, R: 18}

// wild has no number that a thing may have.
var wild = api.Row{X: math.MaxInt, Y: math.MinInt, PX: 1 << 60, PY: -1 << 60, W: 0, H: -1, M: 10, R: 257}

// thing is what a world has of a number.
type thing struct {
	mask int
	r    api.Row
}

// cut is a row with 0 in all that does not belong to a mask's parts.
func cut(mask int, r api.Row) api.Row {
	if mask&1 == 0 {
		r.X, r.Y = 0, 0
	}
	if mask&2 == 0 {
		r.PX, r.PY = 0, 0
	}
	if mask&4 == 0 {
		r.W, r.H = 0, 0
	}
	if mask&8 == 0 {
		r.M, r.R = 0, 0
	}
	return r
}

// ball is one of 20 by 20, all of whose push comes back.
func ball(x, px int) api.Row {
	return api.Row{X: x, Y: 500, PX: px, W: 10, H: 10, M: 1, R: api.Unit}
}

// begin is a new game of 1000 by 1000 with some things in it.
func begin(t *testing.T, l ...thing) *Game {
	t.Helper()
	g, e := New(1000, 1000, -2)
	if e != api.OK || g == nil {
		t.Fatalf("%+v, %d", g, e)
	}
	for i, one := range l {
		want(t, g, api.Act{Kind: api.ActSpawn, Mask: one.mask, Row: one.r}, api.Reply{N: i})
	}
	return g
}

// same is whether two replies are alike; a list without elements may be nil or not.
func same(a, b api.Reply) bool {
	return a.Code == b.Code && a.N == b.N && slices.Equal(a.Ids, b.Ids) && slices.Equal(a.Met, b.Met)
}

// want holds a whole reply against the one that is wanted.
func want(t *testing.T, g *Game, a api.Act, r api.Reply) {
	t.Helper()
	if got := g.Do(a); !same(got, r) {
		t.Fatalf("%+v: %+v, want %+v", a, got, r)
	}
}

// refuses is want of an error, with which the world stays as it was.
func refuses(t *testing.T, g *Game, a api.Act, e api.Errno) {
	t.Helper()
	was := g.World()
	want(t, g, a, api.Reply{Code: e})
	if is := g.World(); !reflect.DeepEqual(is, was) {
		t.Fatalf("%+v: %+v, and was %+v", a, is, was)
	}
}

// contents is what a world has, by number; the numbers that are free have mask 0.
func contents(w api.World) []thing {
	l := make([]thing, w.Things.Next)
	for _, t := range w.Things.Tables {
		for i, id := range t.Ids {
			l[id] = thing{t.Mask, t.Rows[i]}
		}
	}
	return l
}

// holds holds the things of a game against those that are wanted, from number 0 to below Next.
func holds(t *testing.T, g *Game, l ...thing) {
	t.Helper()
	w := g.World()
	if got := contents(w); !slices.Equal(got, l) || !world.Good(w) {
		t.Fatalf("%+v, want %+v", got, l)
	}
}

// alike is whether two worlds have the same things and numbers.
func alike(a, b api.World) bool {
	return slices.Equal(contents(a), contents(b)) && a.Fall == b.Fall && a.Wide == b.Wide && a.High == b.High
}

// P6.1
func TestNew(t *testing.T) {
	for _, fall := range []int{-64, -63, 0, 63, 64} {
		for _, wide := range []int{1, 2, 1000, 1<<20 - 1, 1 << 20} {
			for _, high := range []int{1, 3, 1001, 1<<20 - 1, 1 << 20} {
				g, e := New(wide, high, fall)
				if e != api.OK || g == nil {
					t.Fatalf("%d, %d, %d: %d", wide, high, fall, e)
				}
				w := g.World()
				if w.Wide != wide || w.High != high || w.Fall != fall || w.Things.Next != 0 || len(w.Things.Tables) != 0 {
					t.Errorf("%d, %d, %d: %+v", wide, high, fall, w)
				}
			}
		}
	}
}

// wrongWorlds are numbers of which there is no new game: how wide, how high, how it falls.
func wrongWorlds() [][3]int {
	l := [][3]int{{0, 0, 65}}
	for _, n := range []int{math.MinInt, -1, 0, 1<<20 + 1, math.MaxInt} {
		l = append(l, [3]int{n, 1, 0}, [3]int{1, n, 0})
	}
	for _, n := range []int{math.MinInt, -65, 65, math.MaxInt} {
		l = append(l, [3]int{1, 1, n})
	}
	return l
}

// P6.1
func TestNewRefuses(t *testing.T) {
	for _, n := range wrongWorlds() {
		if g, e := New(n[0], n[1], n[2]); e != api.ErrRange || g != nil {
			t.Errorf("%v: %+v, %d", n, g, e)
		}
	}
}

// P6.1: a nil game has nothing, and it does not become full.
func TestNilGame(t *testing.T) {
	var g *Game
	for range 20 {
		for kind := -1; kind <= 11; kind++ {
			a := api.Act{Kind: kind, N: 1, Mask: 1, Box: api.Box{X2: 9, Y2: 9}}
			if r := g.Do(a); !same(r, api.Reply{Code: api.ErrNone}) {
				t.Fatalf("%+v: %+v", a, r)
			}
		}
	}
	if w := g.World(); !reflect.DeepEqual(w, api.World{}) {
		t.Errorf("%+v", w)
	}
}

// Every call answers: of a game that was not made by New, too.
func TestEmptyGame(t *testing.T) {
	g := &Game{}
	for range 2 {
		for kind := -1; kind <= 11; kind++ {
			g.Do(api.Act{Kind: kind, N: 1, Mask: 1})
			g.World()
		}
	}
}

// P6.2
func TestKinds(t *testing.T) {
	g := begin(t, thing{api.Parts, full})
	for _, kind := range []int{math.MinInt, -9, -1, 0, 10, 11, 256 + 1, 1<<32 + 1, math.MaxInt} {
		refuses(t, g, api.Act{Kind: kind, N: 1, Mask: 1}, api.ErrKind)
		refuses(t, g, api.Act{Kind: kind, Id: 7, N: -1, Mask: 77}, api.ErrKind)
	}
}

// P6.2: each act counts, whatever its reply was; behind the last one all are refused, whatever they are.
func TestActsEnd(t *testing.T) {
	for name, a := range map[string]api.Act{
		"no kind": {}, "a look": {Kind: api.ActLook}, "a step": {Kind: api.ActStep, N: 1}, "no step": {Kind: api.ActStep},
		"a spawn": {Kind: api.ActSpawn, Mask: 1}, "no spawn": {Kind: api.ActSpawn}, "a kill": {Kind: api.ActKill},
		"a gift": {Kind: api.ActGive, Mask: 16}, "a take": {Kind: api.ActTake, Mask: 2}, "no take": {Kind: api.ActTake},
		"a kick": {Kind: api.ActKick}, "a save": {Kind: api.ActSave}, "a load": {Kind: api.ActLoad}, "no load": {Kind: api.ActLoad, N: -1},
	} {
		g := begin(t, thing{rolls, ball(100, 4)})
		want(t, g, api.Act{Kind: api.ActSave}, api.Reply{})
		for i := range 148 {
			if r := g.Do(a); r.Code == api.ErrFull && a.Kind != api.ActSpawn && a.Kind != api.ActSave || r.Code == api.ErrKind && a.Kind != 0 {
				t.Fatalf("%s: act %d: %+v", name, i+2, r)
			}
		}
		for kind := -1; kind <= 11; kind++ {
			refuses(t, g, api.Act{Kind: kind, N: 1, Mask: 1, Box: api.Box{X2: 1000, Y2: 1000}}, api.ErrFull)
			refuses(t, g, api.Act{Kind: kind, Id: -1, N: -1}, api.ErrFull)
		}
	}
}

// P6.2: the last act that may be done is done.
func TestLastAct(t *testing.T) {
	g := begin(t)
	for range 149 {
		refuses(t, g, api.Act{}, api.ErrKind)
	}
	want(t, g, api.Act{Kind: api.ActSpawn, Mask: 1, Row: api.Row{X: 3}}, api.Reply{})
	refuses(t, g, api.Act{Kind: api.ActSpawn, Mask: 1, Row: api.Row{X: 3}}, api.ErrFull)
	holds(t, g, thing{1, api.Row{X: 3}})
}

// P6.2
func TestSpawn(t *testing.T) {
	for mask := 1; mask <= api.Parts; mask++ {
		has := thing{mask, cut(mask, full)}
		g := begin(t, thing{api.Falls, api.Row{}}, has)
		holds(t, g, thing{api.Falls, api.Row{}}, has)
		if mask != api.Parts && mask != api.Parts&^api.Falls {
			refuses(t, g, api.Act{Kind: api.ActSpawn, Mask: mask, Row: full}, api.ErrRange)
		}
		if mask != api.Falls {
			refuses(t, g, api.Act{Kind: api.ActSpawn, Mask: mask, Row: cut(mask, wild)}, api.ErrRange)
		}
		// A number that is refused is none: the next one is as it was.
		want(t, g, api.Act{Kind: api.ActSpawn, Mask: mask, Row: has.r, Id: 77, N: 78}, api.Reply{N: 2})
	}
	g := begin(t)
	for _, mask := range []int{math.MinInt, -1, 0, 32, 33, math.MaxInt} {
		refuses(t, g, api.Act{Kind: api.ActSpawn, Mask: mask}, api.ErrRange)
		refuses(t, g, api.Act{Kind: api.ActSpawn, Mask: mask, Row: full}, api.ErrRange)
	}
}

// P6.2: no more than MaxThings; a row that is no good one is told ahead of that; no number comes again.
func TestSpawnFull(t *testing.T) {
	g := begin(t)
	for i := range 10 {
		want(t, g, api.Act{Kind: api.ActSpawn, Mask: 1, Row: api.Row{X: i}}, api.Reply{N: i})
	}
	refuses(t, g, api.Act{Kind: api.ActSpawn, Mask: 1}, api.ErrFull)
	refuses(t, g, api.Act{Kind: api.ActSpawn, Mask: 0}, api.ErrRange)
	for n := 10; n < 15; n++ {
		want(t, g, api.Act{Kind: api.ActKill, Id: n - 1}, api.Reply{})
		want(t, g, api.Act{Kind: api.ActSpawn, Mask: 1, Row: api.Row{X: n}}, api.Reply{N: n})
		refuses(t, g, api.Act{Kind: api.ActSpawn, Mask: 1}, api.ErrFull)
	}
}

// P6.2
func TestKill(t *testing.T) {
	l := []thing{{1, cut(1, full)}, {1, cut(1, other)}, {1, api.Row{}}, {api.Parts, full}}
	for id := range l {
		g := begin(t, l...)
		left := slices.Clone(l)
		left[id] = thing{}
		want(t, g, api.Act{Kind: api.ActKill, Id: id, N: 5, Mask: 77, Row: wild}, api.Reply{})
		holds(t, g, left...)
		refuses(t, g, api.Act{Kind: api.ActKill, Id: id}, api.ErrNone)
	}
}

// P6.2: a thing that is none is told ahead of all that is wrong beside it.
func TestNobody(t *testing.T) {
	for _, id := range []int{math.MinInt, -1, 1, 3, 4, 1 << 20, math.MaxInt} {
		g := begin(t, thing{1, api.Row{}}, thing{1, api.Row{X: 1}}, thing{api.Parts, full})
		want(t, g, api.Act{Kind: api.ActKill, Id: 1}, api.Reply{})
		for _, kind := range []int{api.ActKill, api.ActGive, api.ActTake, api.ActKick} {
			for _, mask := range []int{-1, 0, 1, 2, 3, 16, 32} {
				refuses(t, g, api.Act{Kind: kind, Id: id, Mask: mask}, api.ErrNone)
				refuses(t, g, api.Act{Kind: kind, Id: id, Mask: mask, Row: wild}, api.ErrNone)
			}
		}
	}
}
