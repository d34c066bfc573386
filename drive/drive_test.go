package drive

import (
	"math"
	"slices"
	"testing"

	"sprocket/act"
	"sprocket/api"
	"sprocket/arena"
)

const top = math.MaxUint64

// row: a routine that has these acts, one behind the other, and keeps what it was told.
type row struct {
	l   []api.Act
	got []uint64
	// late: how often Take came where there was no act.
	late int
}

func (x *row) Act() (api.Act, bool) {
	if len(x.got) >= len(x.l) {
		return api.Act{}, false
	}
	return x.l[len(x.got)], true
}

func (x *row) Take(got uint64) {
	if len(x.got) >= len(x.l) {
		x.late++
		return
	}
	x.got = append(x.got, got)
}

// counter: a routine that adds 1 to a cell by Load and Cas, so often, and again where another one was there meanwhile.
type counter struct {
	block        uint64
	times, tries int
	was          uint64
	loaded       bool
}

func (x *counter) Act() (api.Act, bool) {
	if x.times == 0 {
		return api.Act{}, false
	}
	if !x.loaded {
		return api.Act{Kind: api.Load, Block: x.block}, true
	}
	return api.Act{Kind: api.Cas, Block: x.block, Old: x.was, New: x.was + 1}, true
}

func (x *counter) Take(got uint64) {
	if !x.loaded {
		x.was, x.loaded, x.tries = got, true, x.tries+1
		return
	}
	x.loaded = false
	if got == x.was {
		x.times--
	}
}

// walker: a routine whose next act hangs on all that it was answered.
type walker []uint64

func (x *walker) Act() (api.Act, bool) {
	if len(*x) == 40 {
		return api.Act{}, false
	}
	h := uint64(len(*x))
	for _, w := range *x {
		h = h*31 + w + 1
	}
	return api.Act{Kind: api.Add, Block: 1 + h%2, Cell: int(h / 2 % 3), New: h%7 + 1}, true
}

func (x *walker) Take(got uint64) { *x = append(*x, got) }

// endless: a routine that never ends, as a number, so that it is no pointer.
type endless int

func (x endless) Act() (api.Act, bool) {
	return api.Act{Kind: api.Add, Block: 1, Cell: int(x), New: 1}, true
}
func (x endless) Take(got uint64) {}

// stubborn: a routine that tells an act beside false.
type stubborn struct{ took int }

func (x *stubborn) Act() (api.Act, bool) { return api.Act{Kind: api.Alloc, Cell: 1}, false }
func (x *stubborn) Take(got uint64)      { x.took++ }

// broken: a routine whose methods panic: Act from its many-th act on, Take always.
type broken struct{ many, asked int }

func (x *broken) Act() (api.Act, bool) {
	if x.asked == x.many {
		panic("act")
	}
	x.asked++
	return api.Act{Kind: api.Add, Block: 1, New: 1}, true
}
func (x *broken) Take(got uint64) { panic("take") }

// told: an act, and what was told with it.
type told struct {
	x   api.Act
	got uint64
}

func allSteps(a *arena.Arena, r api.Routine) []told {
	var out []told
	for x, got := range Steps(a, r) {
		out = append(out, told{x, got})
	}
	return out
}

// doAll: what the acts come to one behind the other, without a routine.
func doAll(a *arena.Arena, l []api.Act) []told {
	var out []told
	for _, x := range l {
		out = append(out, told{x, act.Do(a, x)})
	}
	return out
}

// image: all that can be told of an arena.
type image struct {
	used, faults int
	blocks       []uint64
	words        []uint64
}

func imageOf(a *arena.Arena) image {
	out := image{used: a.Used(), faults: a.Faults(), blocks: a.Blocks()}
	for _, b := range out.blocks {
		for i := range a.Size(b) {
			w, _ := a.Load(b, i)
			out.words = append(out.words, w)
		}
	}
	return out
}

func holdImage(t *testing.T, a, b *arena.Arena) {
	t.Helper()
	p, q := imageOf(a), imageOf(b)
	if p.used != q.used || p.faults != q.faults || !slices.Equal(p.blocks, q.blocks) || !slices.Equal(p.words, q.words) {
		t.Errorf("arena: %+v, not %+v", p, q)
	}
}

func holdTold(t *testing.T, got, want []told) {
	t.Helper()
	if !slices.Equal(got, want) {
		t.Errorf("told %+v, not %+v", got, want)
	}
}

func holdSteps(t *testing.T, got, want []Step) {
	t.Helper()
	if !slices.Equal(got, want) {
		t.Errorf("steps %+v, not %+v", got, want)
	}
}

func holdAlone(t *testing.T, a *arena.Arena, r api.Routine, most, n int, end bool) {
	t.Helper()
	if m, e := Alone(a, r, most); m != n || e != end {
		t.Errorf("Alone(%d): %d, %v, not %d, %v", most, m, e, n, end)
	}
}

// holdRow: just these many of its acts were taken, with these answers, and nothing behind its end.
func holdRow(t *testing.T, x *row, want ...uint64) {
	t.Helper()
	if !slices.Equal(x.got, want) || x.late != 0 {
		t.Errorf("taken %v (%d late), not %v", x.got, x.late, want)
	}
}

// three: acts of which the answers are 1, 0 and 5 on a new arena.
func three() []api.Act {
	return []api.Act{{Kind: api.Alloc, Cell: 2}, {Kind: api.Add, Block: 1, Cell: 1, New: 5}, {Kind: api.Load, Block: 1, Cell: 1}}
}

// mixed: acts of all kinds, some that may not be, and some that are faults, with what a new arena of 9 cells answers to each.
func mixed() ([]api.Act, []uint64) {
	rows := []told{
		{api.Act{}, 0},
		{api.Act{Kind: api.Alloc, Cell: 3}, 1},
		{api.Act{Kind: api.Store, Block: 1, Cell: 2, New: top}, 0},
		{api.Act{Kind: api.Add, Block: 1, Cell: 2, New: 8}, top},
		{api.Act{Kind: api.Load, Block: 1, Cell: 2}, 7},
		{api.Act{Kind: api.Cas, Block: 1, Cell: 2, Old: 6, New: 9}, 7},
		{api.Act{Kind: api.Cas, Block: 1, Cell: 2, Old: 7, New: 10}, 7},
		{api.Act{Kind: api.Load, Block: 1, Cell: 2, New: 1}, 0}, // may not be
		{api.Act{Kind: -1}, 0},
		{api.Act{Kind: 7, Block: 1}, 0},
		{api.Act{Kind: math.MinInt, Block: 1}, 0},
		{api.Act{Kind: api.Alloc}, 0},
		{api.Act{Kind: api.Alloc, Cell: math.MinInt}, 0},
		{api.Act{Kind: api.Store, Block: 1, Cell: -1, New: 4}, 0},
		{api.Act{Kind: api.Free, Block: 1, Cell: 1}, 0},
		{api.Act{Block: 1}, 0},
		{api.Act{Kind: api.Alloc, Cell: 7}, 0}, // no room
		{api.Act{Kind: api.Alloc, Cell: math.MaxInt}, 0},
		{api.Act{Kind: api.Load, Block: 1, Cell: 3}, 0}, // a fault
		{api.Act{Kind: api.Cas, Block: 1, Cell: math.MaxInt, Old: 1, New: 2}, 0},
		{api.Act{Kind: api.Add, Block: 2, New: 1}, 0},
		{api.Act{Kind: api.Free, Block: top}, 0},
		{api.Act{Kind: api.Alloc, Cell: 6}, 2},
		{api.Act{Kind: api.Free, Block: 1}, 0},
		{api.Act{Kind: api.Free, Block: 1}, 0}, // a fault by now
		{api.Act{Kind: api.Load, Block: 1, Cell: 2}, 0},
		{api.Act{Kind: api.Add, Block: 2, Cell: 5, New: 3}, 0},
		{api.Act{Kind: api.Add, Block: 2, Cell: 5, New: 3}, 3},
	}
	var l []api.Act
	var got []uint64
	for _, r := range rows {
		l, got = append(l, r.x), append(got, r.got)
	}
	return l, got
}

// mixedFaults: how many of mixed's acts are faults.
const mixedFaults = 6

// P10.1: each act is told once, in order, with its own answer, and the arena is as all of them leave it.
func TestStepsMixed(t *testing.T) {
	l, want := mixed()
	a, b := arena.New(9), arena.New(9)
	x := &row{l: l}
	got := allSteps(a, x)
	holdTold(t, got, doAll(b, l))
	if len(got) != len(want) {
		t.Fatal(len(got))
	}
	for i, w := range want {
		if got[i].got != w {
			t.Errorf("act %d, %+v: %d, not %d", i, l[i], got[i].got, w)
		}
	}
	holdRow(t, x, want...)
	holdImage(t, a, b)
	if a.Faults() != mixedFaults || a.Used() != 6 {
		t.Error(a.Faults(), a.Used())
	}
}

// P10.1: a routine that is nil, or has no act, has no steps, and the sequence is there all the same.
func TestStepsNone(t *testing.T) {
	var none *row
	odd := &stubborn{}
	for _, r := range []api.Routine{nil, &row{}, &row{l: []api.Act{}}, &counter{}, odd, none} {
		a := arena.New(9)
		seq := Steps(a, r)
		if seq == nil {
			t.Fatalf("%T: nil", r)
		}
		for range 3 {
			for x, got := range seq {
				t.Fatalf("%T: %+v, %d", r, x, got)
			}
		}
		holdImage(t, a, arena.New(9))
	}
	if odd.took != 0 {
		t.Error("taken", odd.took, "times")
	}
}

// P10.1: one act, of each kind: it is told once, and never again.
func TestStepsOne(t *testing.T) {
	l, _ := mixed()
	for _, x := range l {
		a, b := arena.New(9), arena.New(9)
		a.Alloc(3)
		b.Alloc(3)
		r := &row{l: []api.Act{x}}
		want := doAll(b, r.l)
		holdTold(t, allSteps(a, r), want)
		holdTold(t, allSteps(a, r), nil)
		holdRow(t, r, want[0].got)
		holdImage(t, a, b)
	}
}

// P10.1: when an act is told, it is done and taken, and the one behind it is neither.
func TestStepsDoneAheadOfTold(t *testing.T) {
	l, want := mixed()
	a, b := arena.New(9), arena.New(9)
	x := &row{l: l}
	n := 0
	for y, got := range Steps(a, x) {
		if w := act.Do(b, l[n]); y != l[n] || got != w {
			t.Errorf("act %d: %+v, %d, not %+v, %d", n, y, got, l[n], w)
		}
		n++
		holdRow(t, x, want[:n]...)
		if a.Faults() != b.Faults() || a.Used() != b.Used() || !slices.Equal(a.Blocks(), b.Blocks()) {
			t.Errorf("act %d: %d faults, %d used, blocks %v", n, a.Faults(), a.Used(), a.Blocks())
		}
		holdImage(t, a.Copy(), b.Copy())
	}
	if n != len(l) {
		t.Error(n)
	}
}

// P10.1: nothing is done before it is ranged over.
func TestStepsAskedAlone(t *testing.T) {
	a := arena.New(9)
	x := &row{l: three()}
	for range 5 {
		_ = Steps(a, x)
	}
	holdRow(t, x)
	holdImage(t, a, arena.New(9))
}

// P10.1: left early at each place: what was told was done and taken, and nothing more; ranging over it again, or over another one, goes on from there.
func TestStepsLeft(t *testing.T) {
	l, want := mixed()
	whole := doAll(arena.New(9), l)
	for left := 1; left <= len(l); left++ {
		for _, anew := range []bool{false, true} {
			a, b := arena.New(9), arena.New(9)
			x := &row{l: l}
			seq := Steps(a, x)
			var got []told
			for y, w := range seq {
				got = append(got, told{y, w})
				if len(got) == left {
					break
				}
			}
			doAll(b, l[:left])
			holdTold(t, got, whole[:left])
			holdRow(t, x, want[:left]...)
			holdImage(t, a.Copy(), b)
			if anew {
				seq = Steps(a, x)
			}
			for y, w := range seq {
				got = append(got, told{y, w})
			}
			holdTold(t, got, whole)
			holdRow(t, x, want...)
		}
	}
}

// P10.1: a sequence that is left at each act, again and again, tells them all.
func TestStepsOneByOne(t *testing.T) {
	l, want := mixed()
	x := &row{l: l}
	seq := Steps(arena.New(9), x)
	for i := range l {
		for y, got := range seq {
			if y != l[i] || got != want[i] {
				t.Errorf("act %d: %+v, %d", i, y, got)
			}
			break
		}
		holdRow(t, x, want[:i+1]...)
	}
	for y := range seq {
		t.Error("behind the end:", y)
	}
}

// P10.1: a routine that never ends is gone over till it is left; what it reads changes under way.
func TestStepsEndless(t *testing.T) {
	a := arena.New(9)
	a.Alloc(2)
	n := uint64(0)
	for x, got := range Steps(a, endless(1)) {
		if got != n || x != (api.Act{Kind: api.Add, Block: 1, Cell: 1, New: 1}) {
			t.Fatal(n, x, got)
		}
		n++
		if n == 100000 {
			break
		}
	}
	if w, _ := a.Load(1, 1); w != n {
		t.Error(w)
	}
}

// P10.1: the one who ranges may work on the arena meanwhile: the next act finds that.
func TestStepsMeanwhile(t *testing.T) {
	a := arena.New(9)
	a.Alloc(1)
	x := &counter{block: 1, times: 3}
	n := 0
	for range Steps(a, x) {
		n++
		if n <= 6 && x.loaded {
			a.Add(1, 0, 10)
		}
	}
	// The first three tries fail, for the cell has 10 more by the time of the Cas.
	if w, _ := a.Load(1, 0); w != 33 || x.tries != 6 || n != 12 {
		t.Error(w, x.tries, n)
	}
}

// P10.1: what the body of the range panics with is the caller's, and comes back.
func TestStepsBodyPanics(t *testing.T) {
	x := &row{l: three()}
	func() {
		defer func() {
			if w := recover(); w != "body" {
				t.Error(w)
			}
		}()
		for range Steps(arena.New(9), x) {
			panic("body")
		}
	}()
	holdRow(t, x, 1)
}

// P10.1: most acts at most, and whether none comes any more, also just behind the last one.
func TestAloneMost(t *testing.T) {
	l, want := mixed()
	many := len(l)
	for most := range many + 4 {
		a, b := arena.New(9), arena.New(9)
		x := &row{l: l}
		n := min(most, many)
		holdAlone(t, a, x, most, n, n == many)
		holdRow(t, x, want[:n]...)
		doAll(b, l[:n])
		holdImage(t, a.Copy(), b)
		holdAlone(t, a, x, many, many-n, true)
		holdRow(t, x, want...)
		holdAlone(t, a, x, many, 0, true)
		holdAlone(t, a, x, 0, 0, true)
		holdAlone(t, a, x, -1, 0, true)
		holdRow(t, x, want...)
	}
}

// P10.1: below 1 none is done, and the end is told all the same; the greatest number is no end.
func TestAloneEdges(t *testing.T) {
	for _, most := range []int{0, -1, -2, math.MinInt32, math.MinInt + 1, math.MinInt} {
		a := arena.New(9)
		x := &row{l: three()}
		holdAlone(t, a, x, most, 0, false)
		holdRow(t, x)
		holdImage(t, a, arena.New(9))
		holdAlone(t, a, &row{}, most, 0, true)
		holdAlone(t, a, nil, most, 0, true)
	}
	for _, most := range []int{4, 65536, math.MaxInt32, math.MaxInt - 1, math.MaxInt} {
		x := &row{l: three()}
		holdAlone(t, arena.New(9), x, most, 3, true)
		holdRow(t, x, 1, 0, 5)
	}
	x := &row{l: three()}
	a := arena.New(9)
	holdAlone(t, a, x, 2, 2, false)
	holdAlone(t, a, x, 1, 1, true)
	holdAlone(t, a, x, 1, 0, true)
	a.Alloc(1)
	holdAlone(t, a, endless(0), 100000, 100000, false)
	if w, _ := a.Load(1, 0); w != 100000 {
		t.Error(w)
	}
}

// P10.1: of routines without acts, whatever most is.
func TestAloneNone(t *testing.T) {
	var none *row
	odd := &stubborn{}
	for _, r := range []api.Routine{nil, &row{}, &counter{}, odd, none} {
		for _, most := range []int{math.MinInt, -1, 0, 1, 2, math.MaxInt} {
			a := arena.New(9)
			holdAlone(t, a, r, most, 0, true)
			holdImage(t, a, arena.New(9))
		}
	}
	if odd.took != 0 {
		t.Error("taken", odd.took, "times")
	}
}

// P10.2: without routines, or without picks, nothing happens.
func TestRunNothing(t *testing.T) {
	all := []int{0, 1, 2, -1, 5, math.MaxInt, math.MinInt}
	for _, l := range [][]api.Routine{nil, {}} {
		for _, picks := range [][]int{nil, {}, {0}, all} {
			a := arena.New(9)
			holdSteps(t, Run(a, l, picks), nil)
			holdImage(t, a, arena.New(9))
		}
	}
	x, y := &row{l: three()}, &row{l: three()}
	a := arena.New(9)
	holdSteps(t, Run(a, []api.Routine{x, y}, nil), nil)
	holdSteps(t, Run(a, []api.Routine{x, y}, []int{}), nil)
	holdRow(t, x)
	holdRow(t, y)
	holdImage(t, a, arena.New(9))
}

// restOf: the rest of a pick, from 0 on, found by division alone.
func restOf(pick, many int) int {
	if pick >= 0 {
		return pick - pick/many*many
	}
	// -(pick+1) is not below 0, and never leaves its type.
	r := -(pick + 1)
	return many - 1 - (r - r/many*many)
}

// P10.2: which routine a pick picks: its rest from 0 on, of any number.
func TestRunRests(t *testing.T) {
	for many := 1; many <= 9; many++ {
		picks := []int{0, 1, many - 1, many, many + 1, 2 * many, -1, -many, -many - 1, 1 - many, math.MaxInt, math.MaxInt - 1, math.MinInt, math.MinInt + 1, math.MaxInt32, math.MinInt32}
		for pick := -3 * many; pick <= 3*many; pick++ {
			picks = append(picks, pick)
		}
		var l []api.Routine
		for i := range many {
			l = append(l, endless(i))
		}
		a := arena.New(9)
		a.Alloc(9)
		steps := Run(a, l, picks)
		if len(steps) != len(picks) {
			t.Fatal(len(steps))
		}
		had := make([]uint64, many)
		for i, pick := range picks {
			who := restOf(pick, many)
			want := Step{who, api.Act{Kind: api.Add, Block: 1, Cell: who, New: 1}, had[who]}
			had[who]++
			if steps[i] != want {
				t.Errorf("pick %d of %d: %+v, not %+v", pick, many, steps[i], want)
			}
		}
	}
	for _, p := range []struct{ pick, many, who int }{{-1, 3, 2}, {-2, 3, 1}, {-3, 3, 0}, {-4, 3, 2}, {3, 3, 0}, {5, 3, 2}, {math.MinInt, 3, 1}, {math.MaxInt, 3, 1}, {math.MinInt, 2, 0}, {math.MaxInt, 2, 1}, {math.MinInt, 7, 6}, {math.MaxInt, 7, 0}} {
		l := make([]api.Routine, p.many)
		for i := range l {
			l[i] = endless(i)
		}
		if steps := Run(nil, l, []int{p.pick}); len(steps) != 1 || steps[0].Who != p.who {
			t.Errorf("pick %d of %d: %+v", p.pick, p.many, steps)
		}
	}
}

// P10.2: picks of routines that are nil, that have no act, and that have come to their end are no steps, and keep no others from theirs.
func TestRunWithoutActs(t *testing.T) {
	var none *row
	l := three()
	for at := range 4 {
		x := &row{l: l}
		ended := &row{l: l[:1], got: []uint64{7}}
		list := slices.Insert([]api.Routine{nil, &row{}, ended}, at, api.Routine(x))
		list = append(list, none, &stubborn{})
		var picks []int
		for range 4 {
			for i := range list {
				picks = append(picks, i)
			}
		}
		a := arena.New(9)
		holdSteps(t, Run(a, list, picks), []Step{{at, l[0], 1}, {at, l[1], 0}, {at, l[2], 5}})
		holdRow(t, x, 1, 0, 5)
		holdRow(t, ended, 7)
		holdSteps(t, Run(a, list, picks), nil)
		holdRow(t, x, 1, 0, 5)
	}
	holdSteps(t, Run(arena.New(9), []api.Routine{nil}, []int{0, 1, -1}), nil)
	holdSteps(t, Run(arena.New(9), []api.Routine{nil, nil, nil}, []int{0, 1, 2, 3}), nil)
}

// P10.2: a routine that ends while others go on: its picks behind that do nothing.
func TestRunEnds(t *testing.T) {
	l := three()
	x, y := &row{l: l[:1]}, &row{l: []api.Act{{Kind: api.Add, Block: 1, New: 2}, {Kind: api.Load, Block: 1}}}
	a := arena.New(9)
	steps := Run(a, []api.Routine{x, y}, []int{0, 0, 1, 0, 0, 1, 0, 1, 1, 0})
	holdSteps(t, steps, []Step{{0, l[0], 1}, {1, y.l[0], 0}, {1, y.l[1], 2}})
	holdRow(t, x, 1)
	holdRow(t, y, 0, 2)
}

// P10.2: one routine at several places of the list goes on from wherever it was picked.
func TestRunTwice(t *testing.T) {
	l := three()
	x := &row{l: l}
	steps := Run(arena.New(9), []api.Routine{x, nil, x}, []int{2, 1, 0, 2, 0})
	holdSteps(t, steps, []Step{{2, l[0], 1}, {0, l[1], 0}, {2, l[2], 5}})
}

// P10.2: acts of all kinds, of ones that may not be, and of faults, are steps each, of either routine.
func TestRunMixed(t *testing.T) {
	l, want := mixed()
	a, b := arena.New(9), arena.New(9)
	x := &row{l: l}
	var picks []int
	var steps []Step
	for i := range l {
		picks = append(picks, 4, 1)
		steps = append(steps, Step{1, l[i], want[i]})
	}
	holdSteps(t, Run(a, []api.Routine{nil, x, nil}, picks), steps)
	doAll(b, l)
	holdImage(t, a, b)
}

// P10.2: several that work on one cell see what the others did, in the order of the picks.
func TestRunMeet(t *testing.T) {
	load, cas := api.Act{Kind: api.Load, Block: 1}, func(old uint64) api.Act {
		return api.Act{Kind: api.Cas, Block: 1, Old: old, New: old + 1}
	}
	rows := []struct {
		picks []int
		want  []Step
	}{
		{[]int{0, 0, 1, 1}, []Step{{0, load, 0}, {0, cas(0), 0}, {1, load, 1}, {1, cas(1), 1}}},
		{[]int{1, 1, 0, 0}, []Step{{1, load, 0}, {1, cas(0), 0}, {0, load, 1}, {0, cas(1), 1}}},
		{[]int{0, 1, 0, 1, 1, 1}, []Step{{0, load, 0}, {1, load, 0}, {0, cas(0), 0}, {1, cas(0), 1}, {1, load, 1}, {1, cas(1), 1}}},
		{[]int{0, 1, 1, 0, 0, 0}, []Step{{0, load, 0}, {1, load, 0}, {1, cas(0), 0}, {0, cas(0), 1}, {0, load, 1}, {0, cas(1), 1}}},
	}
	for _, r := range rows {
		a := arena.New(9)
		a.Alloc(1)
		x, y := &counter{block: 1, times: 1}, &counter{block: 1, times: 1}
		holdSteps(t, Run(a, []api.Routine{x, y}, r.picks), r.want)
		if w, _ := a.Load(1, 0); w != 2 || x.times+y.times != 0 {
			t.Error(w, x.times, y.times)
		}
	}
}

// P10.2: a block that one frees is gone for the other one from then on.
func TestRunFreed(t *testing.T) {
	make1, free1, load1 := api.Act{Kind: api.Alloc, Cell: 1}, api.Act{Kind: api.Free, Block: 1}, api.Act{Kind: api.Load, Block: 1}
	add1 := api.Act{Kind: api.Add, Block: 1, New: 4}
	for _, late := range []bool{false, true} {
		a := arena.New(9)
		x, y := &row{l: []api.Act{make1, add1, free1}}, &row{l: []api.Act{load1}}
		picks, want, faults := []int{0, 0, 1, 0}, []Step{{0, make1, 1}, {0, add1, 0}, {1, load1, 4}, {0, free1, 0}}, 0
		if late {
			picks, want, faults = []int{0, 0, 0, 1}, []Step{{0, make1, 1}, {0, add1, 0}, {0, free1, 0}, {1, load1, 0}}, 1
		}
		holdSteps(t, Run(a, []api.Routine{x, y}, picks), want)
		if a.Faults() != faults || a.Used() != 0 {
			t.Error(late, a.Faults(), a.Used())
		}
	}
}

// P10.1, P10.2: on a nil arena, and on one that New did not make, acts are told and taken as ever, and answered 0.
func TestWithoutArena(t *testing.T) {
	l, _ := mixed()
	zeros := make([]uint64, len(l))
	var alike []told
	var steps []Step
	for _, x := range l {
		alike = append(alike, told{x, 0})
		steps = append(steps, Step{1, x, 0})
	}
	for _, a := range []*arena.Arena{nil, {}} {
		x := &row{l: l}
		holdTold(t, allSteps(a, x), alike)
		holdRow(t, x, zeros...)
		x = &row{l: l}
		holdAlone(t, a, x, 2, 2, false)
		holdAlone(t, a, x, math.MaxInt, len(l)-2, true)
		holdRow(t, x, zeros...)
		x = &row{l: l}
		holdSteps(t, Run(a, []api.Routine{nil, x}, slices.Repeat([]int{1, 0}, len(l))), steps)
		holdRow(t, x, zeros...)
		if Steps(a, nil) == nil || len(allSteps(a, nil)) != 0 || len(Run(a, nil, []int{1})) != 0 || a.Faults() != 0 || a.Used() != 0 {
			t.Error("not nothing")
		}
		holdAlone(t, a, nil, 3, 0, true)
	}
}

// P10.2: the lists are as they were, their spare room too, and what is handed out is new memory.
func TestRunKeepsLists(t *testing.T) {
	x, y, spare := &row{l: three()}, &row{l: three()}, &row{l: three()}
	room := []api.Routine{x, nil, y, spare, spare}
	list := room[:3]
	all := []int{0, -1, math.MinInt, 5, 1, 2, 99, 98}
	picks := all[:6]
	steps := Run(arena.New(9), list, picks)
	if !slices.Equal(all, []int{0, -1, math.MinInt, 5, 1, 2, 99, 98}) {
		t.Error(all)
	}
	if room[0] != api.Routine(x) || room[1] != nil || room[2] != api.Routine(y) || room[3] != api.Routine(spare) || room[4] != api.Routine(spare) {
		t.Error(room)
	}
	holdRow(t, spare)
	want := slices.Clone(steps)
	other := Run(arena.New(9), []api.Routine{&row{l: three()}}, []int{0, 0})
	for i := range picks {
		picks[i] = -7
	}
	for i := range other {
		other[i] = Step{Who: 9}
	}
	clear(room)
	holdSteps(t, steps, want)
}

// P10.3: what one routine does, picked again and again, is what it does alone, and what Steps tells.
func TestSame(t *testing.T) {
	l, _ := mixed()
	makers := []func() api.Routine{
		func() api.Routine { return &row{l: l} },
		func() api.Routine { return &row{l: three()} },
		func() api.Routine { return &row{} },
		func() api.Routine { return nil },
		func() api.Routine { return &counter{block: 1, times: 20} },
		func() api.Routine { return &walker{} },
	}
	for _, made := range makers {
		for most := range 60 {
			start := arena.New(30)
			start.Alloc(3)
			start.Alloc(3)
			a, b, c, d := start.Copy(), start.Copy(), start.Copy(), start.Copy()
			n, end := Alone(a, made(), most)
			steps := Run(b, []api.Routine{made()}, make([]int, most))
			among := Run(c, []api.Routine{nil, &row{}, made(), &row{}}, slices.Repeat([]int{-2, 0, 1, 7}, most))
			var all []told
			if most > 0 {
				for x, got := range Steps(d, made()) {
					all = append(all, told{x, got})
					if len(all) == most {
						break
					}
				}
			}
			if len(steps) != n || len(among) != n || len(all) != n || (n < most && !end) {
				t.Fatal(most, n, end, len(steps), len(among), len(all))
			}
			for i, s := range steps {
				if s.Who != 0 || (told{s.Act, s.Got}) != all[i] || among[i] != (Step{2, s.Act, s.Got}) {
					t.Error(most, i, s, all[i], among[i])
				}
			}
			holdImage(t, a.Copy(), b)
			holdImage(t, a.Copy(), c)
			holdImage(t, a, d)
		}
	}
}

// P10.3: in pieces, by either call, it is the same as at once.
func TestSamePieces(t *testing.T) {
	l, want := mixed()
	for first := range len(l) + 1 {
		for second := range len(l) + 1 - first {
			a, b := arena.New(9), arena.New(9)
			x := &row{l: l}
			holdAlone(t, a, x, first, first, first == len(l))
			if n := len(Run(a, []api.Routine{x}, make([]int, second))); n != second {
				t.Error(first, second, n)
			}
			left := len(l) - first - second
			if n := len(allSteps(a, x)); n != left {
				t.Error(first, second, n)
			}
			holdRow(t, x, want...)
			doAll(b, l)
			holdImage(t, a, b)
		}
	}
}

// The chapter's example.
func TestExample(t *testing.T) {
	p := []api.Act{{Kind: api.Alloc, Cell: 1}, {Kind: api.Load, Block: 1}}
	q := []api.Act{{Kind: api.Store, Block: 1, New: 6}, {Kind: api.Free, Block: 1}}
	x, y := &row{l: p}, &row{l: q}
	holdSteps(t, Run(arena.New(9), []api.Routine{x, y}, []int{0, -1, 0, 0}), []Step{{0, p[0], 1}, {1, q[0], 0}, {0, p[1], 6}})
	holdRow(t, x, 1, 6)
	holdRow(t, y, 0)
}

// No call panics: of a routine whose Act panics no act comes; an act whose Take panics was done, and is told.
func TestBroken(t *testing.T) {
	for many := range 4 {
		a := arena.New(9)
		a.Alloc(1)
		if n := len(allSteps(a, &broken{many: many})); n != many {
			t.Error(many, n)
		}
		holdAlone(t, a, &broken{many: many}, math.MaxInt, many, true)
		if n := len(Run(a, []api.Routine{&broken{many: many}}, make([]int, 9))); n != many {
			t.Error(many, n)
		}
		if w, _ := a.Load(1, 0); w != uint64(3*many) {
			t.Error(many, w)
		}
	}
	a := arena.New(9)
	a.Alloc(1)
	x := &row{l: []api.Act{{Kind: api.Load, Block: 1}}}
	add := api.Act{Kind: api.Add, Block: 1, New: 1}
	holdSteps(t, Run(a, []api.Routine{&broken{many: 1}, x}, []int{0, 0, 1, 0, 1}), []Step{{0, add, 0}, {1, x.l[0], 1}})
}

// scatter hands out numbers that look like chance, the same for the same seed.
func scatter(seed uint64) func(n int) int {
	w := seed*0x9e3779b97f4a7c15 + 1
	return func(n int) int {
		w = w*6364136223846793005 + 1442695040888963407
		return int(w >> 33 % uint64(n))
	}
}

// scatteredAct: of all kinds, mostly of blocks and cells that may be there; now and then one that may not be.
func scatteredAct(next func(int) int) api.Act {
	x := api.Act{Kind: next(7)}
	if x.Kind != api.NoAct && x.Kind != api.Alloc {
		x.Block = uint64(1 + next(12))
	}
	if x.Kind != api.NoAct && x.Kind != api.Free {
		x.Cell = next(4)
	}
	if x.Kind == api.Cas {
		x.Old = uint64(next(3))
	}
	if x.Kind == api.Store || x.Kind == api.Cas || x.Kind == api.Add {
		x.New = uint64(next(3)) - 1
	}
	if next(20) == 0 {
		x.Kind = []int{-1, 7, math.MaxInt, math.MinInt, api.Free}[next(5)]
	}
	return x
}

func scatteredPick(next func(int) int) int {
	if next(30) == 0 {
		return []int{math.MaxInt, math.MinInt, math.MaxInt - 1, math.MinInt + 1}[next(4)]
	}
	return next(400) - 200
}

// P10.2: long rows of picks of several routines, held against a plain list of their acts that are done one behind the other.
func TestLongRows(t *testing.T) {
	for seed := range uint64(60) {
		next := scatter(seed)
		room := []int{1, 5, 20, 60, 65536}[seed%5]
		a, b := arena.New(room), arena.New(room)
		many := 1 + next(8)
		list := make([]api.Routine, many)
		left := make([][]api.Act, many)
		rows := make([]*row, many)
		for i := range list {
			if next(6) == 0 {
				continue
			}
			for range next(300) {
				left[i] = append(left[i], scatteredAct(next))
			}
			rows[i] = &row{l: left[i]}
			list[i] = rows[i]
		}
		picks := make([]int, 1000)
		var want []Step
		for i := range picks {
			picks[i] = scatteredPick(next)
			who := restOf(picks[i], many)
			if len(left[who]) == 0 {
				continue
			}
			want = append(want, Step{who, left[who][0], act.Do(b, left[who][0])})
			left[who] = left[who][1:]
		}
		cut := next(len(picks))
		steps := append(Run(a, list, picks[:cut]), Run(a, list, picks[cut:])...)
		holdSteps(t, steps, want)
		holdImage(t, a, b)
		holdRows(t, rows, left, want)
		if t.Failed() {
			t.Fatal("seed", seed)
		}
	}
}

// holdRows: each routine took just what its own steps were answered, and has what is left of its acts ahead of it.
func holdRows(t *testing.T, rows []*row, left [][]api.Act, steps []Step) {
	t.Helper()
	for i, r := range rows {
		if r == nil {
			continue
		}
		var got []uint64
		for _, s := range steps {
			if s.Who == i {
				got = append(got, s.Got)
			}
		}
		holdRow(t, r, got...)
		if !slices.Equal(r.l[len(got):], left[i]) {
			t.Errorf("routine %d: %d acts left, not %d", i, len(r.l)-len(got), len(left[i]))
		}
	}
}

// P10.2: routines that add by Load and Cas, in scattered orders, lose none of what they add.
func TestLongCounts(t *testing.T) {
	for seed := range uint64(40) {
		next := scatter(seed)
		many, times := 1+next(6), 1+next(20)
		a := arena.New(1)
		a.Alloc(1)
		var list []api.Routine
		for range many {
			list = append(list, &counter{block: 1, times: times})
		}
		var picks []int
		for range 2000 {
			picks = append(picks, scatteredPick(next))
		}
		had := uint64(0)
		for i, s := range Run(a, list, picks) {
			if s.Got != had {
				t.Fatalf("seed %d, step %d: %+v, where the cell has %d", seed, i, s, had)
			}
			if s.Act.Kind == api.Cas && s.Act.Old == had {
				had = s.Act.New
			}
		}
		for _, r := range list {
			if _, end := Alone(a, r, math.MaxInt); !end {
				t.Error("seed", seed, "no end")
			}
		}
		if w, _ := a.Load(1, 0); w != uint64(many*times) {
			t.Error(seed, w, many*times)
		}
	}
}
