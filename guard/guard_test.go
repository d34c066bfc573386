package guard

import (
	"math"
	"slices"
	"testing"

	"sprocket/api"
	"sprocket/arena"
	"sprocket/desk"
	"sprocket/drive"
)

const top = math.MaxUint64

// row: the next one of a row of words without an order that matters, each time.
func row(w uint64) func() uint64 {
	return func() uint64 {
		w = w*6364136223846793005 + 1442695040888963407
		return w>>33 ^ w<<7
	}
}

// edgeWords: numbers of blocks, seeds, and answers: small and great ones, 0 and the greatest.
func edgeWords() []uint64 {
	return []uint64{0, 1, 2, 3, 7, 8, 9, 255, 256, 65535, 65536, math.MaxInt32, math.MaxUint32, 1 << 32, 1<<61 - 1, 1 << 61, math.MaxInt64, 1 << 63, top - 1, top}
}

// edgeNumbers: numbers on both sides of each bound of a site's parts, and of Go's types.
func edgeNumbers() []int {
	return []int{math.MinInt, math.MinInt + 1, math.MinInt32, -65, -64, -63, -2, -1, 0, 1, 2, 3, 31, 32, 33, 62, 63, 64, 65, 66, 127, 128, 1 << 32, 1<<32 + 1, math.MaxInt32, math.MaxInt - 1, math.MaxInt}
}

// siteOf: a site of a thread of so many in a desk.
func siteOf(block uint64, thread, threads int) api.Site {
	return api.Site{Desk: block, Thread: thread, Threads: threads, Keep: 1}
}

// loadOf: the act that reads a desk's Root.
func loadOf(s api.Site) api.Act { return api.Act{Kind: api.Load, Block: s.Desk} }

// storeOf: the act that lays a root into the cell of a site's thread.
func storeOf(s api.Site, root uint64) api.Act {
	return api.Act{Kind: api.Store, Block: s.Desk, Cell: 2 + 2*s.Thread, New: root}
}

// plain: what the chapter says of a guard behind these answers to all its acts so far: the act that comes next, or the answer at the end.
func plain(s api.Site, answers []uint64) (x api.Act, root uint64, end bool) {
	if len(answers) == 0 {
		return loadOf(s), 0, false
	}
	r := answers[0]
	for rest := answers[1:]; ; rest = rest[2:] {
		if len(rest) == 0 {
			return storeOf(s, r), 0, false
		}
		if len(rest) == 1 {
			return loadOf(s), 0, false
		}
		if rest[1] == r {
			return api.Act{}, r, true
		}
		r = rest[1]
	}
}

// holdNoAnswer: there is no answer.
func holdNoAnswer(t *testing.T, x *Guard) {
	t.Helper()
	if got, done := x.Result(); got != 0 || done {
		t.Fatalf("Result: %d %v; wanted none", got, done)
	}
}

// holdAct: the act that comes next is this one, however often it is asked, and there is no answer yet.
func holdAct(t *testing.T, x *Guard, want api.Act) {
	t.Helper()
	for range 3 {
		if got, more := x.Act(); got != want || !more {
			t.Fatalf("Act: %+v %v; wanted %+v", got, more, want)
		}
		holdNoAnswer(t, x)
	}
}

// holdEnd: no act comes any more, and this is the answer, however often both are asked, and whatever is taken.
func holdEnd(t *testing.T, x *Guard, want uint64) {
	t.Helper()
	for _, w := range append(edgeWords(), want, want+1) {
		if got, more := x.Act(); got != (api.Act{}) || more {
			t.Fatalf("Act at the end: %+v %v; wanted none", got, more)
		}
		for range 2 {
			if got, done := x.Result(); got != want || !done {
				t.Fatalf("Result at the end: %d %v; wanted %d", got, done, want)
			}
		}
		x.Take(w)
	}
}

// holdNothing: there is neither an act nor an answer, whatever is taken.
func holdNothing(t *testing.T, x *Guard) {
	t.Helper()
	for _, w := range append(edgeWords(), 0, 0) {
		if got, more := x.Act(); got != (api.Act{}) || more {
			t.Fatalf("Act: %+v %v; wanted none", got, more)
		}
		for range 2 {
			holdNoAnswer(t, x)
		}
		x.Take(w)
	}
}

// holdGuard: a guard to whose Loads these roots are answered, and to whose Stores what laid tells, does the chapter's acts in order; the last root is the one ahead of it once more, and the answer.
func holdGuard(t *testing.T, s api.Site, laid func() uint64, roots ...uint64) {
	t.Helper()
	x := New(s)
	for i, root := range roots {
		if i > 0 {
			holdAct(t, x, storeOf(s, roots[i-1]))
			x.Take(laid())
		}
		holdAct(t, x, loadOf(s))
		x.Take(root)
	}
	holdEnd(t, x, roots[len(roots)-1])
}

// nought: what an arena answers to each Store.
func nought() uint64 { return 0 }

// holdAnswers: behind each of these answers the guard is where the chapter says, and at its end it stays there.
func holdAnswers(t *testing.T, s api.Site, answers []uint64) {
	t.Helper()
	x := New(s)
	for i := 0; ; i++ {
		want, root, end := plain(s, answers[:i])
		if end {
			holdEnd(t, x, root)
			return
		}
		holdAct(t, x, want)
		if i == len(answers) {
			return
		}
		x.Take(answers[i])
	}
}

// The chapter's example.
func TestExample(t *testing.T) {
	s := siteOf(1, 0, 1)
	x := New(s)
	acts := 0
	for _, got := range []uint64{2, 0, 2} {
		if _, more := x.Act(); !more {
			t.Fatalf("no act behind %d", acts)
		}
		holdNoAnswer(t, x)
		x.Take(got)
		acts++
	}
	holdEnd(t, x, 2)
	if acts != 3 {
		t.Fatalf("%d acts", acts)
	}
}

// P19.1: acts written out.
func TestByHand(t *testing.T) {
	load := func(block uint64) api.Act { return api.Act{Kind: api.Load, Block: block, Cell: 0} }
	store := func(block uint64, cell int, root uint64) api.Act {
		return api.Act{Kind: api.Store, Block: block, Cell: cell, New: root}
	}
	type step struct {
		act api.Act
		got uint64
	}
	for _, c := range []struct {
		site  api.Site
		steps []step
		root  uint64
	}{
		{api.Site{Desk: 1, Threads: 1, Keep: 1}, []step{{load(1), 2}, {store(1, 2, 2), 0}, {load(1), 2}}, 2},
		{api.Site{Desk: 9, Thread: 2, Threads: 3, Keep: 1}, []step{{load(9), 5}, {store(9, 6, 5), 0}, {load(9), 6}, {store(9, 6, 6), 0}, {load(9), 6}}, 6},
		{api.Site{Desk: 3, Thread: 1, Threads: 2, Keep: 64, Seed: top}, []step{{load(3), 4}, {store(3, 4, 4), 0}, {load(3), 5}, {store(3, 4, 5), 0}, {load(3), 4}, {store(3, 4, 4), 0}, {load(3), 4}}, 4},
		{api.Site{Desk: top, Thread: 63, Threads: 64, Keep: 2, Seed: 1}, []step{{load(top), 0}, {store(top, 128, 0), 7}, {load(top), top}, {store(top, 128, top), top}, {load(top), top}}, top},
		{api.Site{Desk: 1 << 32, Thread: 0, Threads: 64, Keep: 1}, []step{{load(1 << 32), 0}, {store(1<<32, 2, 0), 1}, {load(1 << 32), 0}}, 0},
	} {
		x := New(c.site)
		for _, y := range c.steps {
			holdAct(t, x, y.act)
			x.Take(y.got)
		}
		holdEnd(t, x, c.root)
	}
}

// P19.1: each thread of desks for 1 to the most threads, in blocks of small and of great numbers; neither Keep nor Seed matters.
func TestEachSite(t *testing.T) {
	for threads := 1; threads <= api.MaxThreads; threads++ {
		for thread := range threads {
			for i, block := range edgeWords()[1:] {
				s := siteOf(block, thread, threads)
				s.Keep = 1 + (threads+thread+i)%api.MaxKeep
				s.Seed = edgeWords()[(threads+i)%len(edgeWords())]
				holdGuard(t, s, nought, 2, 2)
				holdGuard(t, s, nought, 2, 3, 7, 7)
			}
		}
	}
	for keep := 1; keep <= api.MaxKeep; keep++ {
		for _, seed := range edgeWords() {
			holdGuard(t, api.Site{Desk: 1, Thread: 4, Threads: 7, Keep: keep, Seed: seed}, nought, 9, 8, 8)
		}
	}
}

// holdSite: a guard of the site protects, if there may be such a site, and does nothing, if not.
func holdSite(t *testing.T, s api.Site, may bool) {
	t.Helper()
	if !may {
		holdNothing(t, New(s))
		return
	}
	holdGuard(t, s, nought, 5, 6, 6)
}

// P19.1: each bound of each part of a site, on both sides.
func TestSiteBounds(t *testing.T) {
	for _, n := range edgeNumbers() {
		holdSite(t, siteOf(1, n, 64), n >= 0 && n <= 63)
		holdSite(t, siteOf(1, 0, n), n >= 1 && n <= 64)
		holdSite(t, siteOf(1, 63, n), n == 64)
		holdSite(t, api.Site{Desk: 1, Threads: 64, Thread: 63, Keep: n}, n >= 1 && n <= 64)
		for threads := 1; threads <= api.MaxThreads; threads++ {
			holdSite(t, siteOf(top, n, threads), n >= 0 && n < threads)
		}
	}
	for _, threads := range []int{1, 2, 3, 63, 64} {
		for thread := -1; thread <= threads; thread++ {
			holdSite(t, siteOf(0, thread, threads), false)
			holdSite(t, siteOf(1, thread, threads), thread >= 0 && thread < threads)
		}
	}
	holdSite(t, api.Site{}, false)
	holdSite(t, api.Site{Seed: top}, false)
}

// P19.1: each choice of parts around their bounds.
func TestSiteChoices(t *testing.T) {
	numbers := []int{math.MinInt, -1, 0, 1, 2, 62, 63, 64, 65, math.MaxInt}
	for _, block := range []uint64{0, 1, top} {
		for _, thread := range numbers {
			for _, threads := range numbers {
				for _, keep := range numbers {
					s := api.Site{Desk: block, Thread: thread, Threads: threads, Keep: keep, Seed: 3}
					may := block != 0 && threads >= 1 && threads <= 64 && thread >= 0 && thread < threads && keep >= 1 && keep <= 64
					holdSite(t, s, may)
				}
			}
		}
	}
}

// P19.1: what is done to a site of one's own, behind New, does not matter, and New changes none.
func TestSiteIsCopied(t *testing.T) {
	s := siteOf(9, 2, 3)
	x := New(s)
	if s != siteOf(9, 2, 3) {
		t.Fatalf("%+v", s)
	}
	s = siteOf(0, 9, 9)
	holdAct(t, x, loadOf(siteOf(9, 2, 3)))
	holdNothing(t, New(s))
}

// P19.1: a Root that is the same at the second look, and one that changes once, twice and three times, between all edge words.
func TestRootChanges(t *testing.T) {
	s := siteOf(9, 2, 3)
	for _, a := range edgeWords() {
		holdGuard(t, s, nought, a, a)
		for _, b := range edgeWords() {
			if a == b {
				continue
			}
			holdGuard(t, s, nought, a, b, b)
			holdGuard(t, s, nought, a, b, a, a)
			holdGuard(t, s, nought, a, b, a, b, b)
			for _, c := range edgeWords() {
				if c != b {
					holdGuard(t, s, nought, a, b, c, c)
				}
				if c != a && c != b {
					holdGuard(t, s, nought, a, b, c, a, a)
					holdGuard(t, s, nought, a, b, c, b, b)
				}
			}
		}
	}
}

// P19.1: a Root that changes many times: on and on, between few numbers, and one bit at a time; in the end it stays.
func TestRootChangesOften(t *testing.T) {
	s := siteOf(4, 1, 2)
	for _, many := range []int{4, 5, 8, 63, 64, 65, 100, 1000, 70000} {
		for _, few := range []int{2, 3, 5, many} {
			roots := make([]uint64, many)
			for i := range roots {
				roots[i] = uint64(i % few)
			}
			holdGuard(t, s, nought, append(roots, roots[many-1])...)
		}
	}
	var bits []uint64
	for i := range 64 {
		bits = append(bits, 1<<i, 0, 1<<i|1<<63|1, top)
	}
	holdGuard(t, s, nought, append(slices.Compact(bits), top)...)
}

// P19.1: whatever is answered to a Store does not matter, be it the root, another one, or one that was read.
func TestStoreAnswers(t *testing.T) {
	s := siteOf(9, 0, 1)
	for _, w := range append(edgeWords(), 4, 5, 6) {
		laid := func() uint64 { return w }
		holdGuard(t, s, laid, 5, 5)
		holdGuard(t, s, laid, 5, 6, 6)
		holdGuard(t, s, laid, 5, 6, 5, 5)
		holdGuard(t, s, laid, w, w)
		holdGuard(t, s, laid, w+1, w, w)
		holdGuard(t, s, laid, w, w+1, w+1)
		holdGuard(t, s, laid, 0, top, 0, 0)
	}
	holdGuard(t, s, row(191), 5, 6, 7, 6, 5, 5)
}

// P19.1: a guard goes on whether or not it is asked for its act or its answer meanwhile.
func TestUnasked(t *testing.T) {
	s := siteOf(9, 2, 3)
	for asks := range 4 {
		for _, answers := range [][]uint64{{2, 0, 2}, {2, 2, 2}, {0, 5, 0}, {2, 0, 3, 0, 3}, {2, 0, 3, 0, 2, 0, 2}, {2, 3, 4, 5, 6, 7, 6}, {top, 0, 0, top, 0}} {
			x := New(s)
			for _, w := range answers {
				for range asks {
					x.Act()
					x.Result()
				}
				x.Take(w)
			}
			holdEnd(t, x, answers[len(answers)-1])
		}
	}
}

// P19.1: guards of one site and of several are apart, and go on each by its own answers.
func TestApart(t *testing.T) {
	s := siteOf(6, 1, 4)
	x, y, z, other := New(s), New(s), New(s), New(siteOf(7, 3, 4))
	z.Take(4)
	z.Take(0)
	z.Take(4)
	x.Take(1)
	holdAct(t, y, loadOf(s))
	y.Take(2)
	holdAct(t, x, storeOf(s, 1))
	holdAct(t, y, storeOf(s, 2))
	holdAct(t, other, loadOf(siteOf(7, 3, 4)))
	x.Take(0)
	y.Take(0)
	other.Take(3)
	x.Take(2)
	y.Take(2)
	holdAct(t, x, storeOf(s, 2))
	holdAct(t, other, storeOf(siteOf(7, 3, 4), 3))
	holdEnd(t, y, 2)
	holdEnd(t, z, 4)
}

// P19.1: a nil guard, and one that New did not make.
func TestNobodyMade(t *testing.T) {
	var plainly Guard
	for _, x := range []*Guard{nil, {}, new(Guard), &plainly} {
		holdNothing(t, x)
		a, _ := newDesk(t, 1, 2)
		before := a.Copy()
		var r api.Routine = x
		if n, end := drive.Alone(a, r, 100); n != 0 || !end {
			t.Fatalf("%d acts, %v", n, end)
		}
		if steps := drive.Run(a, []api.Routine{r}, []int{0, 0, 0}); len(steps) != 0 {
			t.Fatalf("steps: %+v", steps)
		}
		holdSame(t, a, before)
		holdNothing(t, x)
	}
}

// newDesk: an arena that has a desk for so many threads between two other blocks, each cell of all of them with a word of its own, and the desk's Root with this one; and the desk's number.
func newDesk(t *testing.T, threads int, root uint64) (*arena.Arena, uint64) {
	t.Helper()
	a := arena.New(200)
	next := row(uint64(threads))
	for _, n := range []int{5, desk.Size(threads), 5} {
		b := a.Alloc(n)
		for i := range n {
			put(t, a, b, i, next())
		}
	}
	put(t, a, 2, desk.Root, root)
	return a, 2
}

// put: a cell of a block has this word now.
func put(t *testing.T, a *arena.Arena, b uint64, cell int, w uint64) {
	t.Helper()
	if err := a.Store(b, cell, w); err != api.OK {
		t.Fatalf("cell %d of block %d: %v", cell, b, err)
	}
}

// cellOf: the word of a block's cell.
func cellOf(t *testing.T, a *arena.Arena, b uint64, cell int) uint64 {
	t.Helper()
	w, err := a.Load(b, cell)
	if err != api.OK {
		t.Fatalf("cell %d of block %d: %v", cell, b, err)
	}
	return w
}

// holdSame: both arenas have the same blocks with the same words, as many cells used, and as many faults.
func holdSame(t *testing.T, got, want *arena.Arena) {
	t.Helper()
	if !slices.Equal(got.Blocks(), want.Blocks()) || got.Used() != want.Used() || got.Faults() != want.Faults() {
		t.Fatalf("blocks %d, %d cells used, %d faults; wanted %d, %d, %d", got.Blocks(), got.Used(), got.Faults(), want.Blocks(), want.Used(), want.Faults())
	}
	for _, b := range want.Blocks() {
		if got.Size(b) != want.Size(b) {
			t.Fatalf("block %d: %d cells; wanted %d", b, got.Size(b), want.Size(b))
		}
		for i := range want.Size(b) {
			if w, v := cellOf(t, got, b, i), cellOf(t, want, b, i); w != v {
				t.Fatalf("block %d, cell %d: %d; wanted %d", b, i, w, v)
			}
		}
	}
}

// holdAlone: done alone on the arena, so many acts are done, and this is the answer, behind which no act is done.
func holdAlone(t *testing.T, a *arena.Arena, x *Guard, acts int, want uint64) {
	t.Helper()
	if n, end := drive.Alone(a, x, 100); n != acts || !end {
		t.Fatalf("Alone: %d %v; wanted %d acts", n, end, acts)
	}
	if n, end := drive.Alone(a, x, 100); n != 0 || !end {
		t.Fatalf("Alone behind the end: %d %v", n, end)
	}
	holdEnd(t, x, want)
}

// P19.2: who is not disturbed does three acts, behind which the thread's cell has the root, and no other cell has changed.
func TestAlone(t *testing.T) {
	for threads := 1; threads <= api.MaxThreads; threads++ {
		for thread := range threads {
			for _, root := range edgeWords() {
				a, block := newDesk(t, threads, root)
				want := a.Copy()
				put(t, want, block, desk.TableCell(thread), root)
				holdAlone(t, a, New(siteOf(block, thread, threads)), 3, root)
				holdSame(t, a, want)
			}
		}
	}
}

// P19.2: one behind the other all threads of a desk protect the root that there is then, and one protects again what it had, or another one.
func TestOneBehindTheOther(t *testing.T) {
	a, block := newDesk(t, 64, 2)
	want := a.Copy()
	for round := range 3 {
		for thread := range 64 {
			root := edgeWords()[(round*thread)%len(edgeWords())]
			put(t, a, block, desk.Root, root)
			put(t, want, block, desk.Root, root)
			put(t, want, block, desk.TableCell(thread), root)
			holdAlone(t, a, New(siteOf(block, thread, 64)), 3, root)
			holdSame(t, a, want)
		}
	}
}

// mover: a routine that stores one root behind the other.
type mover struct {
	block uint64
	roots []uint64
}

func (m *mover) Act() (api.Act, bool) {
	if len(m.roots) == 0 {
		return api.Act{}, false
	}
	return api.Act{Kind: api.Store, Block: m.block, Cell: 0, New: m.roots[0]}, true
}

func (m *mover) Take(uint64) {
	if len(m.roots) > 0 {
		m.roots = m.roots[1:]
	}
}

// field: a desk on an arena, and on a second one what it has by the words of the chapter alone; guards of its threads, and all that was answered to each; somebody who moves the root.
type field struct {
	a, want *arena.Arena
	block   uint64
	sites   []api.Site
	guards  []*Guard
	answers [][]uint64
	mover   *mover
	moved   int
}

// newField: a field with a desk for so many threads, a guard for each of these ones of them, and somebody who moves the root from the first of these on to the last.
func newField(t *testing.T, threads int, whose []int, roots ...uint64) *field {
	t.Helper()
	a, block := newDesk(t, threads, roots[0])
	f := &field{a: a, want: a.Copy(), block: block, mover: &mover{block, roots[1:]}}
	for _, thread := range whose {
		s := siteOf(block, thread, threads)
		f.sites = append(f.sites, s)
		f.guards = append(f.guards, New(s))
	}
	f.answers = make([][]uint64, len(whose))
	return f
}

// routines: all guards, and behind them who moves the root.
func (f *field) routines() []api.Routine {
	var out []api.Routine
	for _, x := range f.guards {
		out = append(out, x)
	}
	return append(out, f.mover)
}

// pick: one step of the routine at that place is as the chapter says, and so is what the arena has behind it.
func (f *field) pick(t *testing.T, who int) {
	t.Helper()
	steps := drive.Run(f.a, f.routines(), []int{who})
	if who == len(f.guards) {
		for _, y := range steps {
			put(t, f.want, f.block, desk.Root, y.Act.New)
			f.moved++
		}
		return
	}
	x, _, end := plain(f.sites[who], f.answers[who])
	if end {
		if len(steps) != 0 {
			t.Fatalf("behind the end: %+v", steps)
		}
		return
	}
	f.hold(t, who, x, steps)
}

// hold: the guard at that place did this act, alone; at its end its cell and Root have its answer.
func (f *field) hold(t *testing.T, who int, x api.Act, steps []drive.Step) {
	t.Helper()
	got := uint64(0)
	if x.Kind == api.Load {
		got = cellOf(t, f.want, x.Block, x.Cell)
	} else {
		put(t, f.want, x.Block, x.Cell, x.New)
	}
	if want := (drive.Step{Who: who, Act: x, Got: got}); len(steps) != 1 || steps[0] != want {
		t.Fatalf("steps: %+v; wanted %+v", steps, want)
	}
	f.answers[who] = append(f.answers[who], got)
	_, root, end := plain(f.sites[who], f.answers[who])
	if !end {
		holdNoAnswer(t, f.guards[who])
		return
	}
	if r, done := f.guards[who].Result(); r != root || !done {
		t.Fatalf("answer: %d %v; wanted %d", r, done, root)
	}
	cell := desk.TableCell(f.sites[who].Thread)
	if l, r := cellOf(t, f.a, f.block, cell), cellOf(t, f.a, f.block, desk.Root); l != root || r != root {
		t.Fatalf("at the last Load the thread's cell has %d, Root %d; wanted %d", l, r, root)
	}
}

// run: all picks, and then the guards, one behind the other, to their ends: each has done two acts more than three for each move of the root at the most.
func (f *field) run(t *testing.T, picks []int) {
	t.Helper()
	for _, who := range picks {
		f.pick(t, who)
	}
	for who, x := range f.guards {
		// A root that was read, and moved since, is laid and looked at in vain, and then the one that stays is laid and looked at.
		for range 4 {
			f.pick(t, who)
		}
		root, done := x.Result()
		if acts := len(f.answers[who]); !done || acts > 3+2*f.moved || acts%2 != 1 {
			t.Fatalf("guard %d: %d acts at %d moves, ended %v", who, acts, f.moved, done)
		}
		holdEnd(t, x, root)
	}
	holdSame(t, f.a, f.want)
}

// orders: all rows of picks that have each place as often as it is told.
func orders(many ...int) [][]int {
	var out [][]int
	left := slices.Clone(many)
	for who := range left {
		if left[who] == 0 {
			continue
		}
		left[who]--
		for _, l := range orders(left...) {
			out = append(out, append([]int{who}, l...))
		}
		left[who]++
	}
	if out == nil {
		return [][]int{nil}
	}
	return out
}

// P19.2: the root is moved by somebody else between any two acts, up to four times: to new numbers, back to one that was read, and to the one that it has.
func TestRootMoved(t *testing.T) {
	for _, roots := range [][]uint64{
		{2, 3}, {2, 2}, {0, 1}, {top, 0}, {2, 3, 4}, {2, 3, 2}, {2, 2, 3}, {2, 3, 3}, {2, 3, 4, 5}, {2, 3, 2, 3}, {2, 3, 4, 2}, {2, 3, 2, 4},
		{2, 3, 4, 5, 6}, {2, 3, 2, 3, 2}, {2, 3, 4, 2, 3}, {2, 3, 4, 3, 2}, {0, top, 0, top, 0}, {2, 2, 2, 2, 2}, {2, 3, 3, 2, 2},
	} {
		moves := len(roots) - 1
		for _, picks := range orders(3+2*moves, moves) {
			newField(t, 3, []int{1}, roots...).run(t, picks)
		}
	}
}

// P19.2: a root that is moved and moved back between two looks is protected like one that was not moved.
func TestMovedBack(t *testing.T) {
	f := newField(t, 2, []int{1}, 5, 6, 5)
	f.run(t, []int{0, 1, 0, 1, 0})
	if len(f.answers[0]) != 3 || f.moved != 2 {
		t.Fatalf("%d acts at %d moves", len(f.answers[0]), f.moved)
	}
	holdEnd(t, f.guards[0], 5)
}

// P19.2: a root that is moved ahead of each second look keeps the guard going, and as soon as it stays the guard ends.
func TestMovedOften(t *testing.T) {
	const many = 500
	roots := make([]uint64, many+1)
	for i := range roots {
		roots[i] = uint64(2 + i%7)
	}
	for _, place := range []int{1, 2} {
		f := newField(t, 64, []int{63}, roots...)
		picks := []int{0}
		for range many {
			picks = append(picks, slices.Insert([]int{0, 0}, place-1, 1)...)
		}
		f.run(t, picks)
		if len(f.answers[0]) != 3+2*many {
			t.Fatalf("%d acts at %d moves", len(f.answers[0]), many)
		}
		holdEnd(t, f.guards[0], roots[many])
	}
}

// P19.2: two guards of two threads side by side, in each order of their acts, neither disturbing the other one; and with somebody who moves the root.
func TestTwoGuards(t *testing.T) {
	for _, whose := range [][]int{{0, 1}, {1, 0}, {0, 2}, {2, 1}} {
		for _, root := range []uint64{0, 2, top} {
			for _, picks := range orders(3, 3) {
				f := newField(t, 3, whose, root)
				f.run(t, picks)
				if len(f.answers[0]) != 3 || len(f.answers[1]) != 3 {
					t.Fatalf("%d and %d acts", len(f.answers[0]), len(f.answers[1]))
				}
			}
		}
	}
	for _, roots := range [][]uint64{{2, 3}, {2, 3, 2}, {2, 3, 4}} {
		for _, picks := range orders(4, 4, len(roots)-1) {
			newField(t, 2, []int{0, 1}, roots...).run(t, picks)
		}
	}
}

// P19.1: of a desk that is not there, and on no arena: 0 is answered to each Load, so 0 is the answer, behind three acts.
func TestDeskNotThere(t *testing.T) {
	for _, block := range append(edgeWords()[1:], 4, 5) {
		if block == 1 || block == 2 {
			continue
		}
		a := arena.New(30)
		a.Alloc(4)
		a.Alloc(8)
		a.Free(a.Alloc(8))
		put(t, a, 2, desk.Root, 9)
		before := a.Copy()
		if before.Faults() != 0 {
			t.Fatal("faults")
		}
		x := New(siteOf(block, 1, 3))
		holdAlone(t, a, x, 3, 0)
		if a.Faults() != 3 {
			t.Fatalf("%d faults", a.Faults())
		}
		before.Load(block, 0)
		before.Load(block, 0)
		before.Load(block, 0)
		holdSame(t, a, before)
		for _, none := range []*arena.Arena{nil, {}} {
			holdAlone(t, none, New(siteOf(block, 1, 3)), 3, 0)
		}
	}
}

// P19.1: of a desk that has no cell for the thread: the Store is done all the same, and is a fault; Root is the answer.
func TestDeskTooSmall(t *testing.T) {
	for thread := range 64 {
		for _, cells := range []int{1, 2, desk.TableCell(thread), desk.TableCell(thread) + 1} {
			a := arena.New(200)
			a.Alloc(cells)
			put(t, a, 1, desk.Root, 7)
			want := a.Copy()
			want.Store(1, desk.TableCell(thread), 7)
			holdAlone(t, a, New(siteOf(1, thread, 64)), 3, 7)
			holdSame(t, a, want)
		}
	}
}

// P19.1: of a desk that is freed meanwhile: its Root is answered 0 from then on.
func TestDeskFreedMeanwhile(t *testing.T) {
	for acts := 1; acts <= 2; acts++ {
		a, block := newDesk(t, 3, 5)
		x := New(siteOf(block, 2, 3))
		if n, end := drive.Alone(a, x, acts); n != acts || end {
			t.Fatal(n, end)
		}
		a.Free(block)
		holdAlone(t, a, x, 5-acts, 0)
		if a.Faults() != 5-acts {
			t.Fatalf("%d faults", a.Faults())
		}
	}
}

// scatteredSite: a site that may be, without an order that matters.
func scatteredSite(next func() uint64) api.Site {
	threads := 1 + int(next()>>9%64)
	return api.Site{Desk: next()>>(next()>>9%63) | 1, Thread: int(next() >> 9 % uint64(threads)), Threads: threads, Keep: 1 + int(next()>>9%64), Seed: next()}
}

// P19.1: scattered sites and answers, of few numbers and of all, held against the chapter's words answer by answer.
func TestScattered(t *testing.T) {
	next := row(192)
	for range 20000 {
		s := scatteredSite(next)
		few := 2 + next()>>9%6
		answers := make([]uint64, 1+next()>>9%40)
		above := next()
		for i := range answers {
			answers[i] = above + next()>>9%few
		}
		holdAnswers(t, s, answers)
		for i := range answers {
			answers[i] = next() >> (next() >> 9 % 64)
		}
		holdAnswers(t, s, answers)
	}
}

// P19.1: scattered sites, of which some may not be.
func TestScatteredSites(t *testing.T) {
	next := row(193)
	for range 50000 {
		part := func() int { return int(next()>>9%70) - 2 }
		s := api.Site{Desk: next() >> 9 % 8, Thread: part(), Threads: part(), Keep: part(), Seed: next()}
		may := s.Desk != 0 && s.Threads >= 1 && s.Threads <= 64 && s.Thread >= 0 && s.Thread < s.Threads && s.Keep >= 1 && s.Keep <= 64
		holdSite(t, s, may)
	}
}

// P19.2: several guards and somebody who moves the root, picked without an order that matters.
func TestScatteredRuns(t *testing.T) {
	next := row(194)
	for range 3000 {
		threads := 1 + int(next()>>9%64)
		var whose []int
		for thread := range threads {
			if next()>>9%3 == 0 && len(whose) < 8 {
				whose = append(whose, thread)
			}
		}
		roots := make([]uint64, 1+next()>>9%30)
		few := 1 + next()>>9%5
		for i := range roots {
			roots[i] = next() >> 9 % few
		}
		picks := make([]int, next()>>9%120)
		for i := range picks {
			picks[i] = int(next() >> 9 % uint64(len(whose)+1))
		}
		newField(t, threads, whose, roots...).run(t, picks)
	}
}
