package crowd

import (
	"math"
	"math/big"
	"slices"
	"testing"

	"sprocket/api"
	"sprocket/arena"
	"sprocket/drive"
	"sprocket/table"
)

const top = math.MaxUint64

// row: the next one of a row of words without an order that matters, each time.
func row(w uint64) func() uint64 {
	return func() uint64 {
		w = w*6364136223846793005 + 1442695040888963407
		return w>>33 ^ w<<7
	}
}

// edgeWords: numbers of blocks, and answers: small and great ones, 0 and the greatest.
func edgeWords() []uint64 {
	return []uint64{0, 1, 2, 3, 6, 7, 8, 9, 255, 256, 65535, 65536, math.MaxInt32, math.MaxUint32, 1 << 32, 1<<61 - 1, 1 << 61, math.MaxInt64, 1 << 63, top - 1, top}
}

// edgeNumbers: numbers of logs and threads, on both sides of each bound, and of Go's types.
func edgeNumbers() []int {
	return []int{math.MinInt, math.MinInt + 1, math.MinInt + 2, math.MinInt + 3, math.MinInt32, -65, -64, -63, -10, -9, -3, -2, -1, 0, 1, 2, 3, 8, 9, 10, 11, 31, 62, 63, 64, 65, 66, 127, 128, 256, 1 << 32, 1<<32 + 1, 1 << 62, math.MaxInt32, math.MaxInt - 3, math.MaxInt - 2, math.MaxInt - 1, math.MaxInt}
}

// limitOf: from how many claims on a table of the log is crowded, by the words of the chapter of tables: seven for each group, of which each log has twice as many as the one ahead of it.
func limitOf(log int) uint64 {
	return []uint64{7, 14, 28, 56, 112, 224, 448, 896, 1792, 3584}[log]
}

// counts: what the four stripes of a table tell.
type counts [4]uint64

// isCrowded: what the chapter says of a table of the log with these counts, in numbers without bound.
func isCrowded(log int, c counts) bool {
	sum := new(big.Int)
	for _, w := range c {
		sum.Add(sum, new(big.Int).SetUint64(w))
	}
	sum.Mod(sum, new(big.Int).Lsh(big.NewInt(1), 64))
	return sum.Cmp(new(big.Int).SetUint64(limitOf(log))) >= 0
}

// load: the act that reads the i-th stripe of a table.
func load(t api.Table, i int) api.Act {
	return api.Act{Kind: api.Load, Block: t.Block, Cell: 3 + i}
}

// holdNoAnswer: there is no answer.
func holdNoAnswer(t *testing.T, x *Crowd) {
	t.Helper()
	if got, done := x.Result(); got || done {
		t.Fatalf("Result: %v %v; wanted none", got, done)
	}
}

// holdAct: the act that comes next is this one, however often it is asked, and there is no answer yet.
func holdAct(t *testing.T, x *Crowd, want api.Act) {
	t.Helper()
	for range 3 {
		if got, more := x.Act(); got != want || !more {
			t.Fatalf("Act: %+v %v; wanted %+v", got, more, want)
		}
		holdNoAnswer(t, x)
	}
}

// holdEnd: no act comes any more, and this is the answer, however often both are asked, and whatever is taken.
func holdEnd(t *testing.T, x *Crowd, want bool) {
	t.Helper()
	for _, w := range edgeWords() {
		if got, more := x.Act(); got != (api.Act{}) || more {
			t.Fatalf("Act at the end: %+v %v; wanted none", got, more)
		}
		for range 2 {
			if got, done := x.Result(); got != want || !done {
				t.Fatalf("Result at the end: %v %v; wanted %v", got, done, want)
			}
		}
		x.Take(w)
	}
}

// holdNothing: there is neither an act nor an answer, whatever is taken.
func holdNothing(t *testing.T, x *Crowd) {
	t.Helper()
	for _, w := range append(edgeWords(), 0, 0, 0, 0, 7, 7, 7, 7) {
		if got, more := x.Act(); got != (api.Act{}) || more {
			t.Fatalf("Act: %+v %v; wanted none", got, more)
		}
		for range 2 {
			holdNoAnswer(t, x)
		}
		x.Take(w)
	}
}

// holdAnswer: a crowd of the table, to whose Loads these are answered, does the chapter's acts in order, and has this answer.
func holdAnswer(t *testing.T, of api.Table, c counts, want bool) {
	t.Helper()
	x := New(of)
	for i, w := range c {
		holdAct(t, x, load(of, i))
		x.Take(w)
	}
	holdEnd(t, x, want)
}

// holdCounts: a crowd of the table, to whose Loads these are answered, does as the chapter says.
func holdCounts(t *testing.T, of api.Table, c counts) {
	t.Helper()
	holdAnswer(t, of, c, isCrowded(of.Log, c))
}

// spreads: four counts that are this together, modulo 2^64: all in each one stripe, halved between each two, nearly all in one, and so great that they go round.
func spreads(sum uint64) []counts {
	var out []counts
	for i := range 4 {
		var alone counts
		alone[i] = sum
		out = append(out, alone)
		for k := range 4 {
			var two, round counts
			two[i] = sum / 2
			two[k] += sum - sum/2
			round[i] = 1 << 63
			round[k] += 1<<63 + sum
			out = append(out, two, round)
		}
		most := counts{1, 1, 1, 1}
		most[i] = sum - 3
		great := counts{top, top, top, top}
		great[i] = sum + 3
		out = append(out, most, great)
	}
	return append(out, counts{sum / 4, sum / 4, sum / 4, sum - sum/4*3}, counts{1 << 62, 1 << 62, 1 << 62, 1<<62 + sum})
}

// The chapter's example.
func TestExample(t *testing.T) {
	a := newArena(t, 0)
	of := api.Table{Block: tableBlock}
	for range 6 {
		note(t, a, Note(of, 0))
	}
	holdAlone(t, a, New(of), false)
	note(t, a, Note(of, 0))
	holdAlone(t, a, New(of), true)
}

// P21.1: acts and answers written out.
func TestByHand(t *testing.T) {
	l := func(block uint64, cell int) api.Act { return api.Act{Kind: api.Load, Block: block, Cell: cell} }
	for _, c := range []struct {
		of   api.Table
		acts [4]api.Act
		got  counts
		want bool
	}{
		{api.Table{Block: 1}, [4]api.Act{l(1, 3), l(1, 4), l(1, 5), l(1, 6)}, counts{}, false},
		{api.Table{Block: 2}, [4]api.Act{l(2, 3), l(2, 4), l(2, 5), l(2, 6)}, counts{1, 2, 3, 0}, false},
		{api.Table{Block: 3}, [4]api.Act{l(3, 3), l(3, 4), l(3, 5), l(3, 6)}, counts{1, 2, 3, 1}, true},
		{api.Table{Block: 4}, [4]api.Act{l(4, 3), l(4, 4), l(4, 5), l(4, 6)}, counts{0, 0, 0, 8}, true},
		{api.Table{Block: 1 << 32, Log: 1}, [4]api.Act{l(1<<32, 3), l(1<<32, 4), l(1<<32, 5), l(1<<32, 6)}, counts{7, 0, 0, 6}, false},
		{api.Table{Block: top, Log: 1}, [4]api.Act{l(top, 3), l(top, 4), l(top, 5), l(top, 6)}, counts{7, 0, 0, 7}, true},
		{api.Table{Block: 9, Log: 9}, [4]api.Act{l(9, 3), l(9, 4), l(9, 5), l(9, 6)}, counts{3583, 0, 0, 0}, false},
		{api.Table{Block: 9, Log: 9}, [4]api.Act{l(9, 3), l(9, 4), l(9, 5), l(9, 6)}, counts{896, 896, 896, 896}, true},
		{api.Table{Block: 9}, [4]api.Act{l(9, 3), l(9, 4), l(9, 5), l(9, 6)}, counts{top, 1, 0, 0}, false},
		{api.Table{Block: 9}, [4]api.Act{l(9, 3), l(9, 4), l(9, 5), l(9, 6)}, counts{top, 7, 0, 0}, false},
		{api.Table{Block: 9}, [4]api.Act{l(9, 3), l(9, 4), l(9, 5), l(9, 6)}, counts{top, 7, 0, 1}, true},
		{api.Table{Block: 9, Log: 9}, [4]api.Act{l(9, 3), l(9, 4), l(9, 5), l(9, 6)}, counts{top, 0, 0, 0}, true},
	} {
		x := New(c.of)
		for i, want := range c.acts {
			holdAct(t, x, want)
			x.Take(c.got[i])
		}
		holdEnd(t, x, c.want)
	}
}

// P21.1: tables of each log, in blocks of small and of great numbers, whose stripes are together one below Limit, Limit, one beyond it, and the least and the greatest of all.
func TestEachTable(t *testing.T) {
	for log := range 10 {
		limit := limitOf(log)
		for _, block := range edgeWords()[1:] {
			of := api.Table{Block: block, Log: log}
			for sum, want := range map[uint64]bool{0: false, 1: false, limit / 2: false, limit - 2: false, limit - 1: false, limit: true, limit + 1: true, 2 * limit: true, 1 << 63: true, top: true} {
				for _, c := range spreads(sum) {
					holdAnswer(t, of, c, want)
				}
			}
		}
	}
}

// P21.1: stripes of edge numbers, each in each place, held against numbers without bound.
func TestEdges(t *testing.T) {
	some := []uint64{0, 1, 6, 7, 3584, 1 << 62, 1<<63 - 1, 1 << 63, 1<<63 + 7, top - 6, top}
	for _, log := range []int{0, 9} {
		for _, a := range some {
			for _, b := range some {
				for _, c := range some {
					for _, d := range some {
						of := api.Table{Block: 5, Log: log}
						x := New(of)
						for _, w := range []uint64{a, b, c, d} {
							holdNoAnswer(t, x)
							x.Take(w)
						}
						if got, done := x.Result(); got != isCrowded(log, counts{a, b, c, d}) || !done {
							t.Fatalf("%d: %d %d %d %d: %v %v", log, a, b, c, d, got, done)
						}
					}
				}
			}
		}
	}
}

// P21.1: sums on both sides of 2^64 go round once, twice and three times.
func TestGoesRound(t *testing.T) {
	for log := range 10 {
		limit := limitOf(log)
		of := api.Table{Block: 6, Log: log}
		for _, c := range []struct {
			got  counts
			want bool
		}{
			{counts{top, 0, 0, 0}, true},
			{counts{top, 1, 0, 0}, false},
			{counts{1 << 63, 0, 1 << 63, 0}, false},
			{counts{1 << 62, 1 << 62, 1 << 62, 1 << 62}, false},
			{counts{1 << 62, 1 << 62, 1 << 62, 1<<62 - 1}, true},
			{counts{top, 0, 0, limit}, false},
			{counts{limit, top, 0, 1}, true},
			{counts{top, top, 1, limit}, false},
			{counts{top, top, 2, limit}, true},
			{counts{top, top, top, limit + 2}, false},
			{counts{top, top, top, limit + 3}, true},
			{counts{limit + 2, top, top, top}, false},
			{counts{limit + 3, top, top, top}, true},
			{counts{top, top, top, top}, true},
			{counts{top, top, top, 3}, false},
			{counts{top, top, top, 2}, true},
			{counts{-limit, limit, -limit, 2 * limit}, true},
			{counts{-limit, limit, -limit, 2*limit - 1}, false},
		} {
			holdAnswer(t, of, c.got, c.want)
		}
	}
}

// holdMay: a crowd of the table asks as the chapter says, if there may be such a table, and does nothing, if not.
func holdMay(t *testing.T, of api.Table, may bool) {
	t.Helper()
	if !may {
		holdNothing(t, New(of))
		return
	}
	limit := limitOf(of.Log)
	holdAnswer(t, of, counts{0, limit - 1, 0, 0}, false)
	holdAnswer(t, of, counts{1, limit - 2, 0, 1}, true)
}

// P21.1: each bound of each part of a table, on both sides.
func TestBounds(t *testing.T) {
	for _, block := range edgeWords() {
		for _, log := range edgeNumbers() {
			holdMay(t, api.Table{Block: block, Log: log}, block != 0 && log >= 0 && log <= 9)
		}
		for log := -80; log <= 80; log++ {
			holdMay(t, api.Table{Block: block, Log: log}, block != 0 && log >= 0 && log <= 9)
		}
	}
	holdMay(t, api.Table{}, false)
}

// P21.1: a table that is changed behind New does not matter, and New changes none.
func TestTableIsCopied(t *testing.T) {
	of := api.Table{Block: 4, Log: 2}
	x := New(of)
	if of != (api.Table{Block: 4, Log: 2}) {
		t.Fatalf("%+v", of)
	}
	of = api.Table{Log: 77}
	for i, w := range []uint64{27, 0, 0, 1} {
		holdAct(t, x, load(api.Table{Block: 4}, i))
		x.Take(w)
	}
	holdEnd(t, x, true)
	holdNothing(t, New(of))
}

// P21.1: a crowd goes on whether or not it is asked for its act or its answer meanwhile.
func TestUnasked(t *testing.T) {
	for asks := range 4 {
		for _, c := range []counts{{}, {7}, {0, 7}, {0, 0, 7}, {0, 0, 0, 7}, {1, 2, 3}, {6, 0, 0, 1}, {top, top, top, top}, {top, 1, 1, 5}} {
			x := New(api.Table{Block: 3})
			for _, w := range c {
				for range asks {
					x.Act()
					x.Result()
				}
				x.Take(w)
			}
			holdEnd(t, x, isCrowded(0, c))
		}
	}
}

// P21.1: crowds of one table and of several are apart, and go on each by its own answers.
func TestApart(t *testing.T) {
	of, far := api.Table{Block: 3}, api.Table{Block: 4, Log: 1}
	x, y, other := New(of), New(of), New(far)
	x.Take(7)
	holdAct(t, y, load(of, 0))
	holdAct(t, other, load(far, 0))
	y.Take(1)
	other.Take(6)
	x.Take(0)
	holdAct(t, y, load(of, 1))
	holdAct(t, x, load(of, 2))
	for range 3 {
		y.Take(1)
		other.Take(2)
		x.Take(0)
	}
	holdEnd(t, x, true)
	holdEnd(t, y, false)
	holdEnd(t, other, false)
	z := New(far)
	holdAct(t, z, load(far, 0))
	holdEnd(t, x, true)
}

// P21.1: a nil crowd, and one that New did not make.
func TestNobodyMade(t *testing.T) {
	var plainly Crowd
	for _, x := range []*Crowd{nil, {}, new(Crowd), &plainly} {
		holdNothing(t, x)
		a := newArena(t, 2)
		before := a.Copy()
		var r api.Routine = x
		if n, end := drive.Alone(a, r, 100); n != 0 || !end {
			t.Fatalf("%d acts, %v", n, end)
		}
		if steps := drive.Run(a, []api.Routine{r}, []int{0, 0, 0}); len(steps) != 0 {
			t.Fatalf("steps: %+v", steps)
		}
		holdSame(t, a, before)
		holdNothing(t, x)
	}
}

// restBy4: a number's rest by 4, from 0 on, in numbers without bound.
func restBy4(n int) int {
	return int(new(big.Int).Mod(big.NewInt(int64(n)), big.NewInt(4)).Int64())
}

// P21.2: the act of each thread, of negative numbers, and of the greatest and the least ones, for tables of each log and for those that may not be.
func TestNote(t *testing.T) {
	threads := edgeNumbers()
	for thread := -200; thread <= 200; thread++ {
		threads = append(threads, thread)
	}
	for _, thread := range threads {
		for _, block := range edgeWords() {
			for _, log := range edgeNumbers() {
				want := api.Act{Kind: api.Add, Block: block, Cell: 3 + restBy4(thread), New: 1}
				if got := Note(api.Table{Block: block, Log: log}, thread); got != want {
					t.Fatalf("block %d, log %d, thread %d: %+v; wanted %+v", block, log, thread, got, want)
				}
			}
		}
	}
}

// P21.2: acts written out.
func TestNoteByHand(t *testing.T) {
	for _, c := range []struct {
		of     api.Table
		thread int
		want   api.Act
	}{
		{api.Table{Block: 6}, 0, api.Act{Kind: api.Add, Block: 6, Cell: 3, New: 1}},
		{api.Table{Block: 6, Log: 1}, 63, api.Act{Kind: api.Add, Block: 6, Cell: 6, New: 1}},
		{api.Table{Block: top, Log: 9}, 5, api.Act{Kind: api.Add, Block: top, Cell: 4, New: 1}},
		{api.Table{Block: 1, Log: 3}, 64, api.Act{Kind: api.Add, Block: 1, Cell: 3, New: 1}},
		{api.Table{Block: 1}, -1, api.Act{Kind: api.Add, Block: 1, Cell: 6, New: 1}},
		{api.Table{Block: 1}, -3, api.Act{Kind: api.Add, Block: 1, Cell: 4, New: 1}},
		{api.Table{Block: 1}, math.MinInt, api.Act{Kind: api.Add, Block: 1, Cell: 3, New: 1}},
		{api.Table{Block: 1}, math.MaxInt, api.Act{Kind: api.Add, Block: 1, Cell: 6, New: 1}},
		{api.Table{}, 2, api.Act{Kind: api.Add, Cell: 5, New: 1}},
		{api.Table{Log: -1}, 1, api.Act{Kind: api.Add, Cell: 4, New: 1}},
		{api.Table{Block: 9, Log: 10}, 2, api.Act{Kind: api.Add, Block: 9, Cell: 5, New: 1}},
	} {
		if got := Note(c.of, c.thread); got != c.want {
			t.Fatalf("%+v %d: %+v; wanted %+v", c.of, c.thread, got, c.want)
		}
	}
}

// The blocks of newArena: one ahead of the table, the table, and one more table of log 0 behind it.
const (
	tableBlock  = 2
	secondTable = 3
)

// newArena: an arena that has a table of the log, without a claim, and a second one, each cell of them but the stripes with a word of its own.
func newArena(t *testing.T, log int) *arena.Arena {
	t.Helper()
	a := arena.New(5000)
	next := row(uint64(log))
	for b, n := range []int{5, table.Size(log), table.Size(0)} {
		if got := a.Alloc(n); got != uint64(b+1) {
			t.Fatalf("Alloc of %d: %d", n, got)
		}
		for i := range n {
			if b == 0 || i < 3 || i > 6 {
				put(t, a, uint64(b+1), i, next())
			}
		}
	}
	return a
}

// put: a cell of a block has this word now.
func put(t *testing.T, a *arena.Arena, b uint64, cell int, w uint64) {
	t.Helper()
	if err := a.Store(b, cell, w); err != api.OK {
		t.Fatalf("cell %d of block %d: %v", cell, b, err)
	}
}

// cellOf: the word of a block's cell.
func cellOf(t *testing.T, a *arena.Arena, b uint64, cell int) uint64 {
	t.Helper()
	w, err := a.Load(b, cell)
	if err != api.OK {
		t.Fatalf("cell %d of block %d: %v", cell, b, err)
	}
	return w
}

// putStripes: the stripes of a table have these words now.
func putStripes(t *testing.T, a *arena.Arena, b uint64, c counts) {
	t.Helper()
	for i, w := range c {
		put(t, a, b, 3+i, w)
	}
}

// holdSame: both arenas have the same blocks with the same words, as many cells used, and as many faults.
func holdSame(t *testing.T, got, want *arena.Arena) {
	t.Helper()
	if !slices.Equal(got.Blocks(), want.Blocks()) || got.Used() != want.Used() || got.Faults() != want.Faults() {
		t.Fatalf("blocks %d, %d cells used, %d faults; wanted %d, %d, %d", got.Blocks(), got.Used(), got.Faults(), want.Blocks(), want.Used(), want.Faults())
	}
	for _, b := range want.Blocks() {
		if got.Size(b) != want.Size(b) {
			t.Fatalf("block %d: %d cells; wanted %d", b, got.Size(b), want.Size(b))
		}
		for i := range want.Size(b) {
			if w, v := cellOf(t, got, b, i), cellOf(t, want, b, i); w != v {
				t.Fatalf("block %d, cell %d: %d; wanted %d", b, i, w, v)
			}
		}
	}
}

// holdAlone: done alone on the arena, four acts are done, and this is the answer, behind which no act is done.
func holdAlone(t *testing.T, a *arena.Arena, x *Crowd, want bool) {
	t.Helper()
	if n, end := drive.Alone(a, x, 100); n != 4 || !end {
		t.Fatalf("Alone: %d %v", n, end)
	}
	if n, end := drive.Alone(a, x, 100); n != 0 || !end {
		t.Fatalf("Alone behind the end: %d %v", n, end)
	}
	holdEnd(t, x, want)
}

// acts: a routine that does one act behind the other.
type acts struct{ left []api.Act }

func (r *acts) Act() (api.Act, bool) {
	if len(r.left) == 0 {
		return api.Act{}, false
	}
	return r.left[0], true
}

func (r *acts) Take(uint64) {
	if len(r.left) > 0 {
		r.left = r.left[1:]
	}
}

// note: one act is done on the arena, alone.
func note(t *testing.T, a *arena.Arena, x api.Act) {
	t.Helper()
	if n, end := drive.Alone(a, &acts{[]api.Act{x}}, 10); n != 1 || !end {
		t.Fatalf("Alone: %d %v", n, end)
	}
}

// P21.1: on an arena that has the table, four Loads in a row of its stripes tell the answer, and no cell changes.
func TestAlone(t *testing.T) {
	for log := range 10 {
		for _, sum := range []uint64{0, limitOf(log) - 1, limitOf(log), limitOf(log) + 1, top} {
			for _, c := range spreads(sum) {
				a := newArena(t, log)
				putStripes(t, a, tableBlock, c)
				putStripes(t, a, secondTable, counts{top, 0, limitOf(log), 1})
				before := a.Copy()
				holdAlone(t, a, New(api.Table{Block: tableBlock, Log: log}), sum >= limitOf(log))
				holdSame(t, a, before)
			}
		}
	}
}

// P21.1: the log of the table that is asked for counts, not the one of which the block was made.
func TestOtherLog(t *testing.T) {
	for log := range 10 {
		a := newArena(t, 0)
		putStripes(t, a, tableBlock, counts{limitOf(log) - 1, 0, 0, 0})
		holdAlone(t, a, New(api.Table{Block: tableBlock, Log: log}), false)
		putStripes(t, a, tableBlock, counts{0, 1, limitOf(log) - 2, 1})
		holdAlone(t, a, New(api.Table{Block: tableBlock, Log: log}), true)
	}
}

// P21.2: each thread's Note adds 1 to its own stripe, behind which no other cell has changed, also where that goes round.
func TestNoteAlone(t *testing.T) {
	for thread := range 64 {
		for _, w := range edgeWords() {
			a := newArena(t, 3)
			putStripes(t, a, tableBlock, counts{w, w, w, w})
			want := a.Copy()
			put(t, want, tableBlock, 3+thread%4, w+1)
			note(t, a, Note(api.Table{Block: tableBlock, Log: 3}, thread))
			holdSame(t, a, want)
		}
	}
}

// P21.3: behind as many Notes as Limit a table that had none is crowded, behind fewer it is not: of one thread, of threads with one stripe, of all threads in rising and falling order, by turns, and of scattered ones.
func TestNotesCount(t *testing.T) {
	next := row(212)
	for log := range 10 {
		for _, who := range []func(int) int{
			func(int) int { return 0 },
			func(int) int { return 3 },
			func(int) int { return 61 },
			func(i int) int { return 4*i%64 + 2 },
			func(i int) int { return i % 64 },
			func(i int) int { return 63 - i%64 },
			func(i int) int { return i % 2 },
			func(i int) int { return i % 3 * 21 },
			func(i int) int { return i / 64 % 64 },
			func(int) int { return int(next() >> 9 % 64) },
		} {
			holdNotes(t, log, who)
		}
	}
}

// holdNotes: a table of the log is noted in by these threads, one behind the other; it is crowded from Limit on.
func holdNotes(t *testing.T, log int, who func(int) int) {
	t.Helper()
	of := api.Table{Block: tableBlock, Log: log}
	a := newArena(t, log)
	want := a.Copy()
	limit := int(limitOf(log))
	for i := range limit + 20 {
		// With many Notes only those around the limit, and few others, are asked behind.
		if limit < 100 || i%97 == 0 || i > limit-5 && i < limit+5 {
			holdAlone(t, a, New(of), i >= limit)
		}
		thread := who(i)
		note(t, a, Note(of, thread))
		put(t, want, tableBlock, 3+thread%4, cellOf(t, want, tableBlock, 3+thread%4)+1)
	}
	holdSame(t, a, want)
	holdAlone(t, a, New(api.Table{Block: secondTable}), false)
}

// orders: all rows of picks that have each place as often as it is told.
func orders(many ...int) [][]int {
	var out [][]int
	left := slices.Clone(many)
	for who := range left {
		if left[who] == 0 {
			continue
		}
		left[who]--
		for _, l := range orders(left...) {
			out = append(out, append([]int{who}, l...))
		}
		left[who]++
	}
	if out == nil {
		return [][]int{nil}
	}
	return out
}

// P21.3: Notes of four threads, two each, in every order: crowded from the seventh on, whoever did it.
func TestNotesInEveryOrder(t *testing.T) {
	of := api.Table{Block: tableBlock}
	for _, threads := range [][]int{{0, 1, 2, 3}, {5, 9, 2, 13}, {4, 8, 12, 16}} {
		for _, picks := range orders(2, 2, 2, 2) {
			a := newArena(t, 0)
			for i, who := range picks {
				note(t, a, Note(of, threads[who]))
				x := New(of)
				drive.Alone(a, x, 4)
				if got, done := x.Result(); got != (i >= 6) || !done {
					t.Fatalf("%v: behind %d: %v %v", picks, i+1, got, done)
				}
			}
		}
	}
}

// field: a table on an arena, whose stripes have these counts; crowds of it, and what was answered to each; somebody who notes.
type field struct {
	a       *arena.Arena
	of      api.Table
	have    counts
	crowds  []*Crowd
	answers [][]uint64
	notes   *acts
}

// newField: a field with a table of the log, whose stripes have these, so many crowds of it, and Notes of these threads in order.
func newField(t *testing.T, log int, have counts, many int, threads ...int) *field {
	t.Helper()
	f := &field{a: newArena(t, log), of: api.Table{Block: tableBlock, Log: log}, have: have, answers: make([][]uint64, many), notes: &acts{}}
	putStripes(t, f.a, tableBlock, have)
	for range many {
		f.crowds = append(f.crowds, New(f.of))
	}
	for _, thread := range threads {
		f.notes.left = append(f.notes.left, Note(f.of, thread))
	}
	return f
}

// pick: one step of the crowd at that place, or of who notes, is as the chapter says.
func (f *field) pick(t *testing.T, who int) {
	t.Helper()
	var all []api.Routine
	for _, x := range f.crowds {
		all = append(all, x)
	}
	steps := drive.Run(f.a, append(all, f.notes), []int{who})
	if who == len(f.crowds) {
		for _, y := range steps {
			f.have[y.Act.Cell-3]++
		}
		return
	}
	i := len(f.answers[who])
	if i == 4 {
		if len(steps) != 0 {
			t.Fatalf("behind the end: %+v", steps)
		}
		return
	}
	if want := (drive.Step{Who: who, Act: load(f.of, i), Got: f.have[i]}); len(steps) != 1 || steps[0] != want {
		t.Fatalf("steps: %+v; wanted %+v", steps, want)
	}
	f.answers[who] = append(f.answers[who], f.have[i])
	if i < 3 {
		holdNoAnswer(t, f.crowds[who])
		return
	}
	holdEnd(t, f.crowds[who], isCrowded(f.of.Log, counts(f.answers[who])))
}

// run: all picks, and then the crowds, one behind the other, to their ends; behind it all the stripes have what was noted, and nothing else has changed.
func (f *field) run(t *testing.T, picks []int) {
	t.Helper()
	want := f.a.Copy()
	for _, who := range picks {
		f.pick(t, who)
	}
	for who := range f.crowds {
		for range 5 {
			f.pick(t, who)
		}
	}
	putStripes(t, want, tableBlock, f.have)
	holdSame(t, f.a, want)
}

// P21.1: two crowds of one table in every order of their acts.
func TestTwoCrowds(t *testing.T) {
	for _, have := range []counts{{}, {1, 2, 3, 0}, {1, 2, 3, 1}, {top, 8, 0, 0}} {
		for _, picks := range orders(4, 4) {
			newField(t, 0, have, 2).run(t, picks)
		}
	}
}

// P21.1: somebody notes between any two Loads: of the stripes that were read ahead of that it does not matter.
func TestDisturbed(t *testing.T) {
	for _, have := range []counts{{}, {1, 2, 3, 0}, {0, 0, 0, 5}, {4, 1, 0, 0}, {top, 0, 7, 0}} {
		for _, threads := range [][]int{{0}, {3}, {1, 2}, {2, 1}, {3, 3}, {0, 3, 0}, {3, 2, 1, 0}, {0, 1, 2, 3}} {
			for _, picks := range orders(4, len(threads)) {
				newField(t, 0, have, 1, threads...).run(t, picks)
			}
		}
	}
	// Written out: of two stripes that are noted in, the one that was read already is not counted.
	f := newField(t, 0, counts{0, 0, 0, 5}, 1, 0, 3)
	f.run(t, []int{0, 1, 1, 0, 0, 0})
	holdEnd(t, f.crowds[0], false)
	f = newField(t, 0, counts{0, 0, 0, 5}, 1, 0, 3)
	f.run(t, []int{1, 0, 1, 0, 0, 0})
	holdEnd(t, f.crowds[0], true)
}

// P21.1: two crowds, and somebody who notes, in every order.
func TestTwoCrowdsDisturbed(t *testing.T) {
	for _, threads := range [][]int{{1}, {0, 3}, {2, 2}} {
		for _, picks := range orders(4, 4, len(threads)) {
			newField(t, 0, counts{2, 1, 1, 1}, 2, threads...).run(t, picks)
		}
	}
}

// P21.1, P21.2: of a table that is not there, and on no arena: each Load is answered 0, so it is not crowded, and each act is a fault; a Note makes none crowded.
func TestNotThere(t *testing.T) {
	for log := range 10 {
		for _, block := range []uint64{4, 5, 1 << 32, top} {
			of := api.Table{Block: block, Log: log}
			a := newArena(t, 1)
			a.Free(a.Alloc(16))
			want := a.Copy()
			for i := range 4 {
				want.Load(block, 3+i)
			}
			holdAlone(t, a, New(of), false)
			holdSame(t, a, want)
			for range limitOf(log) {
				note(t, a, Note(of, 1))
			}
			if a.Faults() != 4+int(limitOf(log)) {
				t.Fatalf("%d faults", a.Faults())
			}
			holdAlone(t, a, New(of), false)
			for _, none := range []*arena.Arena{nil, {}} {
				holdAlone(t, none, New(of), false)
			}
		}
	}
}

// P21.1: of a block that has some of the stripes, or none, the others are 0, and each of their Loads is a fault.
func TestTooSmall(t *testing.T) {
	for size := 1; size <= 8; size++ {
		a := arena.New(100)
		b := a.Alloc(size)
		have := 0
		for i := range size {
			if i >= 3 && i <= 6 {
				put(t, a, b, i, 2)
				have++
			} else {
				put(t, a, b, i, 100)
			}
		}
		holdAlone(t, a, New(api.Table{Block: b}), have == 4)
		if a.Faults() != 4-have {
			t.Fatalf("size %d: %d faults", size, a.Faults())
		}
	}
}

// P21.1: of a table that is freed meanwhile the stripes that were read ahead of that count, the others are 0.
func TestFreedMeanwhile(t *testing.T) {
	for acts := range 5 {
		a := newArena(t, 0)
		putStripes(t, a, tableBlock, counts{3, 3, 3, 3})
		x := New(api.Table{Block: tableBlock})
		if n, end := drive.Alone(a, x, acts); n != acts || end != (acts == 4) {
			t.Fatal(n, end)
		}
		a.Free(tableBlock)
		if n, end := drive.Alone(a, x, 100); n != 4-acts || !end {
			t.Fatal(n, end)
		}
		holdEnd(t, x, acts >= 3)
		if a.Faults() != 4-acts {
			t.Fatalf("%d faults", a.Faults())
		}
	}
}

// P21.1: scattered tables and answers, small and great ones, held against numbers without bound.
func TestScattered(t *testing.T) {
	next := row(213)
	for range 30000 {
		of := api.Table{Block: next()>>(next()>>9%63) | 1, Log: int(next() >> 9 % 10)}
		var c counts
		for i := range c {
			c[i] = next() >> (next() >> 9 % 64)
		}
		holdCounts(t, of, c)
		for i := range c {
			c[i] = next() >> 9 % (limitOf(of.Log) / 2)
		}
		holdCounts(t, of, c)
		// Around the limit, going round or not.
		c[next()>>9%4] = next()
		at := next() >> 9 % 4
		c[at] += limitOf(of.Log) + next()>>9%3 - 1 - (c[0] + c[1] + c[2] + c[3])
		holdCounts(t, of, c)
	}
}

// P21.1: scattered blocks and logs, of which some may not be.
func TestScatteredTables(t *testing.T) {
	next := row(214)
	for range 30000 {
		of := api.Table{Block: next() >> 9 % 4, Log: int(next()>>9%16) - 3}
		if next()>>9%8 == 0 {
			of.Log = int(next() << (next() >> 9 % 64))
		}
		holdMay(t, of, of.Block != 0 && of.Log >= 0 && of.Log <= 9)
	}
}

// P21.2: scattered tables and threads.
func TestScatteredNotes(t *testing.T) {
	next := row(215)
	for range 100000 {
		of := api.Table{Block: next() >> (next() >> 9 % 64), Log: int(next() << (next() >> 9 % 64))}
		thread := int(next() << (next() >> 9 % 64))
		want := api.Act{Kind: api.Add, Block: of.Block, Cell: 3 + restBy4(thread), New: 1}
		if got := Note(of, thread); got != want {
			t.Fatalf("%+v, thread %d: %+v; wanted %+v", of, thread, got, want)
		}
	}
}

// P21.1 to P21.3: several crowds of one table, and somebody who notes, picked without an order that matters.
func TestScatteredRuns(t *testing.T) {
	next := row(216)
	for range 3000 {
		log := int(next() >> 9 % 3)
		var have counts
		for i := range have {
			have[i] = next() >> 9 % (limitOf(log) / 3)
		}
		if next()>>9%4 == 0 {
			have[next()>>9%4] -= limitOf(log)
		}
		many := int(next() >> 9 % 5)
		threads := make([]int, next()>>9%20)
		for i := range threads {
			threads[i] = int(next() >> 9 % 64)
		}
		picks := make([]int, next()>>9%60)
		for i := range picks {
			picks[i] = int(next() >> 9 % uint64(many+1))
		}
		newField(t, log, have, many, threads...).run(t, picks)
	}
}
