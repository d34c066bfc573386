package desk

import (
	"math"
	"math/big"
	"testing"

	"sprocket/api"
)

// farNumbers: the least and the greatest numbers of Go's types, those around them, those whose double or half is near a bound, and those that have a small number's rest.
func farNumbers() []int {
	out := []int{
		math.MinInt, math.MinInt + 1, math.MinInt + 2, math.MinInt + 3, math.MinInt + 64, math.MinInt + 130, math.MinInt / 2, math.MinInt/2 - 1, math.MinInt/2 + 1,
		math.MinInt32, math.MinInt32 + 1, math.MinInt16, math.MinInt8, -1 << 62, -1 << 33, -1 << 32, -1<<32 + 1, -256, -255, -130, -129, -128, -127, -66, -65, -64, -63, -4, -3, -2, -1,
		256, 257, 258, 1 << 16, 1<<16 + 1, 1 << 31, 1 << 32, 1<<32 + 1, 1<<32 + 2, 1<<32 + 64, 1 << 62, 1<<62 - 1, 1<<62 + 1,
		math.MaxInt8, math.MaxInt16, math.MaxInt32, math.MaxUint32, math.MaxInt / 2, math.MaxInt/2 + 1, math.MaxInt - 130, math.MaxInt - 64, math.MaxInt - 3, math.MaxInt - 2, math.MaxInt - 1, math.MaxInt,
	}
	for n := -70; n <= 140; n++ {
		out = append(out, n)
	}
	return out
}

// parts: numbers around each bound of a site's parts.
func parts() []int {
	return []int{math.MinInt, math.MinInt + 1, math.MinInt32, -65, -64, -2, -1, 0, 1, 2, 3, 31, 32, 33, 62, 63, 64, 65, 66, 128, 1<<32 + 1, math.MaxInt32, math.MaxInt - 1, math.MaxInt}
}

func seeds() []uint64 { return []uint64{0, 1, 64, 1 << 63, math.MaxUint64} }

// words: the next one of a row of words without an order that matters, each time.
func words(w uint64) func() uint64 {
	return func() uint64 {
		w = w*6364136223846793005 + 1442695040888963407
		return w>>33 ^ w
	}
}

// scattered: numbers of each length, without an order that matters.
func scattered(n int) []int {
	next := words(14)
	var out []int
	for i := range n {
		out = append(out, int(next())>>(i%64), -(int(next()) >> (i % 64)))
	}
	return out
}

// mayBe: the chapter's words on a site, each part asked in numbers without bound.
func mayBe(s api.Site) bool {
	between := func(least, n, most int64) bool {
		return big.NewInt(least).Cmp(big.NewInt(n)) <= 0 && big.NewInt(n).Cmp(big.NewInt(most)) <= 0
	}
	oneLess := new(big.Int).Sub(big.NewInt(int64(s.Threads)), big.NewInt(1))
	thread := big.NewInt(int64(s.Thread))
	return s.Desk != 0 && between(1, int64(s.Threads), 64) && thread.Sign() >= 0 && thread.Cmp(oneLess) <= 0 && between(1, int64(s.Keep), 64)
}

func holdRight(t *testing.T, s api.Site, want bool) {
	t.Helper()
	if got := Right(s); got != want {
		t.Errorf("Right(%+v): %v; wanted %v", s, got, want)
	}
}

func holdWhose(t *testing.T, cell, thread int, box bool) {
	t.Helper()
	if u, b := Whose(cell); u != thread || b != box {
		t.Errorf("Whose(%d): %d %v; wanted %d %v", cell, u, b, thread, box)
	}
}

// Example 1: of 3 threads.
func TestExample(t *testing.T) {
	if Size(3) != 8 || TableCell(1) != 4 || BoxCell(1) != 5 {
		t.Errorf("for 3 threads %d cells; of thread 1 %d and %d", Size(3), TableCell(1), BoxCell(1))
	}
	holdWhose(t, 4, 1, false)
	holdWhose(t, 5, 1, true)
}

// P14.2: the two cells that are no thread's are the first ones.
func TestFirstCells(t *testing.T) {
	if Root != 0 || Oldest != 1 {
		t.Errorf("Root %d, Oldest %d", Root, Oldest)
	}
	holdWhose(t, Root, -1, false)
	holdWhose(t, Oldest, -1, false)
}

// P14.1: a site's desk may be each block but 0.
func TestRightDesk(t *testing.T) {
	for _, c := range []struct {
		desk uint64
		want bool
	}{{0, false}, {1, true}, {2, true}, {64, true}, {65, true}, {1 << 32, true}, {1 << 63, true}, {math.MaxUint64 - 1, true}, {math.MaxUint64, true}} {
		holdRight(t, api.Site{Desk: c.desk, Threads: 1, Keep: 1}, c.want)
		holdRight(t, api.Site{Desk: c.desk, Threads: 64, Thread: 63, Keep: 64, Seed: math.MaxUint64}, c.want)
	}
}

// P14.1: 1 to 64 threads.
func TestRightThreads(t *testing.T) {
	for _, n := range append(farNumbers(), scattered(100)...) {
		holdRight(t, api.Site{Desk: 1, Threads: n, Keep: 1}, n >= 1 && n <= 64)
	}
	holdRight(t, api.Site{Desk: 1, Threads: api.MaxThreads, Keep: 1}, true)
	holdRight(t, api.Site{Desk: 1, Threads: api.MaxThreads + 1, Keep: 1}, false)
}

// P14.1: a thread is from 0 to one less than there are, of each number of threads.
func TestRightThread(t *testing.T) {
	for threads := 1; threads <= 64; threads++ {
		for _, n := range append(farNumbers(), scattered(20)...) {
			holdRight(t, api.Site{Desk: 1, Threads: threads, Thread: n, Keep: 1}, n >= 0 && n < threads)
		}
		holdRight(t, api.Site{Desk: 1, Threads: threads, Thread: threads - 1, Keep: 1}, true)
		holdRight(t, api.Site{Desk: 1, Threads: threads, Thread: threads, Keep: 1}, false)
	}
}

// P14.1: where there may not be so many threads no thread makes it a site, neither one that is less than they are.
func TestRightThreadOfNoThreads(t *testing.T) {
	for _, threads := range []int{math.MinInt, math.MinInt + 1, -64, -1, 0, 65, 66, 128, math.MaxInt32, math.MaxInt - 1, math.MaxInt} {
		for _, n := range farNumbers() {
			holdRight(t, api.Site{Desk: 1, Threads: threads, Thread: n, Keep: 1}, false)
		}
	}
}

// P14.1: 1 to 64 blocks are kept.
func TestRightKeep(t *testing.T) {
	for _, n := range append(farNumbers(), scattered(100)...) {
		holdRight(t, api.Site{Desk: 1, Threads: 1, Keep: n}, n >= 1 && n <= 64)
		holdRight(t, api.Site{Desk: 9, Threads: 64, Thread: 63, Keep: n}, n >= 1 && n <= 64)
	}
	holdRight(t, api.Site{Desk: 1, Threads: 1, Keep: api.MaxKeep}, true)
	holdRight(t, api.Site{Desk: 1, Threads: 1, Keep: api.MaxKeep + 1}, false)
}

// P14.1: any seed may be, and mends nothing.
func TestRightSeed(t *testing.T) {
	for _, seed := range append(seeds(), 2, 63, 65, 1<<32, math.MaxUint64-1) {
		holdRight(t, api.Site{Desk: 1, Threads: 2, Thread: 1, Keep: 3, Seed: seed}, true)
		holdRight(t, api.Site{Threads: 2, Thread: 1, Keep: 3, Seed: seed}, false)
		holdRight(t, api.Site{Desk: 1, Threads: 2, Thread: 2, Keep: 3, Seed: seed}, false)
		holdRight(t, api.Site{Desk: 1, Threads: 2, Thread: 1, Seed: seed}, false)
	}
}

// P14.1: of which several parts may not be, among them a site of zeros.
func TestRightOfSeveralFaults(t *testing.T) {
	for _, s := range []api.Site{
		{}, {Seed: 1}, {Threads: 65, Keep: 65}, {Threads: -1, Thread: -2, Keep: -1}, {Desk: 1, Thread: -1, Keep: 65},
		{Desk: 1, Threads: 65, Thread: 64}, {Threads: 2, Thread: 2, Keep: 1}, {Threads: math.MinInt, Thread: math.MinInt, Keep: math.MinInt},
		{Desk: math.MaxUint64, Threads: math.MaxInt, Thread: math.MaxInt, Keep: math.MaxInt, Seed: math.MaxUint64},
	} {
		holdRight(t, s, false)
	}
}

// P14.1: Right of each choice of parts around the bounds.
func TestRightOfAllParts(t *testing.T) {
	for _, block := range []uint64{0, 1, math.MaxUint64} {
		for _, threads := range parts() {
			for _, thread := range append(parts(), threads-1, threads) {
				for _, keep := range parts() {
					s := api.Site{Desk: block, Threads: threads, Thread: thread, Keep: keep, Seed: block}
					if got, want := Right(s), mayBe(s); got != want {
						t.Fatalf("Right(%+v): %v; wanted %v", s, got, want)
					}
				}
			}
		}
	}
}

// P14.1: Right of scattered sites, most of them near the bounds.
func TestRightOfScatteredSites(t *testing.T) {
	next := words(141)
	near := func() int { return int(next()%70) - 2 }
	rights := 0
	for range 200000 {
		s := api.Site{Desk: next() >> (next() % 65), Threads: near(), Thread: near(), Keep: near(), Seed: next()}
		if Right(s) {
			rights++
		}
		if got, want := Right(s), mayBe(s); got != want {
			t.Fatalf("Right(%+v): %v; wanted %v", s, got, want)
		}
	}
	if rights == 0 {
		t.Error("no site that may be was among them")
	}
}

// P14.1: two cells, and two for each thread, where there may be so many.
func TestSize(t *testing.T) {
	for _, n := range append(farNumbers(), scattered(500)...) {
		want := 0
		if n >= 1 && n <= 64 {
			want = 2 + n + n
		}
		if got := Size(n); got != want {
			t.Errorf("Size(%d): %d; wanted %d", n, got, want)
		}
	}
	for _, c := range []struct{ n, want int }{{math.MinInt, 0}, {-1, 0}, {0, 0}, {1, 4}, {2, 6}, {63, 128}, {64, 130}, {65, 0}, {math.MaxInt, 0}} {
		if got := Size(c.n); got != c.want {
			t.Errorf("Size(%d): %d; wanted %d", c.n, got, c.want)
		}
	}
}

// P14.2: a thread's cells; -1 of what is no thread.
func TestCells(t *testing.T) {
	for _, n := range append(farNumbers(), scattered(500)...) {
		table, box := -1, -1
		if n >= 0 && n <= 63 {
			table, box = 2+n+n, 3+n+n
		}
		if TableCell(n) != table || BoxCell(n) != box {
			t.Errorf("cells of %d: %d and %d; wanted %d and %d", n, TableCell(n), BoxCell(n), table, box)
		}
	}
	for _, c := range []struct{ n, table, box int }{
		{math.MinInt, -1, -1}, {-1, -1, -1}, {0, 2, 3}, {1, 4, 5}, {2, 6, 7}, {62, 126, 127}, {63, 128, 129}, {64, -1, -1}, {math.MaxInt, -1, -1},
	} {
		if TableCell(c.n) != c.table || BoxCell(c.n) != c.box {
			t.Errorf("cells of %d: %d and %d; wanted %d and %d", c.n, TableCell(c.n), BoxCell(c.n), c.table, c.box)
		}
	}
}

// P14.2: whose a cell is: even ones are for tables, odd ones for boxes.
func TestWhose(t *testing.T) {
	for _, cell := range append(farNumbers(), scattered(500)...) {
		thread, box := -1, false
		if cell >= 2 && cell <= 129 {
			thread, box = cell/2-1, cell%2 == 1
		}
		holdWhose(t, cell, thread, box)
	}
}

// P14.2: the cells that were worked out by hand.
func TestWhoseByHand(t *testing.T) {
	holdWhose(t, math.MinInt, -1, false)
	holdWhose(t, math.MinInt+1, -1, false)
	holdWhose(t, -2, -1, false)
	holdWhose(t, -1, -1, false)
	holdWhose(t, 0, -1, false)
	holdWhose(t, 1, -1, false)
	holdWhose(t, 2, 0, false)
	holdWhose(t, 3, 0, true)
	holdWhose(t, 6, 2, false)
	holdWhose(t, 7, 2, true)
	holdWhose(t, 127, 62, true)
	holdWhose(t, 128, 63, false)
	holdWhose(t, 129, 63, true)
	holdWhose(t, 130, -1, false)
	holdWhose(t, 131, -1, false)
	holdWhose(t, math.MaxInt-1, -1, false)
	holdWhose(t, math.MaxInt, -1, false)
}

// P14.3: for each number of threads, no two have a cell in common, and all cells behind the first two are theirs.
func TestApart(t *testing.T) {
	for threads := 1; threads <= 64; threads++ {
		owners := make([]int, Size(threads))
		for thread := range threads {
			for _, cell := range []int{TableCell(thread), BoxCell(thread)} {
				if cell < 2 || cell >= len(owners) {
					t.Fatalf("of %d threads, a cell of %d is %d; a desk has %d", threads, thread, cell, len(owners))
				}
				owners[cell]++
			}
		}
		for cell, many := range owners {
			want := 1
			if cell == Root || cell == Oldest {
				want = 0
			}
			if many != want {
				t.Errorf("of %d threads, the cell %d is given %d times; wanted %d", threads, cell, many, want)
			}
		}
	}
}

// P14.3: Whose leads back to the thread of each cell, and each cell behind a desk's first two is of one of its threads.
func TestThereAndBack(t *testing.T) {
	for thread := range 64 {
		holdWhose(t, TableCell(thread), thread, false)
		holdWhose(t, BoxCell(thread), thread, true)
	}
	for threads := 1; threads <= 64; threads++ {
		for cell := Oldest + 1; cell < Size(threads); cell++ {
			thread, box := Whose(cell)
			back := TableCell(thread)
			if box {
				back = BoxCell(thread)
			}
			if thread < 0 || thread >= threads || back != cell {
				t.Errorf("of %d threads, the cell %d is of %d, whose cell is %d", threads, cell, thread, back)
			}
		}
		if thread, _ := Whose(Size(threads)); thread != -1 && thread < threads {
			t.Errorf("of %d threads, the cell behind the desk's last is of %d", threads, thread)
		}
	}
}
