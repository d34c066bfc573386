package shield

import (
	"math"
	"slices"
	"testing"

	"sprocket/api"
	"sprocket/arena"
	"sprocket/desk"
	"sprocket/drive"
)

const top = math.MaxUint64

// row: the next one of a row of words without an order that matters, each time.
func row(w uint64) func() uint64 {
	return func() uint64 {
		w = w*6364136223846793005 + 1442695040888963407
		return w>>33 ^ w<<7
	}
}

// edgeWords: numbers of blocks, seeds, and answers: small and great ones, 0 and the greatest.
func edgeWords() []uint64 {
	return []uint64{0, 1, 2, 3, 7, 8, 9, 255, 256, 65535, 65536, math.MaxInt32, math.MaxUint32, 1 << 32, 1<<61 - 1, 1 << 61, math.MaxInt64, 1 << 63, top - 1, top}
}

// edgeNumbers: numbers on both sides of each bound of a site's parts, and of Go's types.
func edgeNumbers() []int {
	return []int{math.MinInt, math.MinInt + 1, math.MinInt32, -65, -64, -63, -2, -1, 0, 1, 2, 3, 31, 32, 33, 62, 63, 64, 65, 66, 127, 128, 1 << 32, 1<<32 + 1, math.MaxInt32, math.MaxInt - 1, math.MaxInt}
}

// edgeCells: cells that a block may have, small and great ones.
func edgeCells() []int {
	return []int{0, 1, 2, 3, 7, 8, 63, 64, 65535, 65536, math.MaxInt32, 1 << 32, math.MaxInt - 1, math.MaxInt}
}

// edgeBlocks: numbers that a word has beside its mark, up to the greatest.
func edgeBlocks() []uint64 {
	return []uint64{0, 1, 2, 3, 7, 8, 9, 63, 64, 65535, 65536, 1 << 32, 1<<60 - 1, 1 << 60, 1<<61 - 2, 1<<61 - 1}
}

// slotWords: the words of all marks, those that no slot has among them, of each of these blocks.
func slotWords(blocks ...uint64) []uint64 {
	var out []uint64
	for _, b := range blocks {
		for mark := range uint64(8) {
			out = append(out, b<<3|mark)
		}
	}
	return out
}

// fresh: whether a word is Fresh, by the words of the chapter of tags.
func fresh(w uint64) bool { return w>>3 != 0 && (w&7 == 1 || w&7 == 2) }

// siteOf: a site of a thread of so many in a desk.
func siteOf(block uint64, thread, threads int) api.Site {
	return api.Site{Desk: block, Thread: thread, Threads: threads, Keep: 1}
}

// job: what a shield is made of: a site, a slot, and the word that was read of it.
type job struct {
	site  api.Site
	block uint64
	cell  int
	w     uint64
}

// jobOf: a job whose word is this one, otherwise of no matter what.
func jobOf(w uint64) job { return job{siteOf(9, 2, 3), 4, 11, w} }

// shield: a new one for the job.
func (j job) shield() *Shield { return New(j.site, j.block, j.cell, j.w) }

// load: the act that reads the slot.
func (j job) load() api.Act { return api.Act{Kind: api.Load, Block: j.block, Cell: j.cell} }

// store: the act that lays the block of a word into the cell of the site's thread.
func (j job) store(w uint64) api.Act {
	return api.Act{Kind: api.Store, Block: j.site.Desk, Cell: 3 + 2*j.site.Thread, New: w >> 3}
}

// plain: what the chapter says of a shield behind these answers to all its acts so far: the act that comes next, or the answer at the end.
func (j job) plain(answers []uint64) (x api.Act, y uint64, end bool) {
	w := j.w
	if !fresh(w) {
		return api.Act{}, w, true
	}
	for rest := answers; ; rest = rest[2:] {
		if len(rest) == 0 {
			return j.store(w), 0, false
		}
		if len(rest) == 1 {
			return j.load(), 0, false
		}
		y := rest[1]
		if y>>3 == w>>3 || !fresh(y) {
			return api.Act{}, y, true
		}
		w = y
	}
}

// holdNoAnswer: there is no answer.
func holdNoAnswer(t *testing.T, x *Shield) {
	t.Helper()
	if got, done := x.Result(); got != 0 || done {
		t.Fatalf("Result: %d %v; wanted none", got, done)
	}
}

// holdAct: the act that comes next is this one, however often it is asked, and there is no answer yet.
func holdAct(t *testing.T, x *Shield, want api.Act) {
	t.Helper()
	for range 3 {
		if got, more := x.Act(); got != want || !more {
			t.Fatalf("Act: %+v %v; wanted %+v", got, more, want)
		}
		holdNoAnswer(t, x)
	}
}

// holdEnd: no act comes any more, and this is the answer, however often both are asked, and whatever is taken.
func holdEnd(t *testing.T, x *Shield, want uint64) {
	t.Helper()
	for _, w := range append(edgeWords(), want, want+1, want^3, want+8, 25, 26) {
		if got, more := x.Act(); got != (api.Act{}) || more {
			t.Fatalf("Act at the end: %+v %v; wanted none", got, more)
		}
		for range 2 {
			if got, done := x.Result(); got != want || !done {
				t.Fatalf("Result at the end: %d %v; wanted %d", got, done, want)
			}
		}
		x.Take(w)
	}
}

// holdNothing: there is neither an act nor an answer, whatever is taken.
func holdNothing(t *testing.T, x *Shield) {
	t.Helper()
	for _, w := range append(edgeWords(), 0, 0, 25, 25, 26) {
		if got, more := x.Act(); got != (api.Act{}) || more {
			t.Fatalf("Act: %+v %v; wanted none", got, more)
		}
		for range 2 {
			holdNoAnswer(t, x)
		}
		x.Take(w)
	}
}

// holdShield: a shield to whose Loads these words are answered, and to whose Stores what laid tells, does the chapter's acts in order; the last word is the one that ends it, and the answer. Without a word, that of the job is the answer at once.
func holdShield(t *testing.T, j job, laid func() uint64, words ...uint64) {
	t.Helper()
	x := j.shield()
	w := j.w
	for _, y := range words {
		holdAct(t, x, j.store(w))
		x.Take(laid())
		holdAct(t, x, j.load())
		x.Take(y)
		w = y
	}
	holdEnd(t, x, w)
}

// nought: what an arena answers to each Store.
func nought() uint64 { return 0 }

// holdAnswers: behind each of these answers the shield is where the chapter says, and at its end it stays there.
func holdAnswers(t *testing.T, j job, answers []uint64) {
	t.Helper()
	x := j.shield()
	for i := 0; ; i++ {
		want, y, end := j.plain(answers[:i])
		if end {
			holdEnd(t, x, y)
			return
		}
		holdAct(t, x, want)
		if i == len(answers) {
			return
		}
		x.Take(answers[i])
	}
}

// The chapter's example.
func TestExample(t *testing.T) {
	x := New(siteOf(1, 0, 1), 2, 5, 25)
	holdAct(t, x, api.Act{Kind: api.Store, Block: 1, Cell: 3, New: 3})
	x.Take(0)
	holdAct(t, x, api.Act{Kind: api.Load, Block: 2, Cell: 5})
	x.Take(26)
	holdEnd(t, x, 26)
}

// P20.1: acts written out.
func TestByHand(t *testing.T) {
	load := func(block uint64, cell int) api.Act { return api.Act{Kind: api.Load, Block: block, Cell: cell} }
	store := func(block uint64, cell int, box uint64) api.Act {
		return api.Act{Kind: api.Store, Block: block, Cell: cell, New: box}
	}
	type step struct {
		act api.Act
		got uint64
	}
	for _, c := range []struct {
		j     job
		steps []step
		want  uint64
	}{
		{job{api.Site{Desk: 1, Threads: 1, Keep: 1}, 2, 15, 0}, nil, 0},
		{job{api.Site{Desk: 1, Threads: 1, Keep: 1}, 2, 15, 27}, nil, 27},
		{job{api.Site{Desk: 1, Threads: 1, Keep: 1}, 2, 15, 25}, []step{{store(1, 3, 3), 0}, {load(2, 15), 25}}, 25},
		{job{api.Site{Desk: 1, Thread: 1, Threads: 2, Keep: 64, Seed: top}, 2, 16, 26}, []step{{store(1, 5, 3), 0}, {load(2, 16), 27}}, 27},
		{job{api.Site{Desk: 9, Thread: 2, Threads: 3, Keep: 1}, 4, 11, 25}, []step{{store(9, 7, 3), 0}, {load(4, 11), 33}, {store(9, 7, 4), 0}, {load(4, 11), 34}}, 34},
		{job{api.Site{Desk: 9, Thread: 2, Threads: 3, Keep: 1}, 4, 0, 25}, []step{{store(9, 7, 3), 5}, {load(4, 0), 33}, {store(9, 7, 4), 25}, {load(4, 0), 25}, {store(9, 7, 3), 33}, {load(4, 0), 36}}, 36},
		{job{api.Site{Desk: top, Thread: 63, Threads: 64, Keep: 2}, 0, math.MaxInt, top - 6}, []step{{store(top, 129, 1<<61-1), top}, {load(0, math.MaxInt), 9}, {store(top, 129, 1), top}, {load(0, math.MaxInt), top}}, top},
		{job{api.Site{Desk: 1 << 32, Threads: 64, Keep: 1}, top, 0, 9}, []step{{store(1<<32, 3, 1), 0}, {load(top, 0), 0}}, 0},
	} {
		x := c.j.shield()
		for _, y := range c.steps {
			holdAct(t, x, y.act)
			x.Take(y.got)
		}
		holdEnd(t, x, c.want)
	}
}

// P20.1: each thread of desks for 1 to the most threads, in blocks of small and of great numbers; neither Keep nor Seed matters.
func TestEachSite(t *testing.T) {
	for threads := 1; threads <= api.MaxThreads; threads++ {
		for thread := range threads {
			for i, block := range edgeWords()[1:] {
				s := siteOf(block, thread, threads)
				s.Keep = 1 + (threads+thread+i)%api.MaxKeep
				s.Seed = edgeWords()[(threads+i)%len(edgeWords())]
				holdShield(t, job{s, 5, 7, 25}, nought, 25)
				holdShield(t, job{s, 5, 7, 25}, nought, 33, 42, 43)
				holdShield(t, job{s, 5, 7, 28}, nought)
			}
		}
	}
	for keep := 1; keep <= api.MaxKeep; keep++ {
		for _, seed := range edgeWords() {
			holdShield(t, job{api.Site{Desk: 1, Thread: 4, Threads: 7, Keep: keep, Seed: seed}, 2, 9, 25}, nought, 34, 34)
		}
	}
}

// holdMay: a shield protects, if there may be such a site and such a slot, and does nothing, if not, also where its word is not Fresh.
func holdMay(t *testing.T, s api.Site, cell int, may bool) {
	t.Helper()
	for _, w := range []uint64{25, 26, 0, 5, 24, 27} {
		j := job{s, 6, cell, w}
		switch {
		case !may:
			holdNothing(t, j.shield())
		case fresh(w):
			holdShield(t, j, nought, 33, 35)
		default:
			holdShield(t, j, nought)
		}
	}
}

// P20.1: each bound of each part of a site, and of a cell, on both sides.
func TestBounds(t *testing.T) {
	for _, n := range edgeNumbers() {
		holdMay(t, siteOf(1, n, 64), 3, n >= 0 && n <= 63)
		holdMay(t, siteOf(1, 0, n), 3, n >= 1 && n <= 64)
		holdMay(t, siteOf(1, 63, n), 3, n == 64)
		holdMay(t, api.Site{Desk: 1, Threads: 64, Thread: 63, Keep: n}, 3, n >= 1 && n <= 64)
		holdMay(t, siteOf(1, 2, 3), n, n >= 0)
		holdMay(t, siteOf(0, 2, 3), n, false)
		holdMay(t, siteOf(1, 3, 3), n, false)
		for threads := 1; threads <= api.MaxThreads; threads++ {
			holdMay(t, siteOf(top, n, threads), 0, n >= 0 && n < threads)
		}
	}
	for _, threads := range []int{1, 2, 3, 63, 64} {
		for thread := -1; thread <= threads; thread++ {
			holdMay(t, siteOf(0, thread, threads), 3, false)
			holdMay(t, siteOf(1, thread, threads), 3, thread >= 0 && thread < threads)
			holdMay(t, siteOf(1, thread, threads), -1, false)
		}
	}
	holdMay(t, api.Site{}, 0, false)
	holdMay(t, api.Site{Seed: top}, 3, false)
}

// P20.1: each choice of parts around their bounds.
func TestChoices(t *testing.T) {
	numbers := []int{math.MinInt, -1, 0, 1, 2, 62, 63, 64, 65, math.MaxInt}
	for _, block := range []uint64{0, 1, top} {
		for _, thread := range numbers {
			for _, threads := range numbers {
				for _, keep := range numbers {
					s := api.Site{Desk: block, Thread: thread, Threads: threads, Keep: keep, Seed: 3}
					may := block != 0 && threads >= 1 && threads <= 64 && thread >= 0 && thread < threads && keep >= 1 && keep <= 64
					for _, cell := range []int{math.MinInt, -1, 0, math.MaxInt} {
						holdMay(t, s, cell, may && cell >= 0)
					}
				}
			}
		}
	}
}

// P20.1: slots in blocks of small and of great numbers, 0, the desk's own one, and one that the words have, among them.
func TestEachSlot(t *testing.T) {
	for _, block := range edgeWords() {
		for _, cell := range edgeCells() {
			for _, other := range []uint64{1, 9, block, top} {
				if other == 0 {
					continue
				}
				s := siteOf(other, 2, 3)
				holdShield(t, job{s, block, cell, 25}, nought, 25)
				holdShield(t, job{s, block, cell, block<<3 | 9}, nought, 1<<60|2, 0)
				holdShield(t, job{s, block, cell, 4}, nought)
			}
		}
	}
}

// P20.1: what is done to a site of one's own, behind New, does not matter, and New changes none.
func TestSiteIsCopied(t *testing.T) {
	s := siteOf(9, 2, 3)
	x := New(s, 4, 11, 25)
	if s != siteOf(9, 2, 3) {
		t.Fatalf("%+v", s)
	}
	s = siteOf(0, 9, 9)
	holdAct(t, x, jobOf(25).store(25))
	holdNothing(t, New(s, 4, 11, 25))
}

// P20.1: a word that is not Fresh is the answer at once, one that is leads to a Store: words of each mark, of no block and of all edge blocks.
func TestEachWord(t *testing.T) {
	for _, w := range append(slotWords(edgeBlocks()...), edgeWords()...) {
		for _, s := range []api.Site{siteOf(9, 2, 3), siteOf(1, 0, 1), siteOf(top, 63, 64)} {
			j := job{s, 4, 11, w}
			if !fresh(w) {
				holdShield(t, j, nought)
				continue
			}
			for mark := range uint64(8) {
				holdShield(t, j, nought, w>>3<<3|mark)
			}
		}
	}
}

// P20.1: each word told at the first Load, and each told at the second one, of which some end the shield.
func TestEachWordTold(t *testing.T) {
	words := slotWords(0, 1, 2, 3, 4, 1<<60, 1<<61-1)
	for _, w := range slotWords(1, 3, 1<<60, 1<<61-1) {
		for _, y := range append(words, edgeWords()...) {
			for _, z := range words {
				holdAnswers(t, jobOf(w), []uint64{0, y, 0, z})
			}
		}
	}
}

// P20.1: slots that tell another block that is Fresh, once, twice and three times, back to a word that they had among them, ahead of each kind of end.
func TestWordsChange(t *testing.T) {
	ends := func(t *testing.T, w uint64, told ...uint64) {
		t.Helper()
		last := append([]uint64{w}, told...)[len(told)]
		for _, y := range []uint64{last, last ^ 3, last>>3<<3 | 3, last>>3<<3 | 4, last>>3<<3 | 7, last >> 3 << 3, 0, 5, 1, 2, 59, 60, 1<<63 | 5, top} {
			holdShield(t, jobOf(w), nought, append(slices.Clone(told), y)...)
		}
	}
	some := []uint64{9, 10, 25, 26, 33, 34, 1<<63 | 1, top - 6, top - 5}
	for _, a := range some {
		ends(t, a)
		for _, b := range some {
			if a>>3 == b>>3 {
				continue
			}
			ends(t, a, b)
			ends(t, a, b, a)
			ends(t, a, b, a^3)
			ends(t, a, b, a, b)
			for _, c := range some {
				if b>>3 != c>>3 {
					ends(t, a, b, c)
					ends(t, a, b, c, b)
				}
			}
		}
	}
}

// P20.1: a slot that tells another block many times: on and on, between few, and one bit at a time.
func TestWordsChangeOften(t *testing.T) {
	for _, many := range []int{4, 5, 8, 63, 64, 65, 100, 1000, 70000} {
		for _, few := range []int{2, 3, 5, many} {
			words := make([]uint64, many)
			for i := range words {
				words[i] = uint64(2+i%few)<<3 | uint64(1+i/few%2)
			}
			holdShield(t, jobOf(9), nought, append(words, words[many-1])...)
			holdShield(t, jobOf(9), nought, append(words[:many:many], 5)...)
		}
	}
	var bits []uint64
	for i := range 61 {
		bits = append(bits, 8<<i|1, top-6-8<<i)
	}
	holdShield(t, jobOf(top-6), nought, append(bits, 0)...)
}

// P20.1: whatever is answered to a Store does not matter, be it the word that is kept, its block, or what the slot tells.
func TestStoreAnswers(t *testing.T) {
	for _, w := range append(edgeWords(), 4, 5, 25, 26, 33, 34, 41) {
		laid := func() uint64 { return w }
		holdShield(t, jobOf(25), laid, 25)
		holdShield(t, jobOf(25), laid, 28)
		holdShield(t, jobOf(25), laid, 33, 34)
		holdShield(t, jobOf(25), laid, 33, 25, 0)
		holdShield(t, jobOf(25), laid, 33, 41, 25, 26)
		holdShield(t, jobOf(3), laid)
	}
	holdShield(t, jobOf(25), row(201), 33, 41, 33, 25, 33, 5)
}

// P20.1: a shield goes on whether or not it is asked for its act or its answer meanwhile.
func TestUnasked(t *testing.T) {
	for asks := range 4 {
		for _, answers := range [][]uint64{{0, 25}, {25, 26}, {0, 0}, {5, 5}, {0, 33, 0, 33}, {0, 33, 0, 28}, {33, 34, 25, 25, 7, 24}, {top, 33, 0, 25, top, 33, 0, 0}} {
			x := jobOf(25).shield()
			for _, w := range answers {
				for range asks {
					x.Act()
					x.Result()
				}
				x.Take(w)
			}
			holdEnd(t, x, answers[len(answers)-1])
		}
	}
}

// P20.1: shields of one site and of several are apart, and go on each by its own answers.
func TestApart(t *testing.T) {
	j, k := jobOf(25), job{siteOf(7, 3, 4), 8, 1, 33}
	x, y, z, other := j.shield(), j.shield(), j.shield(), k.shield()
	z.Take(0)
	z.Take(26)
	x.Take(1)
	holdAct(t, y, j.store(25))
	holdAct(t, x, j.load())
	y.Take(2)
	x.Take(41)
	holdAct(t, y, j.load())
	holdAct(t, x, j.store(41))
	holdAct(t, other, k.store(33))
	y.Take(28)
	other.Take(0)
	holdAct(t, other, k.load())
	holdAct(t, x, j.store(41))
	holdEnd(t, y, 28)
	holdEnd(t, z, 26)
	x.Take(0)
	holdAct(t, x, j.load())
}

// P20.1: a nil shield, and one that New did not make.
func TestNobodyMade(t *testing.T) {
	var plainly Shield
	for _, x := range []*Shield{nil, {}, new(Shield), &plainly} {
		holdNothing(t, x)
		a := newArena(t, 2)
		before := a.Copy()
		var r api.Routine = x
		if n, end := drive.Alone(a, r, 100); n != 0 || !end {
			t.Fatalf("%d acts, %v", n, end)
		}
		if steps := drive.Run(a, []api.Routine{r}, []int{0, 0, 0}); len(steps) != 0 {
			t.Fatalf("steps: %+v", steps)
		}
		holdSame(t, a, before)
		holdNothing(t, x)
	}
}

// The blocks of newArena: one of slots ahead of the desk, the desk, and one more of slots behind it.
const (
	firstSlots  = 1
	deskBlock   = 2
	secondSlots = 3
	manySlots   = 5
)

// newArena: an arena that has a desk for so many threads between two blocks of slots, each cell of all of them with a word of its own.
func newArena(t *testing.T, threads int) *arena.Arena {
	t.Helper()
	a := arena.New(200)
	next := row(uint64(threads))
	for _, n := range []int{manySlots, desk.Size(threads), manySlots} {
		b := a.Alloc(n)
		for i := range n {
			put(t, a, b, i, next())
		}
	}
	return a
}

// put: a cell of a block has this word now.
func put(t *testing.T, a *arena.Arena, b uint64, cell int, w uint64) {
	t.Helper()
	if err := a.Store(b, cell, w); err != api.OK {
		t.Fatalf("cell %d of block %d: %v", cell, b, err)
	}
}

// cellOf: the word of a block's cell.
func cellOf(t *testing.T, a *arena.Arena, b uint64, cell int) uint64 {
	t.Helper()
	w, err := a.Load(b, cell)
	if err != api.OK {
		t.Fatalf("cell %d of block %d: %v", cell, b, err)
	}
	return w
}

// holdSame: both arenas have the same blocks with the same words, as many cells used, and as many faults.
func holdSame(t *testing.T, got, want *arena.Arena) {
	t.Helper()
	if !slices.Equal(got.Blocks(), want.Blocks()) || got.Used() != want.Used() || got.Faults() != want.Faults() {
		t.Fatalf("blocks %d, %d cells used, %d faults; wanted %d, %d, %d", got.Blocks(), got.Used(), got.Faults(), want.Blocks(), want.Used(), want.Faults())
	}
	for _, b := range want.Blocks() {
		if got.Size(b) != want.Size(b) {
			t.Fatalf("block %d: %d cells; wanted %d", b, got.Size(b), want.Size(b))
		}
		for i := range want.Size(b) {
			if w, v := cellOf(t, got, b, i), cellOf(t, want, b, i); w != v {
				t.Fatalf("block %d, cell %d: %d; wanted %d", b, i, w, v)
			}
		}
	}
}

// holdAlone: done alone on the arena, so many acts are done, and this is the answer, behind which no act is done.
func holdAlone(t *testing.T, a *arena.Arena, x *Shield, acts int, want uint64) {
	t.Helper()
	if n, end := drive.Alone(a, x, 100); n != acts || !end {
		t.Fatalf("Alone: %d %v; wanted %d acts", n, end, acts)
	}
	if n, end := drive.Alone(a, x, 100); n != 0 || !end {
		t.Fatalf("Alone behind the end: %d %v", n, end)
	}
	holdEnd(t, x, want)
}

// P20.2: who is not disturbed does two acts, behind which the thread's cell has the block of the word, and no other cell has changed; none of a word that is not Fresh.
func TestAlone(t *testing.T) {
	for threads := 1; threads <= api.MaxThreads; threads++ {
		for thread := range threads {
			for i, w := range []uint64{0, 5, 9, 25, 26, 28, top - 6, top} {
				block, cell := []uint64{firstSlots, secondSlots}[i%2], (i+thread)%manySlots
				a := newArena(t, threads)
				put(t, a, block, cell, w)
				want := a.Copy()
				acts := 0
				if fresh(w) {
					acts = 2
					put(t, want, deskBlock, desk.BoxCell(thread), w>>3)
				}
				holdAlone(t, a, New(siteOf(deskBlock, thread, threads), block, cell, w), acts, w)
				holdSame(t, a, want)
			}
		}
	}
}

// P20.2: a slot that was changed since its word was read: of another block that is Fresh that one is protected, behind four acts; of any other word that is the answer, behind two.
func TestReadLongAgo(t *testing.T) {
	for _, w := range []uint64{9, 25, 26, top - 6} {
		for _, now := range slotWords(0, 1, 3, 4, 1<<61-1) {
			a := newArena(t, 4)
			put(t, a, secondSlots, 2, now)
			want := a.Copy()
			acts, laid := 2, w>>3
			if fresh(now) && now>>3 != laid {
				acts, laid = 4, now>>3
			}
			put(t, want, deskBlock, desk.BoxCell(3), laid)
			holdAlone(t, a, New(siteOf(deskBlock, 3, 4), secondSlots, 2, w), acts, now)
			holdSame(t, a, want)
		}
	}
}

// P20.2: one behind the other all threads of a desk protect what the slot has then, and one protects again what it had, or another box.
func TestOneBehindTheOther(t *testing.T) {
	a := newArena(t, 64)
	want := a.Copy()
	for round := range 3 {
		for thread := range 64 {
			w := uint64(1+round*thread%7)<<3 | uint64(1+thread%2)
			put(t, a, firstSlots, round, w)
			put(t, want, firstSlots, round, w)
			put(t, want, deskBlock, desk.BoxCell(thread), w>>3)
			holdAlone(t, a, New(siteOf(deskBlock, thread, 64), firstSlots, round, w), 2, w)
			holdSame(t, a, want)
		}
	}
}

// P20.1: a slot in the desk's own block, also the one that the shield itself stores into, tells what that cell has.
func TestSlotInTheDesk(t *testing.T) {
	own := desk.BoxCell(1)
	for cell := range desk.Size(3) {
		for _, w := range slotWords(0, 1, 3, 41, 8*41+1, 8*41+2, 1<<61-1) {
			a := newArena(t, 3)
			put(t, a, deskBlock, cell, w)
			want := a.Copy()
			j := job{siteOf(deskBlock, 1, 3), deskBlock, cell, w}
			var answers []uint64
			x, y, end := j.plain(answers)
			for !end {
				got := uint64(0)
				if x.Kind == api.Load {
					got = cellOf(t, want, deskBlock, cell)
				} else {
					put(t, want, deskBlock, own, x.New)
				}
				answers = append(answers, got)
				x, y, end = j.plain(answers)
			}
			holdAlone(t, a, j.shield(), len(answers), y)
			holdSame(t, a, want)
		}
	}
	// Written out once: the words that were laid are read as if they were the slot's.
	a := newArena(t, 3)
	holdAlone(t, a, New(siteOf(deskBlock, 1, 3), deskBlock, 5, 8*(8*41+1)+1), 6, 5)
	if w := cellOf(t, a, deskBlock, 5); w != 5 {
		t.Fatalf("%d", w)
	}
}

// change: what somebody else puts into a slot.
type change struct {
	block uint64
	cell  int
	w     uint64
}

// changer: a routine that does one change behind the other.
type changer struct{ left []change }

func (c *changer) Act() (api.Act, bool) {
	if len(c.left) == 0 {
		return api.Act{}, false
	}
	x := c.left[0]
	return api.Act{Kind: api.Store, Block: x.block, Cell: x.cell, New: x.w}, true
}

func (c *changer) Take(uint64) {
	if len(c.left) > 0 {
		c.left = c.left[1:]
	}
}

// field: a desk and slots on an arena, and on a second one what they have by the words of the chapter alone; shields of threads, and all that was answered to each; somebody who changes the slots.
type field struct {
	a, want *arena.Arena
	jobs    []job
	shields []*Shield
	answers [][]uint64
	changer *changer
	changed int
}

// newField: a field with a desk for so many threads, a shield for each of these jobs, made of what its slot has then, and somebody who does these changes.
func newField(t *testing.T, threads int, jobs []job, changes ...change) *field {
	t.Helper()
	a := newArena(t, threads)
	f := &field{jobs: jobs, answers: make([][]uint64, len(jobs)), changer: &changer{changes}}
	for _, j := range jobs {
		put(t, a, j.block, j.cell, j.w)
		f.shields = append(f.shields, j.shield())
	}
	f.a, f.want = a, a.Copy()
	return f
}

// routines: all shields, and behind them who changes the slots.
func (f *field) routines() []api.Routine {
	var out []api.Routine
	for _, x := range f.shields {
		out = append(out, x)
	}
	return append(out, f.changer)
}

// pick: one step of the routine at that place is as the chapter says, and so is what the arena has behind it.
func (f *field) pick(t *testing.T, who int) {
	t.Helper()
	steps := drive.Run(f.a, f.routines(), []int{who})
	if who == len(f.shields) {
		for _, y := range steps {
			put(t, f.want, y.Act.Block, y.Act.Cell, y.Act.New)
			f.changed++
		}
		return
	}
	x, _, end := f.jobs[who].plain(f.answers[who])
	if end {
		if len(steps) != 0 {
			t.Fatalf("behind the end: %+v", steps)
		}
		return
	}
	f.hold(t, who, x, steps)
}

// hold: the shield at that place did this act, alone; if its answer is Fresh then, its cell has the block since ahead of that, and the slot has the answer.
func (f *field) hold(t *testing.T, who int, x api.Act, steps []drive.Step) {
	t.Helper()
	j := f.jobs[who]
	cell := desk.BoxCell(j.site.Thread)
	laid := cellOf(t, f.want, deskBlock, cell)
	got := uint64(0)
	if x.Kind == api.Load {
		got = cellOf(t, f.want, x.Block, x.Cell)
	} else {
		put(t, f.want, x.Block, x.Cell, x.New)
	}
	if want := (drive.Step{Who: who, Act: x, Got: got}); len(steps) != 1 || steps[0] != want {
		t.Fatalf("steps: %+v; wanted %+v", steps, want)
	}
	f.answers[who] = append(f.answers[who], got)
	_, y, end := j.plain(f.answers[who])
	if !end {
		holdNoAnswer(t, f.shields[who])
		return
	}
	if w, done := f.shields[who].Result(); w != y || !done {
		t.Fatalf("answer: %d %v; wanted %d", w, done, y)
	}
	if w := cellOf(t, f.a, j.block, j.cell); w != y {
		t.Fatalf("at the last Load the slot has %d; wanted %d", w, y)
	}
	if b := cellOf(t, f.a, deskBlock, cell); fresh(y) && (b != y>>3 || laid != y>>3) {
		t.Fatalf("ahead of the last Load the thread's cell has %d, behind it %d; wanted the block of %d", laid, b, y)
	}
}

// run: all picks, and then the shields, one behind the other, to their ends: each has done two acts more than two for each change of a slot at the most.
func (f *field) run(t *testing.T, picks []int) {
	t.Helper()
	for _, who := range picks {
		f.pick(t, who)
	}
	for who, x := range f.shields {
		// A word that was laid, and is not the slot's since, is looked at in vain, and then the one that stays is laid and looked at.
		for range 4 {
			f.pick(t, who)
		}
		w, done := x.Result()
		acts := len(f.answers[who])
		if !done || acts > 2+2*f.changed || acts%2 != 0 {
			t.Fatalf("shield %d: %d acts at %d changes, ended %v", who, acts, f.changed, done)
		}
		holdEnd(t, x, w)
	}
	holdSame(t, f.a, f.want)
}

// orders: all rows of picks that have each place as often as it is told.
func orders(many ...int) [][]int {
	var out [][]int
	left := slices.Clone(many)
	for who := range left {
		if left[who] == 0 {
			continue
		}
		left[who]--
		for _, l := range orders(left...) {
			out = append(out, append([]int{who}, l...))
		}
		left[who]++
	}
	if out == nil {
		return [][]int{nil}
	}
	return out
}

// changesOf: that one slot gets these words, in order.
func changesOf(block uint64, cell int, words ...uint64) []change {
	var out []change
	for _, w := range words {
		out = append(out, change{block, cell, w})
	}
	return out
}

// P20.2: the slot is changed by somebody else between any two acts, up to four times: to other blocks, other marks, frozen and empty words, back to one that it had, and to the one that it has.
func TestSlotChanged(t *testing.T) {
	for _, words := range [][]uint64{
		{25, 33}, {25, 25}, {25, 26}, {26, 25}, {25, 27}, {25, 28}, {25, 0}, {25, 35}, {25, 36}, {25, 5}, {top - 6, 9},
		{25, 33, 41}, {25, 33, 25}, {25, 33, 26}, {25, 26, 33}, {25, 33, 34}, {25, 33, 35}, {25, 27, 28}, {25, 27, 33}, {25, 0, 33}, {25, 33, 0}, {25, 33, 28},
		{25, 33, 41, 49}, {25, 33, 25, 33}, {25, 33, 41, 25}, {25, 34, 25, 41}, {25, 33, 35, 36}, {25, 26, 27, 28}, {25, 26, 33, 35},
		{25, 33, 41, 49, 57}, {25, 33, 25, 33, 25}, {25, 33, 41, 25, 33}, {25, 33, 41, 43, 44}, {25, 25, 25, 25, 25}, {9, top - 6, 9, top - 5, 10},
	} {
		changes := len(words) - 1
		for _, picks := range orders(2+2*changes, changes) {
			j := job{siteOf(deskBlock, 1, 3), secondSlots, 4, words[0]}
			newField(t, 3, []job{j}, changesOf(secondSlots, 4, words[1:]...)...).run(t, picks)
		}
	}
}

// P20.2: a slot whose word is changed and changed back ahead of the Load is protected like one that was not changed.
func TestChangedBack(t *testing.T) {
	j := job{siteOf(deskBlock, 1, 2), firstSlots, 0, 25}
	f := newField(t, 2, []job{j}, changesOf(firstSlots, 0, 33, 25)...)
	f.run(t, []int{1, 0, 1, 0})
	if len(f.answers[0]) != 2 || f.changed != 2 {
		t.Fatalf("%d acts at %d changes", len(f.answers[0]), f.changed)
	}
	holdEnd(t, f.shields[0], 25)
}

// P20.2: a slot that gets another box ahead of each Load keeps the shield going, and as soon as it stays, or is frozen, the shield ends.
func TestChangedOften(t *testing.T) {
	const many = 500
	words := make([]uint64, many)
	for i := range words {
		words[i] = uint64(4+i%7)<<3 | uint64(1+i%2)
	}
	for _, place := range []int{0, 1} {
		for _, last := range []uint64{words[many-1], 27, 0} {
			j := job{siteOf(deskBlock, 63, 64), firstSlots, 3, 25}
			f := newField(t, 64, []job{j}, changesOf(firstSlots, 3, append(slices.Clone(words), last)...)...)
			var picks []int
			for range many + 1 {
				picks = append(picks, slices.Insert([]int{0, 0}, place, 1)...)
			}
			f.run(t, picks)
			if len(f.answers[0]) != 2+2*many {
				t.Fatalf("%d acts", len(f.answers[0]))
			}
			holdEnd(t, f.shields[0], last)
		}
	}
}

// P20.2: two shields of two threads side by side, at one slot and at two, in each order of their acts, neither disturbing the other one.
func TestTwoShields(t *testing.T) {
	for _, whose := range [][]int{{0, 1}, {1, 0}, {0, 2}, {2, 1}} {
		one := job{siteOf(deskBlock, whose[0], 3), firstSlots, 2, 25}
		for _, two := range []job{
			{siteOf(deskBlock, whose[1], 3), firstSlots, 2, 25},
			{siteOf(deskBlock, whose[1], 3), firstSlots, 3, 25},
			{siteOf(deskBlock, whose[1], 3), secondSlots, 2, 34},
		} {
			for _, picks := range orders(2, 2) {
				f := newField(t, 3, []job{one, two})
				f.run(t, picks)
				if len(f.answers[0]) != 2 || len(f.answers[1]) != 2 {
					t.Fatalf("%d and %d acts", len(f.answers[0]), len(f.answers[1]))
				}
			}
		}
	}
}

// P20.2: two shields of two threads, at one slot and at two, in each order of their acts, and with somebody who changes the slots.
func TestTwoShieldsDisturbed(t *testing.T) {
	for _, words := range [][]uint64{{33}, {27}, {26}, {33, 25}, {33, 41}, {33, 28}, {26, 33}} {
		one := job{siteOf(deskBlock, 0, 2), firstSlots, 2, 25}
		for _, two := range []job{
			{siteOf(deskBlock, 1, 2), firstSlots, 2, 25},
			{siteOf(deskBlock, 1, 2), secondSlots, 2, 25},
		} {
			changes := changesOf(firstSlots, 2, words...)
			if two.block == secondSlots {
				changes[0].block = secondSlots
			}
			for _, picks := range orders(4, 4, len(words)) {
				newField(t, 2, []job{one, two}, changes...).run(t, picks)
			}
		}
	}
}

// P20.1: of a slot that is not there, and on no arena: 0 is answered to the Load, so 0 is the answer, behind two acts.
func TestSlotNotThere(t *testing.T) {
	for _, slot := range []change{{block: 0}, {block: 4}, {block: 5}, {block: top}, {firstSlots, manySlots, 0}, {secondSlots, math.MaxInt, 0}, {deskBlock, desk.Size(3), 0}} {
		a := newArena(t, 3)
		a.Free(a.Alloc(8))
		want := a.Copy()
		put(t, want, deskBlock, desk.BoxCell(1), 3)
		want.Load(slot.block, slot.cell)
		x := New(siteOf(deskBlock, 1, 3), slot.block, slot.cell, 25)
		holdAlone(t, a, x, 2, 0)
		holdSame(t, a, want)
		if a.Faults() != 1 {
			t.Fatalf("%d faults", a.Faults())
		}
		for _, none := range []*arena.Arena{nil, {}} {
			holdAlone(t, none, New(siteOf(deskBlock, 1, 3), slot.block, slot.cell, 25), 2, 0)
		}
	}
}

// P20.1: of a desk that is not there, or has no cell for the thread: the Store is done all the same, and is a fault; the slot tells the answer.
func TestDeskNotThere(t *testing.T) {
	for _, block := range []uint64{4, 5, 1 << 32, top} {
		a := newArena(t, 3)
		a.Free(a.Alloc(8))
		put(t, a, firstSlots, 1, 25)
		want := a.Copy()
		want.Store(block, 5, 3)
		holdAlone(t, a, New(siteOf(block, 1, 3), firstSlots, 1, 25), 2, 25)
		holdSame(t, a, want)
	}
	for thread := 1; thread < 64; thread++ {
		a := newArena(t, thread)
		put(t, a, secondSlots, 4, 33)
		want := a.Copy()
		want.Store(deskBlock, 3+2*thread, 0)
		want.Store(deskBlock, 3+2*thread, 0)
		holdAlone(t, a, New(siteOf(deskBlock, thread, 64), secondSlots, 4, 25), 4, 33)
		holdSame(t, a, want)
		if a.Faults() != 2 {
			t.Fatalf("%d faults", a.Faults())
		}
	}
}

// P20.1: of a slot whose block is freed meanwhile 0 is the answer; of a desk that is, what the slot tells.
func TestFreedMeanwhile(t *testing.T) {
	for acts := range 2 {
		for _, c := range []struct {
			block, want uint64
			faults      int
		}{{firstSlots, 0, 1}, {deskBlock, 25, 1 - acts}} {
			a := newArena(t, 3)
			put(t, a, firstSlots, 1, 25)
			x := New(siteOf(deskBlock, 2, 3), firstSlots, 1, 25)
			if n, end := drive.Alone(a, x, acts); n != acts || end {
				t.Fatal(n, end)
			}
			a.Free(c.block)
			holdAlone(t, a, x, 2-acts, c.want)
			if a.Faults() != c.faults {
				t.Fatalf("%d faults; wanted %d", a.Faults(), c.faults)
			}
		}
	}
}

// scatteredSite: a site that may be, without an order that matters.
func scatteredSite(next func() uint64) api.Site {
	threads := 1 + int(next()>>9%64)
	return api.Site{Desk: next()>>(next()>>9%63) | 1, Thread: int(next() >> 9 % uint64(threads)), Threads: threads, Keep: 1 + int(next()>>9%64), Seed: next()}
}

// scatteredWord: a word of one of few blocks from one on, mostly a Fresh one.
func scatteredWord(next func() uint64, from, few uint64) uint64 {
	w := (from + next()>>9%few) << 3
	if next()>>9%8 == 0 {
		return w | next()>>9%8
	}
	return w | 1 + next()>>9%2
}

// P20.1: scattered sites, slots and answers, of few blocks and of all, held against the chapter's words answer by answer.
func TestScattered(t *testing.T) {
	next := row(202)
	for range 20000 {
		from, few := next()>>(next()>>9%64), 2+next()>>9%6
		j := job{scatteredSite(next), next() >> (next() >> 9 % 64), int(next() >> 1 >> (next() >> 9 % 63)), scatteredWord(next, from, few)}
		answers := make([]uint64, 1+next()>>9%40)
		for i := range answers {
			answers[i] = scatteredWord(next, from, few)
		}
		holdAnswers(t, j, answers)
		j.w = next() >> (next() >> 9 % 64)
		for i := range answers {
			answers[i] = next() >> (next() >> 9 % 64)
		}
		holdAnswers(t, j, answers)
	}
}

// P20.1: scattered sites and cells, of which some may not be.
func TestScatteredSites(t *testing.T) {
	next := row(203)
	for range 30000 {
		part := func() int { return int(next()>>9%70) - 2 }
		s := api.Site{Desk: next() >> 9 % 8, Thread: part(), Threads: part(), Keep: part(), Seed: next()}
		cell := part()
		may := s.Desk != 0 && s.Threads >= 1 && s.Threads <= 64 && s.Thread >= 0 && s.Thread < s.Threads && s.Keep >= 1 && s.Keep <= 64 && cell >= 0
		holdMay(t, s, cell, may)
	}
}

// P20.2: several shields at few slots, and somebody who changes these, picked without an order that matters.
func TestScatteredRuns(t *testing.T) {
	next := row(204)
	for range 3000 {
		threads := 1 + int(next()>>9%64)
		few := 2 + next()>>9%5
		slotOf := func() change {
			return change{[]uint64{firstSlots, secondSlots}[next()>>9%2], int(next() >> 9 % 2), scatteredWord(next, 1, few)}
		}
		// Each slot has one word at the beginning, whoever reads it.
		first := map[change]uint64{}
		var jobs []job
		for thread := range threads {
			if next()>>9%3 != 0 || len(jobs) == 8 {
				continue
			}
			c := slotOf()
			at := change{block: c.block, cell: c.cell}
			if first[at] == 0 {
				first[at] = c.w
			}
			jobs = append(jobs, job{siteOf(deskBlock, thread, threads), c.block, c.cell, first[at]})
		}
		changes := make([]change, next()>>9%30)
		for i := range changes {
			changes[i] = slotOf()
		}
		picks := make([]int, next()>>9%120)
		for i := range picks {
			picks[i] = int(next() >> 9 % uint64(len(jobs)+1))
		}
		newField(t, threads, jobs, changes...).run(t, picks)
	}
}
