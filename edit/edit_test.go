package edit

import (
	"math"
	"testing"

	"sprocket/api"
	"sprocket/drive"
	"sprocket/spec"
)

const top = math.MaxUint64

// row: the next one of a row of words without an order that matters, each time.
func row(w uint64) func() uint64 {
	return func() uint64 {
		w = w*6364136223846793005 + 1442695040888963407
		return w>>33 ^ w<<7
	}
}

// edgeWords: numbers of blocks and answers: small and great ones, 0 and the greatest.
func edgeWords() []uint64 {
	return []uint64{0, 1, 2, 3, 5, 7, 8, 9, 128, 255, 256, 65535, 65536, math.MaxInt32, math.MaxUint32, 1 << 32, 1<<61 - 1, 1 << 61, math.MaxInt64, 1 << 63, top - 1, top}
}

// edgeNumbers: numbers on both sides of each bound of a site's parts, of logs, of cells and of kinds, and of Go's types.
func edgeNumbers() []int {
	return []int{math.MinInt, math.MinInt + 1, math.MinInt32, -65, -64, -63, -2, -1, 0, 1, 2, 3, 6, 7, 8, 9, 10, 11, 12, 31, 62, 63, 64, 65, 66, 127, 128, 1 << 32, 1<<32 + 1, math.MaxInt32, math.MaxInt - 1, math.MaxInt}
}

// edgeBlocks: numbers that a slot's word has beside its mark, up to the greatest.
func edgeBlocks() []uint64 {
	return []uint64{0, 1, 2, 3, 7, 8, 9, 63, 64, 65535, 65536, 1 << 32, 1<<60 - 1, 1 << 60, 1<<61 - 2, 1<<61 - 1}
}

// text: one of so many bytes, of all kinds, none of which the next one is like.
func text(n, from int) string {
	var out []byte
	for i := range n {
		out = append(out, byte(from+i*37))
	}
	return string(out)
}

// job: what an edit is made of.
type job struct {
	site api.Site
	of   api.Table
	op   api.Op
	lay  uint64
	at   Slot
}

// theSite, theTable, theKey: those of jobs of which no part matters but the ones that are told.
var (
	theSite  = api.Site{Desk: 9, Thread: 2, Threads: 3, Keep: 1}
	theTable = api.Table{Block: 6}
)

const theKey = "key"

// jobOf: a job of an operation of the kind, of which Old is this, that lays the box in the block 5, on the slot in the cell 8, of which the word and the value were read.
func jobOf(kind int, old string, w uint64, value string) job {
	return job{theSite, theTable, api.Op{Kind: kind, Key: theKey, Value: "new", Old: old}, 5, Slot{Cell: 8, Word: w, Value: value}}
}

// changing: jobs of each kind and mark of which the slot is changed: one of the value "v".
func changing() []job {
	return []job{
		jobOf(api.Put, "x", 25, "v"), jobOf(api.Replace, "x", 25, "v"), jobOf(api.CompareAndSwap, "v", 25, "v"), jobOf(api.Delete, "x", 25, "v"),
		jobOf(api.CompareAndDelete, "v", 25, "v"), jobOf(api.Put, "x", 26, "v"), jobOf(api.PutIfAbsent, "x", 26, "v"),
	}
}

// edit: a new one of the job.
func (j job) edit() *Edit { return New(j.site, j.of, j.op, j.lay, j.at) }

// may: whether there may be acts, by the words of the chapters of desks and tables, and of this one.
func (j job) may() bool {
	s := j.site
	return s.Desk != 0 && s.Threads >= 1 && s.Threads <= 64 && s.Thread >= 0 && s.Thread < s.Threads && s.Keep >= 1 && s.Keep <= 64 &&
		j.of.Block != 0 && j.of.Log >= 0 && j.of.Log <= 9 && j.at.Cell >= 0 && j.op.Kind >= 1 && j.op.Kind <= 7
}

// The acts on the slot.
func (j job) load() api.Act {
	return api.Act{Kind: api.Load, Block: j.of.Block, Cell: j.at.Cell}
}

func (j job) cas(old, next uint64) api.Act {
	return api.Act{Kind: api.Cas, Block: j.of.Block, Cell: j.at.Cell, Old: old, New: next}
}

// protect: the act that lays the block of a word into the cell for the box of the site's thread.
func (j job) protect(w uint64) api.Act {
	return api.Act{Kind: api.Store, Block: j.site.Desk, Cell: 3 + 2*j.site.Thread, New: w >> 3}
}

// fresh: whether a word is Fresh, by the words of the chapter of tags.
func fresh(w uint64) bool { return w>>3 != 0 && (w&7 == 1 || w&7 == 2) }

// writes: whether an operation of the kind writes its value.
func writes(kind int) bool {
	return kind == api.Put || kind == api.PutIfAbsent || kind == api.Replace || kind == api.CompareAndSwap
}

// plainDecide: what the chapter says of Decide.
func plainDecide(o api.Op, lay, w uint64, value string) (api.Reply, uint64) {
	r := api.Reply{Had: w&7 == 1}
	if r.Had {
		r.Value = value
	}
	same := r.Had && value == o.Old
	r.Did = map[int]bool{2: true, 3: !r.Had, 4: r.Had, 5: same, 6: r.Had, 7: same}[o.Kind]
	switch {
	case !r.Did:
		return r, w
	case writes(o.Kind):
		return r, lay*8 + 1
	}
	return r, w - w%8 + 2
}

// answers: what is answered to each act.
type answers func(api.Act) uint64

// plain: what the chapter says of an edit of the job, to whose acts this is answered: what it comes to.
func (j job) plain(do answers) Outcome {
	w, value := j.at.Word, j.at.Value
	for fresh(w) {
		r, next := plainDecide(j.op, j.lay, w, value)
		if !r.Did {
			return Outcome{Reply: r}
		}
		was := do(j.cas(w, next))
		if was == w && writes(j.op.Kind) {
			return Outcome{Reply: r, Out: w >> 3, Laid: true}
		}
		if was == w {
			return Outcome{Reply: r}
		}
		if w = j.plainShield(do, was); fresh(w) {
			_, value = plainRead(do, w>>3)
		}
	}
	return Outcome{Again: true}
}

// plainShield: shield's acts for a slot that had this word, and what they tell.
func (j job) plainShield(do answers, w uint64) uint64 {
	for fresh(w) {
		do(j.protect(w))
		now := do(j.load())
		if now>>3 == w>>3 {
			return now
		}
		w = now
	}
	return w
}

// plainRead: reader's acts for a block, and the key and the value that they tell.
func plainRead(do answers, block uint64) (string, string) {
	cell := 0
	load := func() uint64 {
		cell++
		return do(api.Act{Kind: api.Load, Block: block, Cell: cell - 1})
	}
	text := func(n uint64) string {
		var out []byte
		for n > uint64(len(out)) {
			for w, i := load(), 0; i < 8 && n > uint64(len(out)); i++ {
				out = append(out, byte(w>>(8*i)))
			}
		}
		return string(out)
	}
	head := load()
	key := text(min(head&255, 16))
	return key, text(min(head>>8&255, 24))
}

// pending: the act to which nothing is answered yet.
type pending struct{ act api.Act }

// behind: where the chapter says that an edit of the job is behind these answers to all its acts so far: the act that comes next, or what it came to at the end.
func (j job) behind(got []uint64) (x api.Act, o Outcome, end bool) {
	defer func() {
		if p := recover(); p != nil {
			x = p.(pending).act
		}
	}()
	next := 0
	o = j.plain(func(y api.Act) uint64 {
		if next == len(got) {
			panic(pending{y})
		}
		next++
		return got[next-1]
	})
	return api.Act{}, o, true
}

// same: whether both are the same outcome.
func same(a, b Outcome) bool {
	return spec.Same(a.Reply, b.Reply) && a.Out == b.Out && a.Laid == b.Laid && a.Again == b.Again
}

// holdNoAnswer: there is no answer.
func holdNoAnswer(t *testing.T, x *Edit) {
	t.Helper()
	if got, done := x.Result(); !same(got, Outcome{}) || done {
		t.Fatalf("Result: %+v %v; wanted none", got, done)
	}
}

// holdAct: the act that comes next is this one, however often it is asked, and there is no answer yet.
func holdAct(t *testing.T, x *Edit, want api.Act) {
	t.Helper()
	for range 2 {
		if got, more := x.Act(); got != want || !more {
			t.Fatalf("Act: %+v %v; wanted %+v", got, more, want)
		}
		holdNoAnswer(t, x)
	}
}

// holdEnd: no act comes any more, and it came to this, however often both are asked, and whatever is taken.
func holdEnd(t *testing.T, x *Edit, want Outcome) {
	t.Helper()
	for _, w := range []uint64{0, 0, 0, 1, 5, 25, 25, 26, 27, 33, 41, 128, 1 << 63, top, want.Out*8 + 1, want.Out*8 + 2} {
		if got, more := x.Act(); got != (api.Act{}) || more {
			t.Fatalf("Act at the end: %+v %v; wanted none", got, more)
		}
		for range 2 {
			if got, done := x.Result(); !same(got, want) || !done {
				t.Fatalf("Result at the end: %+v %v; wanted %+v", got, done, want)
			}
		}
		x.Take(w)
	}
}

// holdNothing: there is neither an act nor an answer, whatever is taken.
func holdNothing(t *testing.T, x *Edit) {
	t.Helper()
	for _, w := range []uint64{0, 0, 0, 1, 1, 5, 25, 25, 25, 26, 26, 27, 33, 1 << 63, top, top} {
		if got, more := x.Act(); got != (api.Act{}) || more {
			t.Fatalf("Act: %+v %v; wanted none", got, more)
		}
		holdNoAnswer(t, x)
		x.Take(w)
	}
}

// hold: an edit of the job, to whose acts this is answered, does the chapter's acts in order, and comes to what the chapter says; that is told, and how many acts there were.
func (j job) hold(t *testing.T, do answers) (Outcome, int) {
	t.Helper()
	x := j.edit()
	acts := 0
	o := j.plain(func(want api.Act) uint64 {
		t.Helper()
		holdAct(t, x, want)
		acts++
		got := do(want)
		x.Take(got)
		return got
	})
	holdEnd(t, x, o)
	return o, acts
}

// listed: these answers, in order, and 0 behind them.
func listed(got ...uint64) answers {
	next := 0
	return func(api.Act) uint64 {
		if next == len(got) {
			return 0
		}
		next++
		return got[next-1]
	}
}

// holdComes: an edit of the job does as the chapter says, and ends behind just these answers, with this.
func (j job) holdComes(t *testing.T, want Outcome, got ...uint64) {
	t.Helper()
	o, acts := j.hold(t, listed(got...))
	if !same(o, want) || acts != len(got) {
		t.Fatalf("%+v: %+v behind %d acts; wanted %+v behind %d", j, o, acts, want, len(got))
	}
}

// step: an act, and what is answered to it.
type step struct {
	act api.Act
	got uint64
}

// holdSteps: an edit of the job does just these acts, in order, and comes to this.
func holdSteps(t *testing.T, j job, want Outcome, steps ...step) {
	t.Helper()
	x := j.edit()
	for _, y := range steps {
		holdAct(t, x, y.act)
		x.Take(y.got)
	}
	holdEnd(t, x, want)
}

// laidOver, deleted, stayed: what comes of an operation that lays a box where there was one of this value; of one that deletes that; and of one that leaves it.
func laidOver(out uint64, value string) Outcome {
	return Outcome{Reply: api.Reply{Had: true, Did: true, Value: value}, Out: out, Laid: true}
}
func deleted(value string) Outcome {
	return Outcome{Reply: api.Reply{Had: true, Did: true, Value: value}}
}
func stayed(value string) Outcome { return Outcome{Reply: api.Reply{Had: true, Value: value}} }

// holdMay: an edit of the job goes as the chapter says, if it may, and does nothing, if not; so does one on a slot that is Live, one that is Gone, and one that is neither.
func holdMay(t *testing.T, j job, may bool) {
	t.Helper()
	if j.may() != may {
		t.Fatalf("%+v: may be %v", j, j.may())
	}
	for _, w := range []uint64{0, 5, 25, 26, 27, top} {
		for _, lay := range []uint64{0, 5, top} {
			j.at.Word, j.lay = w, lay
			if !may {
				holdNothing(t, j.edit())
				continue
			}
			j.hold(t, listed())
			j.hold(t, listed(w))
			j.hold(t, listed(33, 0, 34, 0x101, 'k', 'v', 34))
		}
	}
}

// siteOf: a site of a thread of so many in a desk.
func siteOf(block uint64, thread, threads int) api.Site {
	return api.Site{Desk: block, Thread: thread, Threads: threads, Keep: 1}
}

// withSite, withTable, withCell, withKind: a job with another part.
func withSite(s api.Site) job   { j := jobOf(api.Put, "", 25, "v"); j.site = s; return j }
func withTable(b api.Table) job { j := jobOf(api.Put, "", 25, "v"); j.of = b; return j }
func withCell(cell int) job     { j := jobOf(api.Put, "", 25, "v"); j.at.Cell = cell; return j }
func withKind(kind int) job     { return jobOf(kind, "v", 25, "v") }

// P23.2: each bound of each part of a site, on both sides.
func TestSiteBounds(t *testing.T) {
	for _, n := range edgeNumbers() {
		holdMay(t, withSite(siteOf(1, n, 64)), n >= 0 && n <= 63)
		holdMay(t, withSite(siteOf(1, 0, n)), n >= 1 && n <= 64)
		holdMay(t, withSite(siteOf(1, 63, n)), n == 64)
		holdMay(t, withSite(api.Site{Desk: 1, Threads: 64, Thread: 63, Keep: n}), n >= 1 && n <= 64)
		holdMay(t, withSite(siteOf(0, 2, 3)), false)
		holdMay(t, withSite(siteOf(1, 3, 3)), false)
	}
	for threads := range 67 {
		for thread := -1; thread <= threads; thread++ {
			holdMay(t, withSite(siteOf(0, thread, threads)), false)
			holdMay(t, withSite(siteOf(top, thread, threads)), threads >= 1 && threads <= 64 && thread >= 0 && thread < threads)
		}
	}
	for _, block := range edgeWords() {
		for _, seed := range edgeWords() {
			holdMay(t, withSite(api.Site{Desk: block, Threads: 1, Keep: 64, Seed: seed}), block != 0)
		}
	}
	holdMay(t, withSite(api.Site{}), false)
	holdMay(t, withSite(api.Site{Seed: top}), false)
}

// P23.2: each bound of each part of a table, on both sides.
func TestTableBounds(t *testing.T) {
	for _, block := range edgeWords() {
		for _, log := range edgeNumbers() {
			holdMay(t, withTable(api.Table{Block: block, Log: log}), block != 0 && log >= 0 && log <= 9)
		}
	}
	for log := -80; log <= 80; log++ {
		holdMay(t, withTable(api.Table{Block: 1, Log: log}), log >= 0 && log <= 9)
		holdMay(t, withTable(api.Table{Log: log}), false)
	}
	holdMay(t, withTable(api.Table{}), false)
}

// P23.2: cells below 0 and from 0 on, also such as no table has, and kinds from below the first one with a key to above the last one.
func TestCellAndKindBounds(t *testing.T) {
	for _, n := range edgeNumbers() {
		holdMay(t, withCell(n), n >= 0)
		holdMay(t, withKind(n), n >= 1 && n <= 7)
		for _, kind := range edgeNumbers() {
			j := withKind(kind)
			j.at.Cell = n
			holdMay(t, j, n >= 0 && kind >= 1 && kind <= 7)
		}
	}
	for n := -300; n < 300; n++ {
		holdMay(t, withCell(n), n >= 0)
		holdMay(t, withKind(n), n >= 1 && n <= 7)
	}
	for _, kind := range []int{api.Len, api.Clear, api.Range, api.Flush} {
		holdMay(t, withKind(kind), false)
	}
}

// P23.2: each choice of parts around their bounds.
func TestChoices(t *testing.T) {
	numbers := []int{math.MinInt, -1, 0, 1, 63, 64, 65, math.MaxInt}
	for _, desk := range []uint64{0, 1, top} {
		for _, thread := range numbers {
			for _, threads := range numbers {
				for _, keep := range numbers {
					for _, b := range []api.Table{{}, {Block: 1}, {Block: top, Log: 9}, {Block: 1, Log: 10}, {Block: 1, Log: -1}, {Log: 3}} {
						for i, kind := range []int{0, 1, 2, 7, 8} {
							j := jobOf(kind, "v", 25, "v")
							j.site, j.of, j.at.Cell = api.Site{Desk: desk, Thread: thread, Threads: threads, Keep: keep}, b, i-1
							x := j.edit()
							_, more := x.Act()
							if _, done := x.Result(); more != (j.may() && kind != 1) || done != (j.may() && kind == 1) {
								t.Fatalf("%+v: act %v, done %v", j, more, done)
							}
						}
					}
				}
			}
		}
	}
}

// P23.2: keys and values of the operation of any length, also such as no box may have, and Old, do not matter to the acts and to what is told but by being the value that was read.
func TestTextsOfAnyLength(t *testing.T) {
	for _, n := range []int{0, 1, 15, 16, 17, 24, 25, 32, 255, 256, 272, 65536, 70000} {
		for _, j := range changing() {
			j.op.Key, j.op.Value = text(n, 1), text(n, 2)
			if j.op.Old == "v" {
				j.op.Old = text(n, 3)
			}
			j.at.Value = text(n, 3)
			o, acts := j.hold(t, func(x api.Act) uint64 { return x.Old })
			if acts != 1 || !o.Reply.Did || o.Reply.Had && o.Reply.Value != text(n, 3) {
				t.Fatalf("%d bytes: %+v behind %d acts", n, o, acts)
			}
			if j.op.Old == j.at.Value && j.op.Old != "" {
				j.op.Old = j.op.Old[1:]
				if o, acts := j.hold(t, listed()); acts != 0 || o.Reply.Did {
					t.Fatalf("%d bytes: %+v behind %d acts", n, o, acts)
				}
			}
		}
	}
}

// P23.2: what is done to a site, a table, an operation and a slot of one's own, behind New, does not matter, and New changes none.
func TestPartsAreCopied(t *testing.T) {
	j := jobOf(api.Put, "", 25, "v")
	s, b, o, at := j.site, j.of, j.op, j.at
	x := New(s, b, o, j.lay, at)
	if s != j.site || b != j.of || o != j.op || at != j.at {
		t.Fatalf("%+v %+v %+v %+v", s, b, o, at)
	}
	s, b, o, at = api.Site{}, api.Table{}, api.Op{}, Slot{}
	holdAct(t, x, j.cas(25, 41))
	x.Take(33)
	holdAct(t, x, j.protect(33))
	x.Take(0)
	holdAct(t, x, j.load())
	x.Take(34)
	holdAct(t, x, api.Act{Kind: api.Load, Block: 4})
	x.Take(0)
	holdAct(t, x, j.cas(34, 41))
	holdNothing(t, New(s, b, o, 5, at))
}

// P23.2: an edit goes on whether or not it is asked for its act or its answer meanwhile.
func TestUnasked(t *testing.T) {
	for asks := range 4 {
		for _, j := range append(changing(), jobOf(api.Get, "", 25, "v"), jobOf(api.Delete, "", 26, "v"), jobOf(api.Put, "", 27, "v")) {
			for _, got := range [][]uint64{
				{}, {25}, {26}, {27}, {33, 0, 33, 0x103, 'k', 'v', 33}, {34, 0, 34, 0, 34}, {33, 0, 41, 0, 42, 0x200, 'v', 42},
				{33, 0, 5}, {33, 0, 34, 0x100, 'v', 33, 0, 33, 0x100, 'v', 33}, {33, 0, 33, 0x100, 'w'}, {26, 0, 25, 0x100, 'v', 25},
			} {
				x := j.edit()
				do := listed(got...)
				o := j.plain(func(y api.Act) uint64 {
					for range asks {
						x.Act()
						x.Result()
					}
					w := do(y)
					x.Take(w)
					return w
				})
				holdEnd(t, x, o)
			}
		}
	}
}

// P23.2: edits of one job and of several are apart, and go on each by its own answers.
func TestApart(t *testing.T) {
	j, k := jobOf(api.CompareAndSwap, "v", 25, "v"), jobOf(api.Delete, "", 33, "other")
	x, y, other := j.edit(), j.edit(), k.edit()
	x.Take(49)
	holdAct(t, y, j.cas(25, 41))
	holdAct(t, other, k.cas(33, 34))
	y.Take(25)
	holdAct(t, x, j.protect(49))
	other.Take(57)
	x.Take(0)
	holdAct(t, other, k.protect(57))
	holdEnd(t, y, laidOver(3, "v"))
	other.Take(0)
	x.Take(49)
	other.Take(57)
	holdAct(t, x, api.Act{Kind: api.Load, Block: 6})
	holdAct(t, other, api.Act{Kind: api.Load, Block: 7})
	x.Take(0x100)
	other.Take(0x100)
	x.Take('v')
	other.Take('w')
	holdAct(t, x, j.cas(49, 41))
	holdAct(t, other, k.cas(57, 58))
	x.Take(50)
	other.Take(57)
	x.Take(0)
	holdEnd(t, other, deleted("w"))
	x.Take(5)
	holdEnd(t, x, Outcome{Again: true})
	holdEnd(t, y, laidOver(3, "v"))
}

// P23.2: a nil edit, and one that New did not make.
func TestNobodyMade(t *testing.T) {
	var plainly Edit
	for _, x := range []*Edit{nil, {}, new(Edit), &plainly} {
		holdNothing(t, x)
		a := newArena(t, 2, 1)
		before := a.Copy()
		var r api.Routine = x
		if n, end := drive.Alone(a, r, 100); n != 0 || !end {
			t.Fatalf("%d acts, %v", n, end)
		}
		if steps := drive.Run(a, []api.Routine{r}, []int{0, 0, 0}); len(steps) != 0 {
			t.Fatalf("steps: %+v", steps)
		}
		holdSame(t, a, before)
		holdNothing(t, x)
	}
}

// P23.2: the model that the tests hold an edit against tells, of all answers so far, the act that comes next.
func TestBehind(t *testing.T) {
	j := jobOf(api.CompareAndSwap, "v", 25, "v")
	got := []uint64{33, 0, 33, 0x100, 'v', 33}
	for i, want := range []api.Act{j.cas(25, 41), j.protect(33), j.load(), {Kind: api.Load, Block: 4}, {Kind: api.Load, Block: 4, Cell: 1}, j.cas(33, 41)} {
		if x, o, end := j.behind(got[:i]); x != want || !same(o, Outcome{}) || end {
			t.Fatalf("%+v %+v %v; wanted %+v", x, o, end, want)
		}
	}
	if x, o, end := j.behind(got); x != (api.Act{}) || !same(o, laidOver(4, "v")) || !end {
		t.Fatalf("%+v %+v %v", x, o, end)
	}
}
