package seek

import (
	"math"
	"testing"

	"sprocket/api"
	"sprocket/drive"
	"sprocket/mix"
)

const top = math.MaxUint64

// row: the next one of a row of words without an order that matters, each time.
func row(w uint64) func() uint64 {
	return func() uint64 {
		w = w*6364136223846793005 + 1442695040888963407
		return w>>33 ^ w<<7
	}
}

// edgeWords: numbers of blocks, seeds, and answers: small and great ones, 0 and the greatest.
func edgeWords() []uint64 {
	return []uint64{0, 1, 2, 3, 5, 7, 8, 9, 128, 255, 256, 65535, 65536, math.MaxInt32, math.MaxUint32, 1 << 32, 1<<61 - 1, 1 << 61, math.MaxInt64, 1 << 63, top - 1, top}
}

// edgeNumbers: numbers on both sides of each bound of a site's parts and of logs, and of Go's types.
func edgeNumbers() []int {
	return []int{math.MinInt, math.MinInt + 1, math.MinInt32, -65, -64, -63, -2, -1, 0, 1, 2, 3, 8, 9, 10, 11, 31, 62, 63, 64, 65, 66, 127, 128, 1 << 32, 1<<32 + 1, math.MaxInt32, math.MaxInt - 1, math.MaxInt}
}

// edgeBlocks: numbers that a slot's word has beside its mark, up to the greatest.
func edgeBlocks() []uint64 {
	return []uint64{0, 1, 2, 3, 7, 8, 9, 63, 64, 65535, 65536, 1 << 32, 1<<60 - 1, 1 << 60, 1<<61 - 2, 1<<61 - 1}
}

// inverse: the number that an odd factor times is 1.
func inverse(factor uint64) uint64 {
	x := factor
	for range 6 {
		x *= 2 - factor*x
	}
	return x
}

// seedOf: the seed by which a key has this hash, by the words of the chapter of hashes, undone from the last one to the first.
func seedOf(key string, h uint64) uint64 {
	h ^= h>>29 ^ h>>58
	h *= inverse(11400714819323198485)
	h ^= h >> 32
	for i := len(key) - 1; i >= 0; i-- {
		h = h*inverse(1099511628211) ^ uint64(key[i])
	}
	return h
}

// seedFor: the seed by which a key's hash has this start and this claim.
func seedFor(key string, start, claim uint64) uint64 { return seedOf(key, start<<7|(claim-128)) }

// job: what a seek is made of.
type job struct {
	site  api.Site
	of    api.Table
	key   string
	lay   uint64
	check bool
}

// theSite, theTable, theKey: those of jobs of which no part matters but the ones that are told.
var (
	theSite  = api.Site{Desk: 9, Thread: 2, Threads: 3, Keep: 1}
	theTable = api.Table{Block: 6}
)

const theKey = "key"

// theClaim: that of the jobs that jobOf makes.
const theClaim = 0xa5

// jobOf: a job of who lays the box in the block lay, or looks alone, for the key of which the claim is theClaim, in a table of one group.
func jobOf(lay uint64, check bool) job { return jobIn(0, 0, lay, check) }

// jobIn: such a job in a table of the log, of which the group of that start is looked at first.
func jobIn(log int, start, lay uint64, check bool) job {
	j := job{theSite, theTable, theKey, lay, check}
	j.of.Log = log
	j.site.Seed = seedFor(theKey, start, theClaim)
	return j
}

// jobs: who looks and who lays, each with check and without, in a table of the log, of which the group of that start is looked at first.
func jobs(log int, start uint64) []job {
	return []job{jobIn(log, start, 0, false), jobIn(log, start, 0, true), jobIn(log, start, 5, false), jobIn(log, start, 5, true)}
}

// seek: a new one of the job.
func (j job) seek() *Seek { return New(j.site, j.of, j.key, j.lay, j.check) }

// may: whether there may be acts, by the words of the chapters of desks and tables, and of this one.
func (j job) may() bool {
	s := j.site
	return s.Desk != 0 && s.Threads >= 1 && s.Threads <= 64 && s.Thread >= 0 && s.Thread < s.Threads && s.Keep >= 1 && s.Keep <= 64 &&
		j.of.Block != 0 && j.of.Log >= 0 && j.of.Log <= 9 && len(j.key) <= 16
}

// claim: that of the key's hash.
func (j job) claim() uint64 { return 128 + mix.Hash(j.site.Seed, j.key)%128 }

// groups: how many the table has.
func (j job) groups() int { return []int{1, 2, 4, 8, 16, 32, 64, 128, 256, 512}[j.of.Log] }

// group: the i-th one that is looked at.
func (j job) group(i int) int {
	start := mix.Hash(j.site.Seed, j.key) / 128
	return int((start + uint64(i*(i+1)/2)) % uint64(j.groups()))
}

// slotCell: the cell of the slot at a place of a group.
func (j job) slotCell(group, place int) int { return 7 + j.groups() + 8*group + place }

// The acts on the table.
func (j job) load(cell int) api.Act {
	return api.Act{Kind: api.Load, Block: j.of.Block, Cell: cell}
}

func (j job) cas(cell int, old, next uint64) api.Act {
	return api.Act{Kind: api.Cas, Block: j.of.Block, Cell: cell, Old: old, New: next}
}

func (j job) note() api.Act {
	return api.Act{Kind: api.Add, Block: j.of.Block, Cell: 3 + j.site.Thread%4, New: 1}
}

// protect: the act that lays the block of a word into the cell for the box of the site's thread.
func (j job) protect(w uint64) api.Act {
	return api.Act{Kind: api.Store, Block: j.site.Desk, Cell: 3 + 2*j.site.Thread, New: w >> 3}
}

// fresh, holds: whether a word is Fresh, and whether it holds a block, by the words of the chapter of tags.
func fresh(w uint64) bool { return w>>3 != 0 && (w&7 == 1 || w&7 == 2) }
func holds(w uint64) bool { return w>>3 != 0 && w&7 >= 1 && w&7 <= 4 }

// answers: what is answered to each act.
type answers func(api.Act) uint64

// plain: what the chapter says of a seek of the job, to whose acts this is answered: what is found.
func (j job) plain(do answers) Found {
	came := false
	for i := range j.groups() {
		group := j.group(i)
		w := do(j.load(7 + group))
		for place := 0; place < 8; {
			f, end := Found{}, false
			cell := j.slotCell(group, place)
			switch w >> (8 * place) & 255 {
			case 1:
				return Found{Kind: Redirect}
			case j.claim():
				f, end = j.plainOwn(do, cell)
			case 0:
				if j.lay == 0 {
					return Found{Kind: Absent}
				}
				if j.check && !came && j.plainCrowded(do) {
					return Found{Kind: Crowded}
				}
				came = true
				next := w + j.claim()<<(8*place)
				if was := do(j.cas(7+group, w, next)); was != w {
					w = was
					continue
				}
				w = next
				do(j.note())
				f, end = j.plainLay(do, cell)
			}
			if end {
				return f
			}
			place++
		}
	}
	if j.lay == 0 {
		return Found{Kind: Absent}
	}
	return Found{Kind: Full}
}

// plainCrowded: crowd's acts, and whether the table is crowded by what is answered to them.
func (j job) plainCrowded(do answers) bool {
	return do(j.load(3))+do(j.load(4))+do(j.load(5))+do(j.load(6)) >= uint64(7*j.groups())
}

// plainOwn: what is found in a slot of the key's own claim, and true, if he doesn't go on behind it.
func (j job) plainOwn(do answers, cell int) (Found, bool) {
	w := do(j.load(cell))
	switch {
	case w != 0:
		return j.plainExamine(do, cell, w)
	case j.lay == 0:
		return Found{Kind: Absent}, true
	}
	return j.plainLay(do, cell)
}

// plainLay: what is found in a slot that is laid into, and true, if he doesn't go on behind it.
func (j job) plainLay(do answers, cell int) (Found, bool) {
	word := j.lay<<3 | 1
	was := do(j.cas(cell, 0, word))
	if was == 0 {
		return Found{Kind: Laid, Cell: cell, Word: word}, true
	}
	return j.plainExamine(do, cell, was)
}

// plainExamine: what is found in a slot that has this word, and true, if he doesn't go on behind it.
func (j job) plainExamine(do answers, cell int, w uint64) (Found, bool) {
	if !holds(w) {
		return plainBoxless(w)
	}
	w = j.plainShield(do, cell, w)
	if !holds(w) {
		return plainBoxless(w)
	}
	key, value := plainRead(do, w>>3)
	switch {
	case key != j.key:
		return Found{}, false
	case fresh(w):
		return Found{Kind: Here, Cell: cell, Word: w, Value: value}, true
	}
	return Found{Kind: Redirect}, true
}

// plainBoxless: what is found in a slot whose word holds no block, and true, if he doesn't go on behind it.
func plainBoxless(w uint64) (Found, bool) {
	if w == 5 {
		return Found{Kind: Redirect}, true
	}
	return Found{}, false
}

// plainShield: shield's acts for a slot that had this word, and what they tell.
func (j job) plainShield(do answers, cell int, w uint64) uint64 {
	for fresh(w) {
		do(j.protect(w))
		now := do(j.load(cell))
		if now>>3 == w>>3 {
			return now
		}
		w = now
	}
	return w
}

// plainRead: reader's acts for a block, and the key and the value that they tell.
func plainRead(do answers, block uint64) (string, string) {
	cell := 0
	load := func() uint64 {
		cell++
		return do(api.Act{Kind: api.Load, Block: block, Cell: cell - 1})
	}
	text := func(n uint64) string {
		var out []byte
		for n > uint64(len(out)) {
			for w, i := load(), 0; i < 8 && n > uint64(len(out)); i++ {
				out = append(out, byte(w>>(8*i)))
			}
		}
		return string(out)
	}
	head := load()
	key := text(min(head&255, 16))
	return key, text(min(head>>8&255, 24))
}

// pending: the act to which nothing is answered yet.
type pending struct{ act api.Act }

// behind: where the chapter says that a seek of the job is behind these answers to all its acts so far: the act that comes next, or what was found at the end.
func (j job) behind(got []uint64) (x api.Act, f Found, end bool) {
	defer func() {
		if p := recover(); p != nil {
			x = p.(pending).act
		}
	}()
	next := 0
	f = j.plain(func(y api.Act) uint64 {
		if next == len(got) {
			panic(pending{y})
		}
		next++
		return got[next-1]
	})
	return api.Act{}, f, true
}

// holdNoAnswer: there is no answer.
func holdNoAnswer(t *testing.T, x *Seek) {
	t.Helper()
	if got, done := x.Result(); got != (Found{}) || done {
		t.Fatalf("Result: %+v %v; wanted none", got, done)
	}
}

// holdAct: the act that comes next is this one, however often it is asked, and there is no answer yet.
func holdAct(t *testing.T, x *Seek, want api.Act) {
	t.Helper()
	for range 2 {
		if got, more := x.Act(); got != want || !more {
			t.Fatalf("Act: %+v %v; wanted %+v", got, more, want)
		}
		holdNoAnswer(t, x)
	}
}

// holdEnd: no act comes any more, and this was found, however often both are asked, and whatever is taken.
func holdEnd(t *testing.T, x *Seek, want Found) {
	t.Helper()
	for _, w := range append([]uint64{0, 0, 0, 1, 5, 25, 41, 128, theClaim, 1 << 63, top}, want.Word, want.Word+1) {
		if got, more := x.Act(); got != (api.Act{}) || more {
			t.Fatalf("Act at the end: %+v %v; wanted none", got, more)
		}
		for range 2 {
			if got, done := x.Result(); got != want || !done {
				t.Fatalf("Result at the end: %+v %v; wanted %+v", got, done, want)
			}
		}
		x.Take(w)
	}
}

// holdNothing: there is neither an act nor an answer, whatever is taken.
func holdNothing(t *testing.T, x *Seek) {
	t.Helper()
	for _, w := range []uint64{0, 0, 0, 0, 0, 0, 0, 1, 1, 5, 25, 25, 25, 128, theClaim, 1 << 63, top, top} {
		if got, more := x.Act(); got != (api.Act{}) || more {
			t.Fatalf("Act: %+v %v; wanted none", got, more)
		}
		holdNoAnswer(t, x)
		x.Take(w)
	}
}

// hold: a seek of the job, to whose acts this is answered, does the chapter's acts in order, and finds what the chapter says; that is told, and how many acts there were.
func (j job) hold(t *testing.T, do answers) (Found, int) {
	t.Helper()
	x := j.seek()
	acts := 0
	f := j.plain(func(want api.Act) uint64 {
		t.Helper()
		holdAct(t, x, want)
		acts++
		got := do(want)
		x.Take(got)
		return got
	})
	holdEnd(t, x, f)
	return f, acts
}

// listed: these answers, in order, and 0 behind them.
func listed(got ...uint64) answers {
	next := 0
	return func(api.Act) uint64 {
		if next == len(got) {
			return 0
		}
		next++
		return got[next-1]
	}
}

// holdFinds: a seek of the job does as the chapter says, and ends behind just these answers, with this.
func (j job) holdFinds(t *testing.T, want Found, got ...uint64) {
	t.Helper()
	f, acts := j.hold(t, listed(got...))
	if f != want || acts != len(got) {
		t.Fatalf("%+v behind %d acts; wanted %+v behind %d", f, acts, want, len(got))
	}
}

// step: an act, and what is answered to it.
type step struct {
	act api.Act
	got uint64
}

// holdSteps: a seek of the job does just these acts, in order, and finds this.
func holdSteps(t *testing.T, j job, want Found, steps ...step) {
	t.Helper()
	x := j.seek()
	for _, y := range steps {
		holdAct(t, x, y.act)
		x.Take(y.got)
	}
	holdEnd(t, x, want)
}

// holdMay: a seek of the job goes as the chapter says, if it may, and does nothing, if not; so does one who looks, or lays, with check or without.
func holdMay(t *testing.T, j job, may bool) {
	t.Helper()
	if j.may() != may {
		t.Fatalf("%+v: may be %v", j, j.may())
	}
	for _, lay := range []uint64{0, 1, top} {
		for _, check := range []bool{false, true} {
			j.lay, j.check = lay, check
			if !may {
				holdNothing(t, j.seek())
				continue
			}
			j.hold(t, listed())
			j.hold(t, listed(j.claim(), 25, 0, 26, 0x101, 'k', 'v'))
		}
	}
}

// withSite, withTable, withKey: a job with another part.
func withSite(s api.Site) job   { j := jobOf(0, false); j.site = s; return j }
func withTable(b api.Table) job { j := jobOf(0, false); j.of = b; return j }
func withKey(key string) job    { j := jobOf(0, false); j.key = key; return j }

// siteOf: a site of a thread of so many in a desk.
func siteOf(block uint64, thread, threads int) api.Site {
	return api.Site{Desk: block, Thread: thread, Threads: threads, Keep: 1}
}

// P22.1: each bound of each part of a site, on both sides.
func TestSiteBounds(t *testing.T) {
	for _, n := range edgeNumbers() {
		holdMay(t, withSite(siteOf(1, n, 64)), n >= 0 && n <= 63)
		holdMay(t, withSite(siteOf(1, 0, n)), n >= 1 && n <= 64)
		holdMay(t, withSite(siteOf(1, 63, n)), n == 64)
		holdMay(t, withSite(api.Site{Desk: 1, Threads: 64, Thread: 63, Keep: n}), n >= 1 && n <= 64)
		holdMay(t, withSite(siteOf(0, 2, 3)), false)
		holdMay(t, withSite(siteOf(1, 3, 3)), false)
	}
	for threads := range 67 {
		for thread := -1; thread <= threads; thread++ {
			holdMay(t, withSite(siteOf(0, thread, threads)), false)
			holdMay(t, withSite(siteOf(top, thread, threads)), threads >= 1 && threads <= 64 && thread >= 0 && thread < threads)
		}
	}
	for _, block := range edgeWords() {
		for _, seed := range edgeWords() {
			holdMay(t, withSite(api.Site{Desk: block, Threads: 1, Keep: 64, Seed: seed}), block != 0)
		}
	}
	holdMay(t, withSite(api.Site{}), false)
	holdMay(t, withSite(api.Site{Seed: top}), false)
}

// P22.1: each bound of each part of a table, on both sides.
func TestTableBounds(t *testing.T) {
	for _, block := range edgeWords() {
		for _, log := range edgeNumbers() {
			holdMay(t, withTable(api.Table{Block: block, Log: log}), block != 0 && log >= 0 && log <= 9)
		}
	}
	for log := -80; log <= 80; log++ {
		holdMay(t, withTable(api.Table{Block: 1, Log: log}), log >= 0 && log <= 9)
		holdMay(t, withTable(api.Table{Log: log}), false)
	}
	holdMay(t, withTable(api.Table{}), false)
}

// P22.1: keys of each length up to more than the greatest one, and one so long that its length by 256, or by 32, would be short.
func TestKeyBounds(t *testing.T) {
	long := make([]byte, 70000)
	for n := range 40 {
		holdMay(t, withKey(string(long[:n])), n <= 16)
	}
	for _, n := range []int{64, 255, 256, 257, 272, 65536, 65537, 70000} {
		holdMay(t, withKey(string(long[:n])), false)
	}
}

// P22.1: each choice of parts around their bounds.
func TestChoices(t *testing.T) {
	numbers := []int{math.MinInt, -1, 0, 1, 63, 64, 65, math.MaxInt}
	for _, desk := range []uint64{0, 1, top} {
		for _, thread := range numbers {
			for _, threads := range numbers {
				for _, keep := range numbers {
					for _, b := range []api.Table{{}, {Block: 1}, {Block: top, Log: 9}, {Block: 1, Log: 10}, {Block: 1, Log: -1}, {Log: 3}} {
						for _, key := range []string{"", "k", "0123456789abcdef", "0123456789abcdefg"} {
							j := job{api.Site{Desk: desk, Thread: thread, Threads: threads, Keep: keep, Seed: 3}, b, key, uint64(keep), true}
							x := j.seek()
							if _, more := x.Act(); more != j.may() {
								t.Fatalf("%+v: act %v", j, more)
							}
							holdNoAnswer(t, x)
						}
					}
				}
			}
		}
	}
}

// P22.1: what is done to a site and a table of one's own, behind New, does not matter, and New changes none.
func TestPartsAreCopied(t *testing.T) {
	j := jobOf(5, true)
	s, b := j.site, j.of
	x := New(s, b, j.key, j.lay, j.check)
	if s != j.site || b != j.of {
		t.Fatalf("%+v %+v", s, b)
	}
	s, b = api.Site{}, api.Table{}
	holdAct(t, x, j.load(7))
	x.Take(0)
	for i := range 4 {
		holdAct(t, x, j.load(3+i))
		x.Take(0)
	}
	holdAct(t, x, j.cas(7, 0, theClaim))
	holdNothing(t, New(s, b, j.key, j.lay, j.check))
}

// P22.1, P22.2: a seek goes on whether or not it is asked for its act or its answer meanwhile.
func TestUnasked(t *testing.T) {
	for asks := range 4 {
		for _, j := range append(jobs(0, 0), jobs(2, 3)...) {
			for _, got := range [][]uint64{
				{}, {1}, {theClaim}, {theClaim, 25, 0, 33, 0, 34, 0x103, 'k' | 'e'<<8 | 'y'<<16, 'v'}, {theClaim, 27, 0x101, 0, 0},
				{0, 0, 7, 0, 0, theClaim}, {0, 7}, {0, 0, 0, 0, 0, 0, 0, 5}, {0x8180, 0x8180, 0, 0, 0, 0, 0, 0, 25}, {0, theClaim, 0, 25, 0, 25, 0},
			} {
				x := j.seek()
				do := listed(got...)
				f := j.plain(func(y api.Act) uint64 {
					for range asks {
						x.Act()
						x.Result()
					}
					w := do(y)
					x.Take(w)
					return w
				})
				holdEnd(t, x, f)
			}
		}
	}
}

// P22.1: seeks of one job and of several are apart, and go on each by its own answers.
func TestApart(t *testing.T) {
	j, k := jobOf(5, true), jobIn(1, 1, 0, false)
	x, y, other := j.seek(), j.seek(), k.seek()
	x.Take(0)
	holdAct(t, y, j.load(7))
	holdAct(t, other, k.load(8))
	y.Take(theClaim)
	other.Take(theClaim << 8)
	holdAct(t, x, j.load(3))
	x.Take(6)
	holdAct(t, y, j.load(8))
	y.Take(25)
	holdEnd(t, other, Found{Kind: Absent})
	holdAct(t, x, j.load(4))
	x.Take(0)
	holdAct(t, y, j.protect(25))
	x.Take(0)
	y.Take(0)
	x.Take(0)
	y.Take(27)
	holdAct(t, x, j.cas(7, 0, theClaim))
	holdAct(t, y, api.Act{Kind: api.Load, Block: 3})
	x.Take(0)
	y.Take(3)
	holdAct(t, x, j.note())
	y.Take('k' | 'e'<<8 | 'y'<<16)
	x.Take(0)
	x.Take(0)
	holdEnd(t, y, Found{Kind: Redirect})
	holdEnd(t, x, Found{Kind: Laid, Cell: 8, Word: 41})
	holdEnd(t, other, Found{Kind: Absent})
}

// P22.1: a nil seek, and one that New did not make.
func TestNobodyMade(t *testing.T) {
	var plainly Seek
	for _, x := range []*Seek{nil, {}, new(Seek), &plainly} {
		holdNothing(t, x)
		a := newArena(t, 2, 1)
		before := a.Copy()
		var r api.Routine = x
		if n, end := drive.Alone(a, r, 100); n != 0 || !end {
			t.Fatalf("%d acts, %v", n, end)
		}
		if steps := drive.Run(a, []api.Routine{r}, []int{0, 0, 0}); len(steps) != 0 {
			t.Fatalf("steps: %+v", steps)
		}
		holdSame(t, a, before)
		holdNothing(t, x)
	}
}

// P22.1: the kinds' numbers.
func TestKinds(t *testing.T) {
	if got := [...]int{Absent, Here, Laid, Redirect, Full, Crowded}; got != [...]int{1, 2, 3, 4, 5, 6} {
		t.Fatalf("%d", got)
	}
}
