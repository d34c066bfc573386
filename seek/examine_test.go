package seek

import (
	"fmt"
	"testing"

	"sprocket/api"
)

// P22.2: acts and what is found written out.
func TestExamineByHand(t *testing.T) {
	here := func(cell int, w uint64, value string) Found {
		return Found{Kind: Here, Cell: cell, Word: w, Value: value}
	}
	redirect := Found{Kind: Redirect}
	for _, check := range []bool{false, true} {
		for _, lay := range []uint64{0, 5} {
			none := Found{Kind: Absent}
			if lay != 0 {
				none = Found{Kind: Full}
			}
			own := func(b uint64) step { return step{own(b), 0} }
			holdByHand(t, []handRow{
				{0, lay, check, here(8, 25, "v"), []step{{ld(7), 0x80}, {ld(8), 25}, own(3), {ld(8), 25}, {box(3, 0), 0x100}, {box(3, 1), 'v'}}},
				{0, lay, check, here(8, 26, ""), []step{{ld(7), 0x80}, {ld(8), 26}, own(3), {ld(8), 26}, {box(3, 0), 0}}},
				{0, lay, check, here(8, 26, ""), []step{{ld(7), 0x80}, {ld(8), 25}, own(3), {ld(8), 26}, {box(3, 0), 0}}},
				{0, lay, check, here(15, 33, "12345678abcdefgh!"), []step{{ld(7), 0x80<<56 | top>>8}, {ld(15), 25}, own(3), {ld(15), 33}, own(4), {ld(15), 33}, {box(4, 0), 0x1100}, {box(4, 1), 0x3837363534333231}, {box(4, 2), 0x6867666564636261}, {box(4, 3), '!'}}},
				{0, lay, check, redirect, []step{{ld(7), 0x80}, {ld(8), 27}, {box(3, 0), 0}}},
				{0, lay, check, redirect, []step{{ld(7), 0x80}, {ld(8), 28}, {box(3, 0), 0x100}, {box(3, 1), 'v'}}},
				{0, lay, check, redirect, []step{{ld(7), 0x80}, {ld(8), 5}}},
				{0, lay, check, redirect, []step{{ld(7), 0x80}, {ld(8), 25}, own(3), {ld(8), 5}}},
				{0, lay, check, redirect, []step{{ld(7), 0x80}, {ld(8), 25}, own(3), {ld(8), 27}, {box(3, 0), 0}}},
				{0, lay, check, redirect, []step{{ld(7), 0x80}, {ld(8), 25}, own(3), {ld(8), 36}, {box(4, 0), 0}}},
				{0, lay, check, redirect, []step{{ld(7), 0x80}, {ld(8), 25}, own(3), {ld(8), 34}, own(4), {ld(8), 5}}},
				{0, lay, check, none, []step{{ld(7), top&^255 | 0x80}, {ld(8), 24}}},
				{0, lay, check, none, []step{{ld(7), top&^255 | 0x80}, {ld(8), 29}}},
				{0, lay, check, none, []step{{ld(7), top&^255 | 0x80}, {ld(8), 1}}},
				{0, lay, check, none, []step{{ld(7), top&^255 | 0x80}, {ld(8), 25}, own(3), {ld(8), 0}}},
				{0, lay, check, none, []step{{ld(7), top&^255 | 0x80}, {ld(8), 25}, own(3), {ld(8), 33}, own(4), {ld(8), 1}}},
				{0, lay, check, none, []step{{ld(7), top&^255 | 0x80}, {ld(8), 25}, own(3), {ld(8), 25}, {box(3, 0), 1}, {box(3, 1), 'x'}}},
				{0, lay, check, none, []step{{ld(7), top&^255 | 0x80}, {ld(8), 28}, {box(3, 0), 1}, {box(3, 1), 'x'}}},
				{0, lay, check, here(9, 34, ""), []step{{ld(7), top&^65535 | 0x8080}, {ld(8), 25}, own(3), {ld(8), 25}, {box(3, 0), 1}, {box(3, 1), 'x'}, {ld(9), 34}, own(4), {ld(9), 34}, {box(4, 0), 0}}},
				{1, lay, check, here(17, 34, ""), []step{{ld(7), top&^255 | 0x80}, {ld(9), 24}, {ld(8), 0x80}, {ld(17), 34}, own(4), {ld(17), 34}, {box(4, 0), 0}}},
			})
		}
		// What the Cas of the slot found is examined like what was loaded.
		holdByHand(t, []handRow{
			{0, 5, check, here(8, 25, "v"), []step{{ld(7), 0x80}, {ld(8), 0}, {cas(8, 0, 41), 25}, {own(3), 0}, {ld(8), 25}, {box(3, 0), 0x100}, {box(3, 1), 'v'}}},
			{0, 5, check, redirect, []step{{ld(7), 0x80}, {ld(8), 0}, {cas(8, 0, 41), 5}}},
			{0, 5, check, redirect, []step{{ld(7), 0x80}, {ld(8), 0}, {cas(8, 0, 41), 27}, {box(3, 0), 0}}},
			{0, 5, check, here(8, 41, ""), []step{{ld(7), 0x80}, {ld(8), 0}, {cas(8, 0, 41), 41}, {own(5), 0}, {ld(8), 41}, {box(5, 0), 0}}},
			{0, 5, check, Found{Kind: Full}, []step{{ld(7), top&^255 | 0x80}, {ld(8), 0}, {cas(8, 0, 41), 25}, {own(3), 0}, {ld(8), 26}, {box(3, 0), 1}, {box(3, 1), 0}}},
		})
	}
	holdByHand(t, []handRow{
		{0, 5, false, here(8, 25, ""), []step{{ld(7), 0}, {cas(7, 0, 0x80), 0}, {add(5), 0}, {cas(8, 0, 41), 25}, {own(3), 0}, {ld(8), 25}, {box(3, 0), 0}}},
		{0, 5, false, Found{Kind: Laid, Cell: 9, Word: 41}, []step{{ld(7), 0}, {cas(7, 0, 0x80), 0}, {add(5), 0}, {cas(8, 0, 41), 25}, {own(3), 0}, {ld(8), 25}, {box(3, 0), 1}, {box(3, 1), 'x'}, {cas(7, 0x80, 0x8080), 0x80}, {add(5), 1}, {cas(9, 0, 41), 0}}},
	})
}

// lead: how a seek comes to a slot's word, which is answered next.
type lead struct {
	name string
	job  job
	cell int
	got  []uint64
}

// leads: who looks and who lays, to whom a slot is loaded, and who lays to whom the Cas of the slot is answered, with and without a claim of his own ahead of it; at places of a table of two groups.
func leads(place int) []lead {
	var out []lead
	w := with(others(place), place, theClaim)
	for _, j := range jobs(1, 1) {
		cell := 9 + 8 + place
		out = append(out, lead{"loaded", j, cell, []uint64{w}})
		if j.lay != 0 {
			out = append(out, lead{"laid into", j, cell, []uint64{w, 0}})
		}
	}
	j := jobIn(1, 1, 5, false)
	free := with(others(place), place, 0)
	out = append(out, lead{"claimed", j, 9 + 8 + place, []uint64{free, free, 0}})
	j.check = true
	return append(out, lead{"claimed with check", j, 9 + 8 + place, []uint64{free, 0, 0, 0, 0, free, 0}})
}

// holdLead: behind these answers, and those of the way to the slot, the seek has come to this; with the way's answers all goes as the chapter says. What is wanted is a kind, or 0: he goes on behind this place, and so loads the next group's control word.
func holdLead(t *testing.T, l lead, want Found, got ...uint64) {
	t.Helper()
	x := l.job.seek()
	for _, w := range append(append([]uint64(nil), l.got...), got...) {
		x.Take(w)
	}
	if want == (Found{}) {
		holdAct(t, x, l.job.load(7))
	} else {
		holdEnd(t, x, want)
	}
	l.job.hold(t, listed(append(append([]uint64(nil), l.got...), got...)...))
}

// P22.2: words of each mark, of no block, and of blocks of small and of great numbers: Redirect, going on behind this place, or shield's acts.
func TestEachWord(t *testing.T) {
	for place := range 8 {
		for _, l := range leads(place) {
			for _, block := range edgeBlocks() {
				for mark := range uint64(8) {
					w := block<<3 | mark
					if w == 0 {
						continue
					}
					x := l.job.seek()
					for _, got := range append(append([]uint64(nil), l.got...), w) {
						x.Take(got)
					}
					switch {
					case w == 5:
						holdEnd(t, x, Found{Kind: Redirect})
					case block == 0 || mark == 0 || mark > 4:
						holdAct(t, x, l.job.load(7))
					case mark > 2:
						holdAct(t, x, box(block, 0))
					default:
						holdAct(t, x, own(block))
						x.Take(w)
						holdAct(t, x, l.job.load(l.cell))
					}
					l.job.hold(t, listed(append(append([]uint64(nil), l.got...), w, 0, w, 0x103, 'k'|'e'<<8|'y'<<16, 'v')...))
				}
			}
		}
	}
}

// keyWord: the word of theKey in a box.
const keyWord = 'k' | 'e'<<8 | 'y'<<16

// P22.2: shield's end with a word that is Fresh, with one that is not, with 5, and with one that holds no block, behind no change, one and several.
func TestShieldEnds(t *testing.T) {
	for _, l := range leads(3) {
		for _, changes := range [][]uint64{{25}, {26}, {25, 33}, {25, 34}, {26, 33, 42}, {25, 33, 25}, {25, 33, 25, 33}, {9, 17, 25, 33, 41, 49, 57}, {top - 6, 9, top - 5}} {
			// The slot has one of these after the other, each of another block, and is read twice with the last one's block.
			last := changes[len(changes)-1]
			var got []uint64
			for i, w := range changes {
				if i > 0 {
					got = append(got, 0)
				}
				got = append(got, w)
			}
			for mark := range uint64(8) {
				for _, block := range []uint64{last >> 3, 0, 1, 77, 1<<61 - 1} {
					w := block<<3 | mark
					behind := append(append([]uint64(nil), got...), 0, w)
					// He may go on with the shield: another box that is Fresh.
					if fresh(w) && block != last>>3 {
						behind = append(behind, 0, w)
					}
					switch {
					case fresh(w):
						holdLead(t, l, Found{Kind: Here, Cell: l.cell, Word: w, Value: "v"}, append(behind, 0x103, keyWord, 'v')...)
						holdLead(t, l, Found{}, append(behind, 0x103, keyWord+1, 'v')...)
					case holds(w):
						holdLead(t, l, Found{Kind: Redirect}, append(behind, 0x103, keyWord, 'v')...)
						holdLead(t, l, Found{}, append(behind, 0x103, keyWord-1, 'v')...)
					case w == 5:
						holdLead(t, l, Found{Kind: Redirect}, behind...)
					default:
						holdLead(t, l, Found{}, behind...)
					}
				}
			}
		}
	}
}

// P22.2: the shield goes on as long as the slot tells another box that is Fresh.
func TestShieldGoesOn(t *testing.T) {
	for _, many := range []int{1, 2, 7, 64, 3000} {
		for _, l := range leads(6) {
			got := []uint64{9}
			for i := range many {
				got = append(got, top, uint64(2+i%5)<<3|uint64(1+i%2))
			}
			last := got[len(got)-1]
			holdLead(t, l, Found{Kind: Here, Cell: l.cell, Word: last ^ 3}, append(got, top, last^3, 3, keyWord)...)
			holdLead(t, l, Found{Kind: Redirect}, append(got, top, 5)...)
		}
	}
}

// wordsOf: the words of a text, by the words of the chapter of packs.
func wordsOf(s string) []uint64 {
	var out []uint64
	for i := range len(s) {
		if i%8 == 0 {
			out = append(out, 0)
		}
		out[i/8] |= uint64(s[i]) << (i % 8 * 8)
	}
	return out
}

// boxOf: the words of a box, by the words of the chapter of boxes.
func boxOf(key, value string) []uint64 {
	out := []uint64{uint64(len(key) + 256*len(value))}
	return append(append(out, wordsOf(key)...), wordsOf(value)...)
}

// text: one of so many bytes, of all kinds, none of which the next one is like.
func text(n, from int) string {
	var out []byte
	for i := range n {
		out = append(out, byte(from+i*37))
	}
	return string(out)
}

// withKeyAt: the job of another key, with the seed by which it has the same claim, and the same group first.
func (j job) withKeyAt(key string, start uint64) job {
	j.key = key
	j.site.Seed = seedFor(key, start, theClaim)
	return j
}

// P22.2: boxes of each length of key and value up to the longest, of the key that is looked for: Here, with the value that was read, or Redirect; as many cells are loaded as the box has.
func TestEachBox(t *testing.T) {
	for n := range 17 {
		for m := range 25 {
			for from := range 3 {
				key, value := text(n, from*100), text(m, 255-from)
				for _, lay := range []uint64{0, 5} {
					j := jobOf(lay, true).withKeyAt(key, 0)
					for _, w := range []uint64{25, 26, 27, 28} {
						steps := []step{{j.load(7), theClaim}, {j.load(8), w}}
						want := Found{Kind: Redirect}
						if fresh(w) {
							steps = append(steps, step{j.protect(w), 0}, step{j.load(8), w})
							want = Found{Kind: Here, Cell: 8, Word: w, Value: value}
						}
						for i, y := range boxOf(key, value) {
							steps = append(steps, step{box(3, i), y})
						}
						holdSteps(t, j, want, steps...)
					}
				}
			}
		}
	}
}

// P22.2: heads that no box has: lengths beyond the greatest ones are as the greatest, and what stands above them does not matter.
func TestOddHeads(t *testing.T) {
	key, value := text(16, 9), text(24, 77)
	words := append(wordsOf(key), wordsOf(value)...)
	for _, n := range []uint64{16, 17, 32, 64, 128, 255} {
		for _, m := range []uint64{24, 25, 32, 100, 255} {
			for _, above := range []uint64{0, 1 << 16, 1 << 32, 1 << 63, 0xffffffffffff0000} {
				for _, l := range leads(1) {
					l.job = l.job.withKeyAt(key, 1)
					holdLead(t, l, Found{Kind: Here, Cell: l.cell, Word: 25, Value: value}, append([]uint64{25, 0, 25, n | m<<8 | above}, words...)...)
					holdLead(t, l, Found{Kind: Redirect}, append([]uint64{28, n | m<<8 | above}, words...)...)
					l.job = l.job.withKeyAt(key[:15], 1)
					holdLead(t, l, Found{}, append([]uint64{25, 0, 25, n | m<<8 | above}, words...)...)
				}
			}
		}
	}
	// Bytes behind the end of the key and the value, within their last words, do not matter.
	for _, l := range leads(1) {
		holdLead(t, l, Found{Kind: Here, Cell: l.cell, Word: 25, Value: "v"}, 25, 0, 25, 0x103, keyWord|0xff<<24|1<<63, 'v'|0xabcdef<<40)
	}
}

// P22.2: which keys are another one: of the same length with one bit changed, shorter, longer, the empty one, and one with a 0 behind.
func TestOtherKeys(t *testing.T) {
	for _, n := range []int{0, 1, 2, 7, 8, 9, 15, 16} {
		key := text(n, 65)
		var all []string
		for i := range n {
			for bit := range 8 {
				b := []byte(key)
				b[i] ^= 1 << bit
				all = append(all, string(b))
			}
			all = append(all, key[:i], key[i+1:], key[:i]+key[i+1:])
		}
		if n < 16 {
			all = append(all, key+"\x00", "\x00"+key, key+"x", text(16, 65), text(16, 66))
		}
		for k, other := range append(all, key) {
			for _, l := range leads(k % 8) {
				l.job = l.job.withKeyAt(key, 1)
				for _, w := range []uint64{25, 28} {
					got := []uint64{w}
					if fresh(w) {
						got = append(got, 0, w)
					}
					want := Found{}
					if other == key && fresh(w) {
						want = Found{Kind: Here, Cell: l.cell, Word: w, Value: "value"}
					} else if other == key {
						want = Found{Kind: Redirect}
					}
					holdLead(t, l, want, append(got, boxOf(other, "value")...)...)
				}
			}
		}
	}
}

// P22.2: behind another key's slot Next goes on behind this place, at each place, and each later one is examined by itself.
func TestGoesOnBehind(t *testing.T) {
	all := uint64(0)
	for p := range 8 {
		all = with(all, p, theClaim)
	}
	// kinds: how a slot is that he goes on behind, and how many acts that takes.
	kinds := [][]uint64{{24}, {1}, {1 << 63}, {7}, {27, 1, 'x'}, {28, 0}, {25, 0, 25, 0x101, 'x', 'v'}, {25, 0, 24}, {25, 0, 0}, {25, 0, 33, 0, 42, 0, 43, 2, 'k' | 'e'<<8}}
	for at := range 8 {
		for i := range kinds {
			for _, lay := range []uint64{0, 5} {
				got := []uint64{all}
				for p := range at {
					got = append(got, kinds[(i+p)%len(kinds)]...)
				}
				here := Found{Kind: Here, Cell: 8 + at, Word: 1<<40 | 1, Value: "v"}
				jobOf(lay, false).holdFinds(t, here, append(got, 1<<40|1, 0, 1<<40|1, 0x103, keyWord, 'v')...)
				jobOf(lay, false).holdFinds(t, Found{Kind: Redirect}, append(got, 5)...)
				if lay == 0 {
					jobOf(lay, false).holdFinds(t, Found{Kind: Absent}, append(got, 0)...)
				} else {
					jobOf(lay, false).holdFinds(t, Found{Kind: Laid, Cell: 8 + at, Word: 41}, append(got, 0, 0)...)
				}
			}
		}
	}
}

// P22.2: the shield's cell goes by the thread of the site, its slot by group and place; what is answered to its Store does not matter.
func TestShieldsCells(t *testing.T) {
	for thread := range 64 {
		for log := range 10 {
			for _, laid := range []uint64{0, 5, 25, 26, top} {
				j := jobIn(log, uint64(thread*7), 0, false)
				j.site.Thread, j.site.Threads = thread, 64
				group, place := j.group(0), (thread+log)%8
				cell := 7 + 1<<log + 8*group + place
				holdSteps(t, j, Found{Kind: Here, Cell: cell, Word: 34},
					step{j.load(7 + group), with(others(thread), place, theClaim)}, step{j.load(cell), 25},
					step{api.Act{Kind: api.Store, Block: 9, Cell: 3 + 2*thread, New: 3}, laid}, step{j.load(cell), 34},
					step{api.Act{Kind: api.Store, Block: 9, Cell: 3 + 2*thread, New: 4}, laid}, step{j.load(cell), 34},
					step{box(4, 0), 3}, step{box(4, 1), keyWord})
			}
		}
	}
}

// P22.1, P22.2: in each answer all that is not named is zero, also where a box was read, a slot examined or a place claimed ahead of it.
func TestNamedAlone(t *testing.T) {
	before := []uint64{25, 0, 25, 0x101, 'x', 'v'}
	own2 := uint64(theClaim | theClaim<<8)
	for _, c := range []struct {
		lay  uint64
		want Found
		got  []uint64
	}{
		{0, Found{Kind: Absent}, append([]uint64{theClaim}, before...)},
		{0, Found{Kind: Absent}, append(append([]uint64{own2}, before...), 0)},
		{0, Found{Kind: Redirect}, append([]uint64{theClaim | 1<<8}, before...)},
		{0, Found{Kind: Redirect}, append(append([]uint64{own2}, before...), 5)},
		{0, Found{Kind: Redirect}, append(append([]uint64{own2}, before...), 27, 0x103, keyWord, 'v')},
		{5, Found{Kind: Redirect}, append(append([]uint64{own2}, before...), 0, 28, 0x103, keyWord, 'v')},
		{5, Found{Kind: Full}, append([]uint64{top&^255 | theClaim}, before...)},
		{5, Found{Kind: Laid, Cell: 9, Word: 41}, append(append([]uint64{own2}, before...), 0, 0)},
		{5, Found{Kind: Crowded}, append(append([]uint64{theClaim}, before...), 7, 0, 0, 0)},
	} {
		j := jobOf(c.lay, true)
		j.holdFinds(t, c.want, c.got...)
	}
}

// scatteredWord: a slot's word, one of few blocks, mostly one that is Fresh.
func scatteredWord(next func() uint64, few uint64) uint64 {
	switch next() >> 9 % 12 {
	case 0:
		return 0
	case 1:
		return 5
	case 2:
		return next()
	case 3:
		return (1+next()>>9%few)<<3 | next()>>9%8
	}
	return (1+next()>>9%few)<<3 | 1 + next()>>9%2
}

// scatteredControl: a control word, of whose bytes many are this claim.
func scatteredControl(next func() uint64, claim uint64) uint64 {
	w := uint64(0)
	bytes := []uint64{0, claim, claim, claim, claim ^ 1, claim ^ 1, 255, claim &^ 128, 127, 128}
	if next()>>9%8 == 0 {
		bytes = append(bytes, 1)
	}
	for p := range 8 {
		w = with(w, p, bytes[next()>>9%uint64(len(bytes))])
	}
	if next()>>9%3 == 0 {
		w &= top >> (8 * (next() >> 9 % 8))
	}
	return w
}

// scatteredBox: the words of a box, mostly of this key, or of one like it.
func scatteredBox(next func() uint64, key string) []uint64 {
	value := text(int(next()>>9%25), int(next()>>9%256))
	other := []byte(key)
	switch n := next() >> 9 % 5; {
	case n == 0 && len(key) > 0:
		other[next()>>9%uint64(len(key))] ^= 1 << (next() >> 9 % 8)
	case n == 1 && len(key) > 0:
		other = other[:len(key)-1]
	case n == 2 && len(key) < 16:
		other = append(other, byte(next()>>9%3))
	}
	return boxOf(string(other), value)
}

// scatteredJob: a job that may be, without an order that matters.
func scatteredJob(next func() uint64, most uint64) job {
	threads := 1 + int(next()>>9%64)
	key := text(int(next()>>9%17), int(next()>>9%256))
	s := api.Site{Desk: next()>>(next()>>9%63) | 1, Thread: int(next() >> 9 % uint64(threads)), Threads: threads, Keep: 1 + int(next()>>9%64), Seed: next()}
	j := job{s, api.Table{Block: next()>>(next()>>9%63) | 1, Log: int(next() >> 9 % (most + 1))}, key, 0, next()>>9%2 == 0}
	if next()>>9%3 != 0 {
		j.lay = next() >> (next() >> 9 % 64)
	}
	return j
}

// fake: a memory that changes by itself, now and then, and at last is 0 and stays so.
type fake struct {
	job  job
	next func() uint64
	// cells has what was told or written last.
	cells map[api.Act]uint64
	// quiet: of how many acts ahead of one a cell changes; left: how many acts there are till all is 0.
	quiet, left uint64
}

// scattered: a word that may be told by the cell of a block.
func (f *fake) scattered(block uint64, cell int) uint64 {
	n := f.job.groups()
	switch {
	case block != f.job.of.Block:
		words := append(scatteredBox(f.next, f.job.key), f.next(), f.next(), f.next(), f.next(), f.next(), f.next())
		if f.next()>>9%16 == 0 {
			words[cell] = f.next()
		}
		return words[cell]
	case cell < 7:
		return f.next() >> 9 % uint64(3*n)
	case cell < 7+n:
		return scatteredControl(f.next, f.job.claim())
	}
	return scatteredWord(f.next, 5)
}

// do: what is answered to an act.
func (f *fake) do(x api.Act) uint64 {
	if f.left == 0 {
		return 0
	}
	f.left--
	at := api.Act{Block: x.Block, Cell: x.Cell}
	if x.Kind == api.Store {
		f.cells[at] = x.New
		return f.next() >> (f.next() >> 9 % 64)
	}
	was, told := f.cells[at]
	if !told || f.next()>>9%f.quiet == 0 {
		was = f.scattered(x.Block, x.Cell)
	}
	f.cells[at] = was
	switch {
	case x.Kind == api.Add:
		f.cells[at] += x.New
	case x.Kind == api.Cas && was == x.Old:
		f.cells[at] = x.New
	}
	return was
}

// P22.1, P22.2: scattered jobs on memories that change by themselves, held against the chapter's words answer by answer.
func TestScattered(t *testing.T) {
	next := row(221)
	kinds := map[Found]int{}
	for i := range 60000 {
		most := uint64(2)
		if i%64 == 0 {
			most = 9
		}
		j := scatteredJob(next, most)
		f, _ := j.hold(t, (&fake{j, next, map[api.Act]uint64{}, 2 + next()>>9%30, 400}).do)
		kinds[Found{Kind: f.Kind}]++
	}
	for kind := Absent; kind <= Crowded; kind++ {
		if kinds[Found{Kind: kind}] < 500 {
			t.Fatalf("kind %d: %d", kind, kinds[Found{Kind: kind}])
		}
	}
}

// P22.1, P22.2: whatever is answered, even if no arena would answer so: words without an order that matters, at last 0.
func TestAnyAnswers(t *testing.T) {
	next := row(222)
	for range 30000 {
		j := scatteredJob(next, 3)
		left := next() >> 9 % 60
		j.hold(t, func(x api.Act) uint64 {
			if left == 0 {
				return 0
			}
			left--
			switch next() >> 9 % 8 {
			case 0:
				return scatteredControl(next, j.claim())
			case 1:
				return scatteredWord(next, 4)
			case 2:
				return x.Old
			case 3:
				return x.New
			case 4:
				return uint64(len(j.key))
			case 5:
				return next() >> (next() >> 9 % 64)
			}
			return 0
		})
	}
}

// P22.1: scattered sites, tables and keys, of which some may not be.
func TestScatteredParts(t *testing.T) {
	next := row(223)
	for range 30000 {
		part := func(most uint64) int { return int(next()>>9%most) - 2 }
		s := api.Site{Desk: next() >> 9 % 8, Thread: part(70), Threads: part(70), Keep: part(70), Seed: next()}
		j := job{s, api.Table{Block: next() >> 9 % 8, Log: part(14)}, text(int(next()>>9%20), 3), 0, false}
		holdMay(t, j, j.may())
	}
}

// P22.1, P22.2: the model that the tests hold a seek against tells, of all answers so far, the act that comes next.
func TestBehind(t *testing.T) {
	j := jobOf(5, false)
	for i, want := range []string{fmt.Sprint(j.load(7)), fmt.Sprint(j.cas(7, 0, theClaim)), fmt.Sprint(j.note()), fmt.Sprint(j.cas(8, 0, 41))} {
		x, f, end := j.behind(make([]uint64, i))
		if fmt.Sprint(x) != want || f != (Found{}) || end {
			t.Fatalf("%+v %+v %v; wanted %s", x, f, end, want)
		}
	}
	if x, f, end := j.behind(make([]uint64, 4)); x != (api.Act{}) || f != (Found{Kind: Laid, Cell: 8, Word: 41}) || !end {
		t.Fatalf("%+v %+v %v", x, f, end)
	}
}
