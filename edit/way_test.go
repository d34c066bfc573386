package edit

import (
	"testing"

	"sprocket/api"
	"sprocket/drive"
)

// The chapter's example: of Delete on a Live word whose value is "v": Had, Did, "v", behind one act.
func TestExample(t *testing.T) {
	a := newArena(t, 3, 0)
	b := made(t, a, "k", "v")
	j := arenaJob(1, 3, 0, 8, api.Op{Kind: api.Delete, Key: "k"}, 0, b<<3|1, "v")
	put(t, a, tableBlock, 8, b<<3|1)
	x := j.edit()
	if n, end := drive.Alone(a, x, 100); n != 1 || !end {
		t.Fatalf("%d acts, %v", n, end)
	}
	holdEnd(t, x, Outcome{Reply: api.Reply{Had: true, Did: true, Value: "v"}})
	if w := cellOf(t, a, tableBlock, 8); w != b<<3|2 {
		t.Fatalf("%d", w)
	}
}

// The acts that are written out: on the slot, on the desk, and on a box.
func cas(old, next uint64) api.Act {
	return api.Act{Kind: api.Cas, Block: 6, Cell: 8, Old: old, New: next}
}
func ld() api.Act                 { return api.Act{Kind: api.Load, Block: 6, Cell: 8} }
func own(block uint64) step       { return step{api.Act{Kind: api.Store, Block: 9, Cell: 7, New: block}, 0} }
func box(b uint64, i int) api.Act { return api.Act{Kind: api.Load, Block: b, Cell: i} }

// handRow: an edit, the acts that it does, and what it comes to.
type handRow struct {
	job   job
	want  Outcome
	steps []step
}

// gotOf: what is answered to these acts.
func gotOf(l []step) []uint64 {
	var out []uint64
	for _, y := range l {
		out = append(out, y.got)
	}
	return out
}

// holdByHand: the thread 2 has the cell 7 of the desk 9 for its box, the slot is the cell 8 of the table 6, and the box that is laid the block 5.
func holdByHand(t *testing.T, rows []handRow) {
	t.Helper()
	for _, c := range rows {
		holdSteps(t, c.job, c.want, c.steps...)
		c.job.holdComes(t, c.want, gotOf(c.steps)...)
	}
}

// ever, laidNew: what comes of an edit whose slot is frozen, and of one that lays a box where the key had nothing.
var ever = Outcome{Again: true}

func laidNew(out uint64) Outcome {
	return Outcome{Reply: api.Reply{Did: true}, Out: out, Laid: true}
}

// P23.2: acts and what they come to written out: behind no act, and behind one.
func TestAtOnceByHand(t *testing.T) {
	holdByHand(t, []handRow{
		{jobOf(api.Get, "", 25, "v"), stayed("v"), nil},
		{jobOf(api.Get, "", 26, "v"), Outcome{}, nil},
		{jobOf(api.Get, "", 27, "v"), ever, nil},
		{jobOf(api.Get, "", 0, ""), ever, nil},
		{jobOf(api.PutIfAbsent, "", 25, "v"), stayed("v"), nil},
		{jobOf(api.Replace, "", 26, "v"), Outcome{}, nil},
		{jobOf(api.CompareAndSwap, "w", 25, "v"), stayed("v"), nil},
		{jobOf(api.CompareAndSwap, "v", 26, "v"), Outcome{}, nil},
		{jobOf(api.Delete, "", 26, "v"), Outcome{}, nil},
		{jobOf(api.Delete, "", 28, "v"), ever, nil},
		{jobOf(api.CompareAndDelete, "w", 25, "v"), stayed("v"), nil},
		{jobOf(api.CompareAndDelete, "", 26, ""), Outcome{}, nil},
		{jobOf(api.Put, "", 5, "v"), ever, nil},
		{jobOf(api.Put, "", 1, "v"), ever, nil},
		{jobOf(api.Put, "", 25, "v"), laidOver(3, "v"), []step{{cas(25, 41), 25}}},
		{jobOf(api.Put, "", 26, "v"), laidNew(3), []step{{cas(26, 41), 26}}},
		{jobOf(api.Put, "", 41, "v"), laidOver(5, "v"), []step{{cas(41, 41), 41}}},
		{jobOf(api.PutIfAbsent, "", 26, "v"), laidNew(3), []step{{cas(26, 41), 26}}},
		{jobOf(api.Replace, "", 25, ""), laidOver(3, ""), []step{{cas(25, 41), 25}}},
		{jobOf(api.CompareAndSwap, "v", 25, "v"), laidOver(3, "v"), []step{{cas(25, 41), 25}}},
		{jobOf(api.Delete, "", 25, "v"), deleted("v"), []step{{cas(25, 26), 25}}},
		{jobOf(api.CompareAndDelete, "v", 25, "v"), deleted("v"), []step{{cas(25, 26), 25}}},
		{jobOf(api.CompareAndDelete, "", 25, ""), deleted(""), []step{{cas(25, 26), 25}}},
		{jobOf(api.Put, "", 25, "v"), ever, []step{{cas(25, 41), 27}}},
		{jobOf(api.Delete, "", 25, "v"), ever, []step{{cas(25, 26), 28}}},
		{jobOf(api.Delete, "", 25, "v"), ever, []step{{cas(25, 26), 0}}},
		{jobOf(api.CompareAndSwap, "v", 25, "v"), ever, []step{{cas(25, 41), 5}}},
		{jobOf(api.PutIfAbsent, "", 26, "v"), ever, []step{{cas(26, 41), 2}}},
	})
}

// P23.2: acts and what they come to written out: the Cas finds another word that is Fresh.
func TestFoundOtherByHand(t *testing.T) {
	put := jobOf(api.Put, "", 25, "v")
	del, gone := jobOf(api.Delete, "", 25, "v"), jobOf(api.PutIfAbsent, "", 26, "v")
	swap, check := jobOf(api.CompareAndSwap, "v", 25, "v"), jobOf(api.CompareAndDelete, "v", 25, "v")
	holdByHand(t, []handRow{
		{put, laidOver(4, "w"), []step{{cas(25, 41), 33}, own(4), {ld(), 33}, {box(4, 0), 0x101}, {box(4, 1), 'k'}, {box(4, 2), 'w'}, {cas(33, 41), 33}}},
		{put, laidNew(3), []step{{cas(25, 41), 26}, own(3), {ld(), 26}, {box(3, 0), 0}, {cas(26, 41), 26}}},
		{put, ever, []step{{cas(25, 41), 33}, own(4), {ld(), 35}}},
		{put, ever, []step{{cas(25, 41), 33}, own(4), {ld(), 5}}},
		{put, ever, []step{{cas(25, 41), 33}, own(4), {ld(), 0}}},
		{put, ever, []step{{cas(25, 41), 33}, own(4), {ld(), 49}, own(6), {ld(), 52}}},
		{put, ever, []step{{cas(25, 41), 33}, own(4), {ld(), 33}, {box(4, 0), 0}, {cas(33, 41), 36}}},
		{put, laidOver(6, ""), []step{{cas(25, 41), 33}, own(4), {ld(), 50}, own(6), {ld(), 49}, {box(6, 0), 0}, {cas(49, 41), 49}}},
		{put, laidOver(5, ""), []step{{cas(25, 41), 41}, own(5), {ld(), 41}, {box(5, 0), 0}, {cas(41, 41), 41}}},
		{put, laidOver(3, "12345678!"), []step{{cas(25, 41), 33}, own(4), {ld(), 33}, {box(4, 0), 0}, {cas(33, 41), 25}, own(3), {ld(), 25}, {box(3, 0), 0x900}, {box(3, 1), 0x3837363534333231}, {box(3, 2), '!'}, {cas(25, 41), 25}}},
		{del, Outcome{}, []step{{cas(25, 26), 26}, own(3), {ld(), 26}, {box(3, 0), 0x100}, {box(3, 1), 'v'}}},
		{del, Outcome{}, []step{{cas(25, 26), 33}, own(4), {ld(), 34}, {box(4, 0), 0x100}, {box(4, 1), 'v'}}},
		{del, deleted("w"), []step{{cas(25, 26), 33}, own(4), {ld(), 33}, {box(4, 0), 0x100}, {box(4, 1), 'w'}, {cas(33, 34), 33}}},
		{del, deleted(""), []step{{cas(25, 26), 34}, own(4), {ld(), 33}, {box(4, 0), 0}, {cas(33, 34), 33}}},
		{gone, stayed("w"), []step{{cas(26, 41), 33}, own(4), {ld(), 33}, {box(4, 0), 0x100}, {box(4, 1), 'w'}}},
		{gone, stayed(""), []step{{cas(26, 41), 25}, own(3), {ld(), 25}, {box(3, 0), 0}}},
		{gone, laidNew(4), []step{{cas(26, 41), 34}, own(4), {ld(), 34}, {box(4, 0), 0x100}, {box(4, 1), 'w'}, {cas(34, 41), 34}}},
		{swap, stayed("w"), []step{{cas(25, 41), 33}, own(4), {ld(), 33}, {box(4, 0), 0x100}, {box(4, 1), 'w'}}},
		{swap, laidOver(4, "v"), []step{{cas(25, 41), 33}, own(4), {ld(), 33}, {box(4, 0), 0x100}, {box(4, 1), 'v'}, {cas(33, 41), 33}}},
		{swap, Outcome{}, []step{{cas(25, 41), 34}, own(4), {ld(), 34}, {box(4, 0), 0x100}, {box(4, 1), 'v'}}},
		{check, stayed("vv"), []step{{cas(25, 26), 33}, own(4), {ld(), 33}, {box(4, 0), 0x200}, {box(4, 1), 0x7676}}},
		{check, deleted("v"), []step{{cas(25, 26), 33}, own(4), {ld(), 33}, {box(4, 0), 0x100}, {box(4, 1), 'v'}, {cas(33, 34), 33}}},
		{check, Outcome{}, []step{{cas(25, 26), 26}, own(3), {ld(), 26}, {box(3, 0), 0x100}, {box(3, 1), 'v'}}},
	})
}

// P23.2: a Word of each mark, of no block, and of small and great ones, and each kind: Again at once, if it is not Fresh; an answer at once, if that is not Did; else the Cas from this word.
func TestEachWord(t *testing.T) {
	for _, block := range edgeBlocks() {
		for mark := range uint64(8) {
			for kind := 1; kind <= 7; kind++ {
				for _, old := range []string{"v", "w", ""} {
					w := block<<3 | mark
					j := jobOf(kind, old, w, "v")
					r, next := plainDecide(j.op, 5, w, "v")
					switch {
					case !fresh(w):
						holdEnd(t, j.edit(), Outcome{Again: true})
					case !r.Did:
						holdEnd(t, j.edit(), Outcome{Reply: r})
					case writes(kind):
						holdSteps(t, j, Outcome{Reply: r, Out: block, Laid: true}, step{j.cas(w, 41), w})
					default:
						holdSteps(t, j, Outcome{Reply: r}, step{j.cas(w, block<<3|2), w})
					}
					if next != w && !r.Did {
						t.Fatalf("%d", next)
					}
				}
			}
		}
	}
}

// P23.2: the block that is laid may be each one, also 0 and such as a word has no room for; Out and Laid tell of each, also where the slot has just the word that is laid.
func TestEachLay(t *testing.T) {
	for _, lay := range append(edgeWords(), edgeBlocks()...) {
		for _, block := range edgeBlocks()[1:] {
			for _, j := range changing() {
				w := block<<3 | j.at.Word&7
				j.at.Word, j.lay = w, lay
				if j.op.Kind == api.Delete || j.op.Kind == api.CompareAndDelete {
					holdSteps(t, j, deleted("v"), step{j.cas(w, block<<3|2), w})
					continue
				}
				r := api.Reply{Did: true}
				if w&7 == 1 {
					r = api.Reply{Had: true, Did: true, Value: "v"}
				}
				holdSteps(t, j, Outcome{Reply: r, Out: block, Laid: true}, step{j.cas(w, lay*8+1), w})
			}
		}
	}
}

// P23.2: the Cas finds another word, of each mark and of small and great blocks, also the same block with another mark: Again at once, if that is not Fresh; else shield's acts for it.
func TestCasFindsOther(t *testing.T) {
	for _, j := range changing() {
		for _, block := range edgeBlocks() {
			for mark := range uint64(8) {
				w := block<<3 | mark
				if w == j.at.Word {
					continue
				}
				_, next := plainDecide(j.op, 5, j.at.Word, "v")
				x := j.edit()
				holdAct(t, x, j.cas(j.at.Word, next))
				x.Take(w)
				if !fresh(w) {
					holdEnd(t, x, ever)
					continue
				}
				holdAct(t, x, j.protect(w))
				x.Take(w)
				holdAct(t, x, j.load())
				x.Take(w)
				holdAct(t, x, box(block, 0))
				j.hold(t, listed(w, 0, w, 0x103, keyWord, 'v', w))
			}
		}
	}
}

// keyWord: the word of theKey in a box.
const keyWord = 'k' | 'e'<<8 | 'y'<<16

// P23.2: shield's end with the word as it was, with another one that is Fresh, with one that is not, with 5, and with one that holds no block, behind no change, one and several.
func TestShieldEnds(t *testing.T) {
	for _, j := range changing() {
		for _, changes := range [][]uint64{{33}, {34}, {33, 49}, {33, 50}, {34, 33 + 16, 42}, {33, 49, 33}, {33, 49, 33, 49}, {9, 17, 34, 41, 49, 57}, {top - 6, 9, top - 5}} {
			// The slot has one of these after the other, each of another block, and is read twice with the last one's block.
			last := changes[len(changes)-1]
			var got []uint64
			for i, w := range changes {
				if i > 0 {
					got = append(got, 0)
				}
				got = append(got, w)
			}
			for mark := range uint64(8) {
				for _, block := range []uint64{last >> 3, 0, 1, 77, 1<<61 - 1} {
					w := block<<3 | mark
					behind := append(append([]uint64(nil), got...), 0, w)
					if fresh(w) && block != last>>3 {
						behind = append(behind, 0, w)
					}
					if !fresh(w) {
						j.holdComes(t, ever, behind...)
						continue
					}
					x := j.edit()
					for _, y := range behind {
						x.Take(y)
					}
					holdAct(t, x, box(block, 0))
					j.hold(t, listed(append(behind, 0x100, 'v', w)...))
					j.hold(t, listed(append(behind, 0x100, 'w', w)...))
					j.hold(t, listed(append(behind, 0x100, 'v', w^3)...))
				}
			}
		}
	}
}

// P23.2: the shield goes on as long as the slot tells another box that is Fresh.
func TestShieldGoesOn(t *testing.T) {
	for _, many := range []int{1, 2, 7, 64, 3000} {
		got := []uint64{9}
		for i := range many {
			got = append(got, top, uint64(2+i%5)<<3|uint64(1+i%2))
		}
		last := got[len(got)-1]
		live := last&^7 | 1
		jobOf(api.Put, "", 25, "v").holdComes(t, laidOver(live>>3, "v"), append(got, top, live, 0x100, 'v', live)...)
		jobOf(api.Delete, "", 25, "v").holdComes(t, deleted(""), append(got, top, live, 0, live)...)
		jobOf(api.Delete, "", 25, "v").holdComes(t, Outcome{}, append(got, top, live+1, 0)...)
		jobOf(api.PutIfAbsent, "", 26, "v").holdComes(t, ever, append(got, top, 5)...)
	}
}

// wordsOf: the words of a text, by the words of the chapter of packs.
func wordsOf(s string) []uint64 {
	var out []uint64
	for i := range len(s) {
		if i%8 == 0 {
			out = append(out, 0)
		}
		out[i/8] |= uint64(s[i]) << (i % 8 * 8)
	}
	return out
}

// boxOf: the words of a box, by the words of the chapter of boxes.
func boxOf(key, value string) []uint64 {
	out := []uint64{uint64(len(key) + 256*len(value))}
	return append(append(out, wordsOf(key)...), wordsOf(value)...)
}

// found: the steps of an edit that finds this word, whose box is this: the Cas from the word that was read, shield's acts and reader's.
func (j job) found(w uint64, words []uint64) []step {
	_, next := plainDecide(j.op, j.lay, j.at.Word, j.at.Value)
	out := []step{{j.cas(j.at.Word, next), w}, {j.protect(w), 77}, {j.load(), w}}
	for i, y := range words {
		out = append(out, step{box(w>>3, i), y})
	}
	return out
}

// P23.2: boxes of each length of key and value up to the longest: as many cells are loaded as the box has, and the value that was read is what the slot has now.
func TestEachBox(t *testing.T) {
	for n := range 17 {
		for m := range 25 {
			for from := range 3 {
				key, value := text(n, from*100), text(m, 255-from)
				words := boxOf(key, value)
				was := api.Reply{Had: true, Did: true, Value: value}
				for _, w := range []uint64{33, 1<<40 | 1} {
					for _, j := range []job{jobOf(api.Put, "", 25, "v"), jobOf(api.Replace, "", 25, "v"), jobOf(api.CompareAndSwap, value, 25, value)} {
						j.op.Key = key
						holdSteps(t, j, Outcome{Reply: was, Out: w >> 3, Laid: true}, append(j.found(w, words), step{j.cas(w, 41), w})...)
					}
					for _, j := range []job{jobOf(api.Delete, "", 25, "v"), jobOf(api.CompareAndDelete, value, 25, value)} {
						j.op.Key = key
						holdSteps(t, j, deleted(value), append(j.found(w, words), step{j.cas(w, w+1), w})...)
					}
					j := jobOf(api.PutIfAbsent, "", 26, value)
					holdSteps(t, j, stayed(value), j.found(w, words)...)
					for _, j := range []job{jobOf(api.CompareAndSwap, value+"x", 25, value+"x"), jobOf(api.CompareAndDelete, value+"\x00", 25, value+"\x00")} {
						holdSteps(t, j, stayed(value), j.found(w, words)...)
					}
					j = jobOf(api.Delete, "", 25, "v")
					holdSteps(t, j, Outcome{}, j.found(w+1, words)...)
				}
			}
		}
	}
}

// P23.2: heads that no box has: lengths beyond the greatest ones are as the greatest, and what stands above them does not matter; neither do bytes behind the end of the key and the value, within their last words.
func TestOddHeads(t *testing.T) {
	key, value := text(16, 9), text(24, 77)
	words := append(wordsOf(key), wordsOf(value)...)
	for _, n := range []uint64{16, 17, 32, 64, 128, 255} {
		for _, m := range []uint64{24, 25, 32, 100, 255} {
			for _, above := range []uint64{0, 1 << 16, 1 << 32, 1 << 63, 0xffffffffffff0000} {
				odd := append([]uint64{n | m<<8 | above}, words...)
				j := jobOf(api.CompareAndSwap, value, 25, value)
				holdSteps(t, j, laidOver(4, value), append(j.found(33, odd), step{j.cas(33, 41), 33})...)
				j = jobOf(api.CompareAndDelete, value+"v", 25, value+"v")
				holdSteps(t, j, stayed(value), j.found(33, odd)...)
			}
		}
	}
	jobOf(api.PutIfAbsent, "", 26, "").holdComes(t, stayed("v"), 33, 0, 33, 0x103, keyWord|0xff<<24|1<<63, 'v'|0xabcdef<<40)
}

// P23.2: which key was read does not matter: the operation's, one like it, a shorter, a longer or the empty one.
func TestOtherKeys(t *testing.T) {
	for _, key := range []string{theKey, "", "k", "kez", "key\x00", "keykeykeykeykeyk", text(16, 200), text(9, 3)} {
		for _, value := range []string{"", "v", text(24, 1)} {
			for _, j := range changing() {
				words := boxOf(key, value)
				_, acts := j.hold(t, listed(append(append([]uint64{33, 0, 33}, words...), 33)...))
				stays := j.op.Kind == api.PutIfAbsent || j.op.Old == "v" && value != "v"
				if want := 4 + len(words); !stays && acts != want || stays && acts != want-1 {
					t.Fatalf("%+v, box of %q and %q: %d acts", j, key, value, acts)
				}
			}
		}
	}
}

// P23.2: it is decided again, once and several times: each time by the word and the value that were read last, and by no earlier ones; to an answer that is not Did, to a Cas that finds its word, and to one that finds a word that is not Fresh.
func TestDecidesAgain(t *testing.T) {
	for times := 1; times < 12; times++ {
		for _, j := range changing() {
			for _, ends := range []string{"found", "frozen", "sealed", "other value", "other mark"} {
				j.holdAgain(t, times, ends)
			}
		}
	}
}

// holdAgain: an edit of a job that changes its slot is told so many times that somebody else laid a box, of which it changes the slot, too, and comes to such an end.
func (j job) holdAgain(t *testing.T, times int, ends string) {
	t.Helper()
	w, value := j.at.Word, j.at.Value
	var steps []step
	for i := range times {
		r, next := plainDecide(j.op, 5, w, value)
		if !r.Did {
			t.Fatalf("%+v stays", j)
		}
		now := uint64(10+i)<<3 | j.at.Word&7
		steps = append(steps, step{j.cas(w, next), now}, step{j.protect(now), uint64(i)}, step{j.load(), now})
		if w = now; j.op.Old != "v" {
			value = text(i, i)
		}
		for k, y := range boxOf(theKey, value) {
			steps = append(steps, step{box(w>>3, k), y})
		}
	}
	r, next := plainDecide(j.op, 5, w, value)
	last := step{j.cas(w, next), w}
	want := Outcome{Reply: r}
	if writes(j.op.Kind) {
		want = Outcome{Reply: r, Out: w >> 3, Laid: true}
	}
	switch ends {
	case "frozen":
		last.got, want = w&^7|4, ever
	case "sealed":
		last.got, want = 5, ever
	case "other value", "other mark":
		// Behind one more box that somebody laid, which is of another value, or Live where it was Gone, or the other way round.
		now := 99<<3 | w&7
		if ends == "other mark" {
			now ^= 3
		}
		steps = append(steps, last)
		steps[len(steps)-1].got = now
		steps = append(steps, step{j.protect(now), 0}, step{j.load(), now}, step{box(99, 0), 0x100}, step{box(99, 1), 'z'})
		if r, next = plainDecide(j.op, 5, now, "z"); !r.Did {
			holdSteps(t, j, Outcome{Reply: r}, steps...)
			return
		}
		last, want = step{j.cas(now, next), now}, Outcome{Reply: r}
		if writes(j.op.Kind) {
			want.Out, want.Laid = 99, true
		}
	}
	holdSteps(t, j, want, append(steps, last)...)
}

// P23.2: shield's cell goes by the thread of the site, its slot by table and cell; what is answered to its Store does not matter.
func TestShieldsCells(t *testing.T) {
	for thread := range 64 {
		for log := range 10 {
			for _, cell := range []int{0, 1, 8, 7 + 1<<log, 6 + 9<<log, 1 << 40} {
				j := jobOf(api.Put, "", 25, "v")
				j.site, j.of, j.at.Cell = siteOf(top, thread, 64), api.Table{Block: 1 << 50, Log: log}, cell
				table := func(kind int, old, next uint64) api.Act {
					return api.Act{Kind: kind, Block: 1 << 50, Cell: cell, Old: old, New: next}
				}
				holdSteps(t, j, laidNew(7),
					step{table(api.Cas, 25, 41), 33}, step{api.Act{Kind: api.Store, Block: top, Cell: 3 + 2*thread, New: 4}, uint64(thread)}, step{table(api.Load, 0, 0), 57},
					step{api.Act{Kind: api.Store, Block: top, Cell: 3 + 2*thread, New: 7}, top}, step{table(api.Load, 0, 0), 58},
					step{box(7, 0), 0}, step{table(api.Cas, 58, 41), 58})
			}
		}
	}
}

// P23.2: in each answer all that is not named is zero, also where a box was read, or decided on, ahead of it.
func TestNamedAlone(t *testing.T) {
	before := []uint64{33, 0, 33, 0x100, 'v'}
	put, swap, del := jobOf(api.Put, "", 25, "v"), jobOf(api.CompareAndSwap, "v", 25, "v"), jobOf(api.Delete, "", 25, "v")
	for _, j := range []job{put, swap, del} {
		j.holdComes(t, ever, append(before, 35)...)
		j.holdComes(t, ever, append(before, 5)...)
		j.holdComes(t, ever, append(before, 49, 0, 3)...)
	}
	swap.holdComes(t, stayed("w"), append(before, 49, 0, 49, 0x100, 'w')...)
	swap.holdComes(t, Outcome{}, append(before, 34, 0, 34, 0x100, 'v')...)
	del.holdComes(t, Outcome{}, append(before, 34, 0, 34, 0x100, 'v')...)
	del.holdComes(t, deleted(""), append(before, 49, 0, 49, 0, 49)...)
	put.holdComes(t, laidNew(6), append(before, 50, 0, 50, 0x100, 'w', 50)...)
	put.holdComes(t, laidOver(6, "w"), append(before, 49, 0, 49, 0x100, 'w', 49)...)
}

// scatteredWord: a slot's word, one of few blocks, mostly one that is Fresh.
func scatteredWord(next func() uint64, few uint64) uint64 {
	switch next() >> 9 % 16 {
	case 0:
		return 0
	case 1:
		return 5
	case 2:
		return next()
	case 3:
		return (1+next()>>9%few)<<3 | next()>>9%8
	}
	return (1+next()>>9%few)<<3 | 1 + next()>>9%2
}

// scatteredJob: a job that may be, without an order that matters, of which the values are few.
func scatteredJob(next func() uint64) job {
	threads := 1 + int(next()>>9%64)
	s := api.Site{Desk: next()>>(next()>>9%63) | 1, Thread: int(next() >> 9 % uint64(threads)), Threads: threads, Keep: 1 + int(next()>>9%64), Seed: next()}
	o := api.Op{Kind: 1 + int(next()>>9%7), Key: text(int(next()>>9%20), 1), Value: text(int(next()>>9%30), 2), Old: fewText(next)}
	at := Slot{Cell: int(next() >> (1 + next()>>9%63)), Word: scatteredWord(next, 4), Value: fewText(next)}
	return job{s, api.Table{Block: next()>>(next()>>9%63) | 1, Log: int(next() >> 9 % 10)}, o, next() >> (next() >> 9 % 64), at}
}

// fewText: one of few texts, so that many are the same.
func fewText(next func() uint64) string {
	return []string{"", "v", "w", text(24, 9)}[next()>>9%4]
}

// fake: a memory that changes by itself, now and then, and at last is 0 and stays so.
type fake struct {
	job  job
	next func() uint64
	// cells has what was told or written last.
	cells map[api.Act]uint64
	// quiet: of how many acts ahead of one a cell changes; left: how many acts there are till all is 0.
	quiet, left uint64
}

// scattered: a word that may be told by the cell of a block.
func (f *fake) scattered(block uint64, cell int) uint64 {
	if block == f.job.of.Block {
		return scatteredWord(f.next, 5)
	}
	words := append(boxOf(f.job.op.Key[:min(16, len(f.job.op.Key))], fewText(f.next)), f.next(), f.next(), f.next(), f.next(), f.next(), f.next())
	if f.next()>>9%16 == 0 {
		words[cell] = f.next()
	}
	return words[cell]
}

// do: what is answered to an act.
func (f *fake) do(x api.Act) uint64 {
	if f.left == 0 {
		return 0
	}
	f.left--
	at := api.Act{Block: x.Block, Cell: x.Cell}
	if x.Kind == api.Store {
		f.cells[at] = x.New
		return f.next() >> (f.next() >> 9 % 64)
	}
	was, told := f.cells[at]
	if !told || f.next()>>9%f.quiet == 0 {
		was = f.scattered(x.Block, x.Cell)
	}
	f.cells[at] = was
	if x.Kind == api.Cas && was == x.Old {
		f.cells[at] = x.New
	}
	return was
}

// P23.2: scattered jobs on memories that change by themselves, held against the chapter's words answer by answer.
func TestScattered(t *testing.T) {
	next := row(232)
	ends := map[[3]bool]int{}
	for range 60000 {
		j := scatteredJob(next)
		f := &fake{j, next, map[api.Act]uint64{}, 2 + next()>>9%30, 200}
		if next()>>9%2 == 0 {
			f.cells[api.Act{Block: j.of.Block, Cell: j.at.Cell}] = j.at.Word
		}
		o, _ := j.hold(t, f.do)
		ends[[3]bool{o.Again, o.Reply.Did, o.Laid}]++
	}
	for _, end := range [][3]bool{{true, false, false}, {false, false, false}, {false, true, false}, {false, true, true}} {
		if ends[end] < 1000 {
			t.Fatalf("%v: %d", end, ends[end])
		}
	}
	if len(ends) != 4 {
		t.Fatalf("%v", ends)
	}
}

// P23.2: whatever is answered, even if no arena would answer so: words without an order that matters, at last 0.
func TestAnyAnswers(t *testing.T) {
	next := row(233)
	for range 60000 {
		j := scatteredJob(next)
		left := next() >> 9 % 60
		j.hold(t, func(x api.Act) uint64 {
			if left == 0 {
				return 0
			}
			left--
			switch next() >> 9 % 6 {
			case 0, 1:
				return scatteredWord(next, 4)
			case 2:
				return x.Old
			case 3:
				return x.New
			case 4:
				return 0x100
			}
			return next() >> (next() >> 9 % 64)
		})
	}
}

// P23.2: scattered sites, tables, cells and kinds, of which some may not be.
func TestScatteredParts(t *testing.T) {
	next := row(234)
	for range 8000 {
		part := func(most uint64) int { return int(next()>>9%most) - 2 }
		s := api.Site{Desk: next() >> 9 % 8, Thread: part(70), Threads: part(70), Keep: part(70), Seed: next()}
		j := jobOf(part(11), "v", 25, "v")
		j.site, j.of, j.at.Cell = s, api.Table{Block: next() >> 9 % 8, Log: part(14)}, part(20)
		holdMay(t, j, j.may())
	}
}
