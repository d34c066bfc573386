package seek

import (
	"testing"

	"sprocket/api"
	"sprocket/drive"
)

// The chapter's example: who looks is told Absent behind one act; who lays, without check, tells Laid behind four.
func TestExample(t *testing.T) {
	for log := range 10 {
		for _, key := range []string{"", "k", "0123456789abcdef"} {
			a := newArena(t, 3, log)
			s := siteOf(deskBlock, 1, 3)
			of := api.Table{Block: tableBlock, Log: log}
			x := New(s, of, key, 0, false)
			if n, end := drive.Alone(a, x, 100); n != 1 || !end {
				t.Fatalf("who looks: %d acts, %v", n, end)
			}
			holdEnd(t, x, Found{Kind: Absent})
			y := New(s, of, key, 77, false)
			if n, end := drive.Alone(a, y, 100); n != 4 || !end {
				t.Fatalf("who lays: %d acts, %v", n, end)
			}
			j := job{s, of, key, 77, false}
			holdEnd(t, y, Found{Kind: Laid, Cell: j.slotCell(j.group(0), 0), Word: 8*77 + 1})
		}
	}
}

// The acts that are written out: on the table, on the desk, and on a box.
func ld(cell int) api.Act { return api.Act{Kind: api.Load, Block: 6, Cell: cell} }
func cas(cell int, old, next uint64) api.Act {
	return api.Act{Kind: api.Cas, Block: 6, Cell: cell, Old: old, New: next}
}
func add(cell int) api.Act        { return api.Act{Kind: api.Add, Block: 6, Cell: cell, New: 1} }
func own(block uint64) api.Act    { return api.Act{Kind: api.Store, Block: 9, Cell: 7, New: block} }
func box(b uint64, i int) api.Act { return api.Act{Kind: api.Load, Block: b, Cell: i} }

// handRow: a seek, the acts that it does, and what it finds.
type handRow struct {
	log   int
	lay   uint64
	check bool
	want  Found
	steps []step
}

// holdByHand: the empty key has, by the seed 0, the hash 0, and so the start 0 and the claim 128; the thread 2 counts in the cell 5 of the table 6, and has the cell 7 of the desk 9 for its box.
func holdByHand(t *testing.T, rows []handRow) {
	t.Helper()
	for _, c := range rows {
		j := job{api.Site{Desk: 9, Thread: 2, Threads: 3, Keep: 1}, api.Table{Block: 6, Log: c.log}, "", c.lay, c.check}
		holdSteps(t, j, c.want, c.steps...)
		j.holdFinds(t, c.want, gotOf(c.steps)...)
	}
}

// gotOf: what is answered to these acts.
func gotOf(l []step) []uint64 {
	var out []uint64
	for _, y := range l {
		out = append(out, y.got)
	}
	return out
}

// P22.1: acts and what is found written out: of who looks alone.
func TestLookByHand(t *testing.T) {
	for _, check := range []bool{false, true} {
		holdByHand(t, []handRow{
			{0, 0, check, Found{Kind: Absent}, []step{{ld(7), 0}}},
			{3, 0, check, Found{Kind: Absent}, []step{{ld(7), 0}}},
			{0, 0, check, Found{Kind: Absent}, []step{{ld(7), 0x81}}},
			{0, 0, check, Found{Kind: Redirect}, []step{{ld(7), 1}}},
			{0, 0, check, Found{Kind: Redirect}, []step{{ld(7), 0x0101010101010101}}},
			{0, 0, check, Found{Kind: Redirect}, []step{{ld(7), 0x01ffff81}}},
			{0, 0, check, Found{Kind: Absent}, []step{{ld(7), 0x0100ff}}},
			{0, 0, check, Found{Kind: Absent}, []step{{ld(7), 0x8182838485868788}}},
			{0, 0, check, Found{Kind: Absent}, []step{{ld(7), 0x02037f40203f0408}}},
			{2, 0, check, Found{Kind: Absent}, []step{{ld(7), 0x8182838485868788}, {ld(8), top}, {ld(10), 0x8182838485868788}, {ld(9), top}}},
			{2, 0, check, Found{Kind: Redirect}, []step{{ld(7), top}, {ld(8), top}, {ld(10), top}, {ld(9), 0x01ffff8182838485}}},
			{0, 0, check, Found{Kind: Absent}, []step{{ld(7), 0x80}, {ld(8), 0}}},
			{0, 0, check, Found{Kind: Absent}, []step{{ld(7), 0x80<<56 | top>>8}, {ld(15), 0}}},
			{1, 0, check, Found{Kind: Absent}, []step{{ld(7), top}, {ld(8), 0x80ff}, {ld(18), 0}}},
		})
	}
}

// P22.1: acts and what is found written out: of who lays.
func TestLayByHand(t *testing.T) {
	laid := func(cell int) Found { return Found{Kind: Laid, Cell: cell, Word: 41} }
	for _, check := range []bool{false, true} {
		holdByHand(t, []handRow{
			{0, 5, check, Found{Kind: Redirect}, []step{{ld(7), 1}}},
			{0, 5, check, Found{Kind: Redirect}, []step{{ld(7), 0x018182}}},
			{0, 5, check, Found{Kind: Full}, []step{{ld(7), 0x8182838485868788}}},
			{2, 5, check, Found{Kind: Full}, []step{{ld(7), top}, {ld(8), top}, {ld(10), top}, {ld(9), top}}},
			{0, 5, check, laid(8), []step{{ld(7), 0x80}, {ld(8), 0}, {cas(8, 0, 41), 0}}},
			{1, 5, check, laid(24), []step{{ld(7), top}, {ld(8), 0x80<<56 | top>>8}, {ld(24), 0}, {cas(24, 0, 41), 0}}},
			{0, 5, check, Found{Kind: Redirect}, []step{{ld(7), 0x80}, {ld(8), 0}, {cas(8, 0, 41), 5}}},
			{0, 5, check, Found{Kind: Redirect}, []step{{ld(7), 0x018080}, {ld(8), 0}, {cas(8, 0, 41), 24}, {ld(9), 40}}},
		})
	}
	holdByHand(t, []handRow{
		{0, 5, false, laid(8), []step{{ld(7), 0}, {cas(7, 0, 0x80), 0}, {add(5), 0}, {cas(8, 0, 41), 0}}},
		{1, 5, false, laid(9), []step{{ld(7), 0x0100}, {cas(7, 0x0100, 0x0180), 0x0100}, {add(5), top}, {cas(9, 0, 41), 0}}},
		{0, 5, false, laid(10), []step{{ld(7), 0xff81}, {cas(7, 0xff81, 0x80ff81), 0xff81}, {add(5), 9}, {cas(10, 0, 41), 0}}},
		{0, 5, false, laid(15), []step{{ld(7), top >> 8}, {cas(7, top>>8, 0x80ffffffffffffff), top >> 8}, {add(5), 1}, {cas(15, 0, 41), 0}}},
		{1, 5, false, laid(17), []step{{ld(7), top}, {ld(8), 0}, {cas(8, 0, 0x80), 0}, {add(5), 0}, {cas(17, 0, 41), 0}}},
	})
}

// P22.1: acts and what is found written out: the crowd asked, and the Cas of a control word that finds another word.
func TestCrowdAndLostByHand(t *testing.T) {
	laid := func(cell int) Found { return Found{Kind: Laid, Cell: cell, Word: 41} }
	holdByHand(t, []handRow{
		{0, 5, true, laid(8), []step{{ld(7), 0}, {ld(3), 1}, {ld(4), 2}, {ld(5), 3}, {ld(6), 0}, {cas(7, 0, 0x80), 0}, {add(5), 3}, {cas(8, 0, 41), 0}}},
		{0, 5, true, Found{Kind: Crowded}, []step{{ld(7), 0}, {ld(3), 1}, {ld(4), 2}, {ld(5), 3}, {ld(6), 1}}},
		{1, 5, true, Found{Kind: Crowded}, []step{{ld(7), top}, {ld(8), 0xff}, {ld(3), 14}, {ld(4), 0}, {ld(5), 0}, {ld(6), 0}}},
		{1, 5, true, laid(18), []step{{ld(7), top}, {ld(8), 0xff}, {ld(3), 13}, {ld(4), 0}, {ld(5), 0}, {ld(6), 0}, {cas(8, 0xff, 0x80ff), 0xff}, {add(5), 0}, {cas(18, 0, 41), 0}}},
		// Lost to somebody else's claim, to the key's own one, to a seal, and to what leaves the place empty.
		{0, 5, false, laid(9), []step{{ld(7), 0}, {cas(7, 0, 0x80), 0x81}, {cas(7, 0x81, 0x8081), 0x81}, {add(5), 0}, {cas(9, 0, 41), 0}}},
		{0, 5, false, laid(8), []step{{ld(7), 0}, {cas(7, 0, 0x80), 0x80}, {ld(8), 0}, {cas(8, 0, 41), 0}}},
		{0, 5, false, Found{Kind: Redirect}, []step{{ld(7), 0}, {cas(7, 0, 0x80), 0x0101010101010101}}},
		{0, 5, false, laid(8), []step{{ld(7), 0}, {cas(7, 0, 0x80), 0x8100}, {cas(7, 0x8100, 0x8180), 0x8100}, {add(5), 0}, {cas(8, 0, 41), 0}}},
		{0, 5, false, Found{Kind: Full}, []step{{ld(7), 0xff}, {cas(7, 0xff, 0x80ff), top}}},
		{1, 5, false, laid(17), []step{{ld(7), 0xff}, {cas(7, 0xff, 0x80ff), top}, {ld(8), 0}, {cas(8, 0, 0x80), 0}, {add(5), 0}, {cas(17, 0, 41), 0}}},
		// He goes on from this place, so what changed ahead of it does not matter.
		{0, 5, false, laid(9), []step{{ld(7), 0xff}, {cas(7, 0xff, 0x80ff), 0}, {cas(7, 0, 0x8000), 0}, {add(5), 0}, {cas(9, 0, 41), 0}}},
		{0, 5, false, laid(9), []step{{ld(7), 0xff}, {cas(7, 0xff, 0x80ff), 1}, {cas(7, 1, 0x8001), 1}, {add(5), 0}, {cas(9, 0, 41), 0}}},
		// The crowd is not asked again: at the same place, at a later one, in another group.
		{0, 5, true, laid(8), []step{{ld(7), 0}, {ld(3), 0}, {ld(4), 0}, {ld(5), 0}, {ld(6), 0}, {cas(7, 0, 0x80), 0x8100}, {cas(7, 0x8100, 0x8180), 0x8100}, {add(5), 0}, {cas(8, 0, 41), 0}}},
		{0, 5, true, laid(9), []step{{ld(7), 0}, {ld(3), 0}, {ld(4), 0}, {ld(5), 0}, {ld(6), 0}, {cas(7, 0, 0x80), 0x81}, {cas(7, 0x81, 0x8081), 0x81}, {add(5), 0}, {cas(9, 0, 41), 0}}},
		{1, 5, true, laid(17), []step{{ld(7), 0}, {ld(3), 0}, {ld(4), 0}, {ld(5), 0}, {ld(6), 0}, {cas(7, 0, 0x80), top}, {ld(8), 0}, {cas(8, 0, 0x80), 0}, {add(5), 0}, {cas(17, 0, 41), 0}}},
		// The slot of the claimed place is laid into by somebody else: a later Cas begins from the word that was written.
		{0, 5, false, laid(9), []step{{ld(7), 0}, {cas(7, 0, 0x80), 0}, {add(5), 0}, {cas(8, 0, 41), 24}, {cas(7, 0x80, 0x8080), 0x80}, {add(5), 1}, {cas(9, 0, 41), 0}}},
		{0, 5, true, laid(9), []step{{ld(7), 0}, {ld(3), 0}, {ld(4), 0}, {ld(5), 0}, {ld(6), 0}, {cas(7, 0, 0x80), 0}, {add(5), 0}, {cas(8, 0, 41), 24}, {cas(7, 0x80, 0x8080), 0x80}, {add(5), 1}, {cas(9, 0, 41), 0}}},
		{0, 5, false, Found{Kind: Full}, []step{{ld(7), top >> 8}, {cas(7, top>>8, 0x80ffffffffffffff), top >> 8}, {add(5), 0}, {cas(15, 0, 41), 40}}},
	})
}

// othersBytes: bytes that are neither empty nor sealed nor this claim.
func othersBytes(claim uint64) []uint64 {
	var out []uint64
	for b := uint64(2); b < 256; b++ {
		if b != claim {
			out = append(out, b)
		}
	}
	return out
}

// others: a control word of which no byte is his, of bytes that come from the i-th on.
func others(i int) uint64 {
	w, bytes := uint64(0), othersBytes(theClaim)
	for place := range 8 {
		w |= bytes[(i+37*place)%len(bytes)] << (8 * place)
	}
	return w
}

// with: the word with this byte at that place.
func with(w uint64, place int, b uint64) uint64 {
	return w&^(255<<(8*place)) | b<<(8*place)
}

// P22.1: each byte at each place, behind bytes that are not his, ahead of bytes of each class: who comes to it first does as its class says.
func TestEachByte(t *testing.T) {
	for b := range uint64(256) {
		for place := range 8 {
			for i, behind := range []uint64{0, 1, theClaim, 2, 127, 128, 255} {
				w := others(int(b) + i)
				for p := place; p < 8; p++ {
					w = with(w, p, behind)
				}
				w = with(w, place, b)
				for _, j := range jobs(1, uint64(place)) {
					holdFirst(t, j, w, place, b)
					j.hold(t, listed(w, 25, 0, 25, 0x101, 'k', 'v'))
					j.hold(t, listed(w, w, w, w, w, w, w, w))
				}
			}
		}
	}
}

// holdFirst: behind the control word whose first byte that may be his is b, at that place, comes what b says.
func holdFirst(t *testing.T, j job, w uint64, place int, b uint64) {
	t.Helper()
	cell := j.group(0)
	slot := 9 + 8*cell + place
	x := j.seek()
	holdAct(t, x, j.load(7+cell))
	x.Take(w)
	switch {
	case b == 1:
		holdEnd(t, x, Found{Kind: Redirect})
	case b == 0 && j.lay == 0:
		holdEnd(t, x, Found{Kind: Absent})
	case b == 0 && j.check:
		holdAct(t, x, j.load(3))
	case b == 0:
		holdAct(t, x, j.cas(7+cell, w, w|theClaim<<(8*place)))
	case b == theClaim:
		holdAct(t, x, j.load(slot))
	default:
		if y, more := x.Act(); more && y == j.load(slot) || more && y.Kind == api.Cas && y.New>>(8*place)&255 == theClaim {
			t.Fatalf("byte %d at %d: %+v", b, place, y)
		}
	}
}

// P22.1: each claim that a key may have, and for it control words of its own claim and of the ones beside it.
func TestEachClaim(t *testing.T) {
	for claim := uint64(128); claim < 256; claim++ {
		j := jobOf(5, false)
		j.site.Seed = seedFor(j.key, claim*claim, claim)
		if j.claim() != claim {
			t.Fatalf("%d", j.claim())
		}
		j.holdFinds(t, Found{Kind: Laid, Cell: 8, Word: 41}, 0, 0, 0, 0)
		j.holdFinds(t, Found{Kind: Laid, Cell: 8, Word: 41}, claim, 0, 0)
		for _, b := range []uint64{claim ^ 1, claim ^ 64, claim &^ 128} {
			if b > 1 {
				j.holdFinds(t, Found{Kind: Laid, Cell: 9, Word: 41}, b, b, 0, 0)
			}
		}
		holdSteps(t, j, Found{Kind: Laid, Cell: 8, Word: 41}, step{j.load(7), 0}, step{j.cas(7, 0, claim), 0}, step{j.note(), 0}, step{j.cas(8, 0, 41), 0})
	}
}

// P22.1: his own claim at each choice of places, all others not his: each one's slot is loaded, in order, in each group, and then comes the end.
func TestOwnAtPlaces(t *testing.T) {
	for places := range 256 {
		for _, j := range jobs(1, uint64(places)) {
			var steps []step
			for i := range 2 {
				w := others(places + i)
				group := j.group(i)
				var slots []step
				for p := range 8 {
					if places>>p&1 == 1 {
						w = with(w, p, theClaim)
						slots = append(slots, step{j.load(9 + 8*group + p), uint64(8 * (places + p))})
					}
				}
				steps = append(append(steps, step{j.load(7 + group), w}), slots...)
			}
			// Of words that hold no block, but are not 0.
			for i := range steps {
				if steps[i].got == 0 {
					steps[i].got = 1
				}
			}
			want := Found{Kind: Absent}
			if j.lay != 0 {
				want = Found{Kind: Full}
			}
			holdSteps(t, j, want, steps...)
			j.holdFinds(t, want, gotOf(steps)...)
		}
	}
}

// P22.1: tables of each log: the way goes through all groups, as the key's start leads, to its end: Absent or Full.
func TestThroughAllGroups(t *testing.T) {
	for log := range 10 {
		for _, start := range []uint64{0, 1, 2, 5, 511, 512, 1<<57 - 1, 0x123456789abcd} {
			for k, j := range jobs(log, start) {
				want := Found{Kind: Absent}
				if j.lay != 0 {
					want = Found{Kind: Full}
				}
				n := uint64(1) << log
				var steps []step
				seen := map[int]bool{}
				for i := range n {
					group := int((start%n + i*(i+1)/2) % n)
					seen[group] = true
					steps = append(steps, step{j.load(7 + group), others(int(i) + k)})
				}
				if len(seen) != int(n) {
					t.Fatalf("%d groups of %d", len(seen), n)
				}
				holdSteps(t, j, want, steps...)
			}
		}
	}
}

// P22.1: in tables of each log a place of each class in each group that is come to, at each place there.
func TestInEachGroup(t *testing.T) {
	for log := range 10 {
		n := 1 << log
		for i := range n {
			place := (i + log) % 8
			if i > 20 && i < n-5 {
				continue
			}
			for _, b := range []uint64{0, 1, theClaim} {
				for _, j := range jobs(log, 77) {
					got := make([]uint64, i+1)
					for k := range got {
						got[k] = others(k)
					}
					got[i] = with(got[i], place, b)
					f, _ := j.hold(t, listed(append(got, 0, 0, 0, 0, 0, got[i], got[i], 0, 0)...))
					if f.Kind == Laid && f.Cell != 7+n+8*j.group(i)+place {
						t.Fatalf("log %d, group %d, place %d: %+v", log, i, place, f)
					}
					if (f.Kind == Redirect) != (b == 1) || (f.Kind == Absent) != (b != 1 && j.lay == 0) {
						t.Fatalf("log %d, byte %d: %+v", log, b, f)
					}
				}
			}
		}
	}
}

// P22.1: the crowd is asked just once, at the first free place, by who lays with check alone; what the stripes tell decides.
func TestCrowd(t *testing.T) {
	for log := range 10 {
		limit := uint64(7) << log
		for _, c := range []struct {
			counts [4]uint64
			want   bool
		}{
			{[4]uint64{}, false}, {[4]uint64{limit - 1}, false}, {[4]uint64{limit}, true}, {[4]uint64{1, 2, 3, limit - 7}, false}, {[4]uint64{1, 2, 3, limit - 6}, true},
			{[4]uint64{0, 0, limit, 0}, true}, {[4]uint64{0, limit + 1, 0, 0}, true}, {[4]uint64{top, 0, 0, limit}, false}, {[4]uint64{top, 0, 1, limit}, true}, {[4]uint64{0, 0, 0, top}, true},
		} {
			j := jobIn(log, 3, 5, true)
			group := j.group(0)
			steps := []step{{j.load(7 + group), 0x8100}}
			for i, w := range c.counts {
				steps = append(steps, step{j.load(3 + i), w})
			}
			if c.want {
				holdSteps(t, j, Found{Kind: Crowded}, steps...)
			} else {
				slot := j.slotCell(group, 0)
				holdSteps(t, j, Found{Kind: Laid, Cell: slot, Word: 41}, append(steps, step{j.cas(7+group, 0x8100, 0x8100|theClaim), 0x8100}, step{j.note(), limit}, step{j.cas(slot, 0, 41), 0})...)
			}
			j.check = false
			j.holdFinds(t, Found{Kind: Laid, Cell: j.slotCell(group, 0), Word: 41}, 0, 0, limit, 0)
			j.lay = 0
			j.check = true
			j.holdFinds(t, Found{Kind: Absent}, 0)
		}
	}
}

// asked: how often the first stripe is loaded by a seek of the job, to whose acts these are answered.
func (j job) asked(t *testing.T, got ...uint64) int {
	t.Helper()
	do, many := listed(got...), 0
	j.hold(t, func(x api.Act) uint64 {
		if x == j.load(3) {
			many++
		}
		return do(x)
	})
	return many
}

// P22.1: the crowd is not asked again: where the Cas is lost and the place still empty, at each later place of the group, and in later groups; where no free place comes it is not asked at all.
func TestCrowdAskedOnce(t *testing.T) {
	for _, got := range [][]uint64{
		{0, 0, 0, 0, 0, 0}, {0, 0, 0, 0, 0, 0x8100}, {0, 0, 0, 0, 0, 0x8100, 0x8200, 0x8300, 0x8400}, {0, 0, 0, 0, 0, 0x81, 0x8281, 0x838281, 0x84838281},
		{0, 0, 0, 0, 0, top, 0, 0x81, 0x8181}, {0xff, 0, 0, 0, 0, top, top, 0}, {top, top, 0, 0, 0, 0, 0, top, 0}, {0, 0, 0, 0, 0, 0, 0, 24, theClaim, 0, 24, theClaim | theClaim<<8},
		{theClaim, 24, 0, 0, 0, 0, theClaim}, {theClaim, 0, 24, 0, 0, 0, 0, 0}, {0, 7, 7, 7, 7},
	} {
		for _, log := range []int{0, 1, 3} {
			for start := range uint64(3) {
				j := jobIn(log, start, 5, true)
				want := 1
				if log == 0 && got[0] == top || log == 1 && got[0] == top && got[1] == top {
					want = 0
				}
				if many := j.asked(t, got...); many != want {
					t.Fatalf("log %d, %x: asked %d times", log, got, many)
				}
				for _, j := range jobs(log, start)[:3] {
					if many := j.asked(t, got...); many != 0 {
						t.Fatalf("%+v: asked %d times", j, many)
					}
				}
			}
		}
	}
	for _, got := range [][]uint64{{1}, {theClaim, 0, 0}, {top}, {theClaim, 5}, {0x01ff}} {
		if many := jobOf(5, true).asked(t, got...); many != 0 {
			t.Fatalf("%x: asked %d times", got, many)
		}
	}
}

// P22.1: the Cas of a control word that finds another word at each place, once and several times, with each byte there that may be, and then goes on from this place as that says.
func TestClaimLost(t *testing.T) {
	for place := range 8 {
		free := with(others(place), place, 0)
		for b := range uint64(256) {
			now := with(others(int(b)+50), place, b)
			for times := 1; times < 4; times++ {
				for _, j := range jobs(1, 0)[2:] {
					got := []uint64{free}
					if j.check {
						got = append(got, 0, 0, 0, 0)
					}
					// Lost to words in which the place is still empty, and at last to this one.
					for i := range times - 1 {
						got = append(got, with(others(i+100), place, 0))
					}
					got = append(got, now)
					f, acts := j.hold(t, listed(append(got, 0, 0, 0, 0, 0)...))
					holdLost(t, j, place, b, f, acts-len(got))
				}
			}
		}
	}
}

// holdLost: where a claim was lost to this byte at that place of the first group, and all is empty otherwise, this is found, behind so many acts more.
func holdLost(t *testing.T, j job, place int, b uint64, f Found, acts int) {
	t.Helper()
	want, more := Found{Kind: Laid, Cell: 9 + 8*j.group(1), Word: 41}, 4
	switch b {
	case 1:
		want, more = Found{Kind: Redirect}, 0
	case theClaim:
		want, more = Found{Kind: Laid, Cell: 9 + place, Word: 41}, 2
	case 0:
		// The next Cas, from this word, is lost to the word 0, in which the place is still empty, and the one from that is not.
		want, more = Found{Kind: Laid, Cell: 9 + place, Word: 41}, 4
	}
	if f != want || acts != more {
		t.Fatalf("byte %d at %d: %+v behind %d acts; wanted %+v behind %d", b, place, f, acts, want, more)
	}
}

// P22.1: the Cas of a control word is lost many times, to words of which none is the one that it wants, the place still empty.
func TestClaimLostOften(t *testing.T) {
	for _, many := range []int{1, 2, 3, 8, 100, 5000} {
		for _, check := range []bool{false, true} {
			for place := range 8 {
				j := jobOf(5, check)
				w := with(others(0), place, 0)
				steps := []step{{j.load(7), w}}
				if check {
					steps = append(steps, step{j.load(3), 0}, step{j.load(4), 0}, step{j.load(5), 0}, step{j.load(6), 0})
				}
				for i := range many {
					now := with(others(1+i%200), place, 0)
					steps = append(steps, step{j.cas(7, w, w|theClaim<<(8*place)), now})
					w = now
				}
				steps = append(steps, step{j.cas(7, w, w|theClaim<<(8*place)), w}, step{j.note(), 0}, step{j.cas(8+place, 0, 41), 0})
				holdSteps(t, j, Found{Kind: Laid, Cell: 8 + place, Word: 41}, steps...)
			}
		}
	}
}

// P22.1: what the Cas of the control word finds is the word that it wrote, or the wanted one with one bit changed: that is another word.
func TestClaimLostByOneBit(t *testing.T) {
	for place := range 8 {
		w := with(others(3), place, 0)
		for bit := range 64 {
			j := jobOf(5, false)
			now := w ^ 1<<bit
			x := j.seek()
			x.Take(w)
			holdAct(t, x, j.cas(7, w, w|theClaim<<(8*place)))
			x.Take(now)
			if y, more := x.Act(); more && y == j.note() {
				t.Fatalf("bit %d: noted", bit)
			}
			j.hold(t, listed(w, now, 0, 0))
		}
		j := jobOf(5, false)
		j.holdFinds(t, Found{Kind: Laid, Cell: 8 + place, Word: 41}, w, w|theClaim<<(8*place), 0, 0)
	}
}

// P22.1: behind places that he claimed himself, and whose slots others laid into, the Cas of each later free place begins from the word that he wrote last.
func TestLaterFreePlaces(t *testing.T) {
	for claims := 1; claims <= 8; claims++ {
		for _, first := range []uint64{0, 0xff, 0xff00, 0xff00ff00, 0x8100000000000000} {
			for _, boxless := range []uint64{24, 40, 1, 1 << 63, top} {
				j := jobOf(5, false)
				w := first
				steps := []step{{j.load(7), w}}
				left := claims
				want := Found{Kind: Full}
				for place := 0; place < 8 && left > 0; place++ {
					if w>>(8*place)&255 != 0 {
						continue
					}
					next := w | theClaim<<(8*place)
					steps = append(steps, step{j.cas(7, w, next), w}, step{j.note(), uint64(place)})
					w = next
					left--
					if left == 0 {
						steps = append(steps, step{j.cas(8+place, 0, 41), 0})
						want = Found{Kind: Laid, Cell: 8 + place, Word: 41}
						break
					}
					steps = append(steps, step{j.cas(8+place, 0, 41), boxless})
				}
				holdSteps(t, j, want, steps...)
			}
		}
	}
}

// P22.1: behind a claim of his own a later Cas may be lost too, and then begins from what was there; in the next group it begins from what was loaded there.
func TestLaterFreePlaceLost(t *testing.T) {
	j := jobIn(1, 0, 5, false)
	c := uint64(theClaim)
	holdSteps(t, j, Found{Kind: Laid, Cell: 12, Word: 41},
		step{j.load(7), 0}, step{j.cas(7, 0, c), 0}, step{j.note(), 0}, step{j.cas(9, 0, 41), 24},
		step{j.cas(7, c, c|c<<8), c | 0x81<<8}, step{j.cas(7, c|0x81<<8, c|0x81<<8|c<<16), c | 0x81<<8}, step{j.note(), 1}, step{j.cas(11, 0, 41), 24},
		step{j.cas(7, c|0x81<<8|c<<16, c|0x81<<8|c<<16|c<<24), 0}, step{j.cas(7, 0, c<<24), 0}, step{j.note(), 2}, step{j.cas(12, 0, 41), 0})
	holdSteps(t, j, Found{Kind: Laid, Cell: 17, Word: 41},
		step{j.load(7), top >> 8}, step{j.cas(7, top>>8, top>>8|c<<56), top >> 8}, step{j.note(), 0}, step{j.cas(16, 0, 41), 24},
		step{j.load(8), 0}, step{j.cas(8, 0, c), 0}, step{j.note(), 1}, step{j.cas(17, 0, 41), 0})
}

// P22.1: Note's cell goes by the thread of the site, and what is answered to it does not matter.
func TestNote(t *testing.T) {
	for thread := range 64 {
		for _, w := range append(edgeWords(), theClaim, 41) {
			j := jobOf(5, false)
			j.site.Thread, j.site.Threads = thread, 64
			holdSteps(t, j, Found{Kind: Laid, Cell: 8, Word: 41},
				step{j.load(7), 0}, step{j.cas(7, 0, theClaim), 0},
				step{api.Act{Kind: api.Add, Block: 6, Cell: []int{3, 4, 5, 6}[thread%4], New: 1}, w}, step{j.cas(8, 0, 41), 0})
		}
	}
}

// P22.1: the word that is laid is that of the box's block, marked Live, also of a block so great that it goes round.
func TestLaidWord(t *testing.T) {
	for _, c := range []struct{ lay, word uint64 }{
		{1, 9}, {2, 17}, {5, 41}, {1 << 32, 1<<35 | 1}, {1<<61 - 1, top - 6}, {1 << 61, 1}, {1<<61 + 1, 9}, {1 << 63, 1}, {top, top - 6}, {top - 1, top - 14},
	} {
		for _, check := range []bool{false, true} {
			j := jobOf(c.lay, check)
			x := j.seek()
			do := listed(theClaim, 0)
			for range 2 {
				x.Take(do(api.Act{}))
			}
			holdAct(t, x, api.Act{Kind: api.Cas, Block: 6, Cell: 8, Old: 0, New: c.word})
			x.Take(0)
			holdEnd(t, x, Found{Kind: Laid, Cell: 8, Word: c.word})
			j.check = false
			holdSteps(t, j, Found{Kind: Laid, Cell: 8, Word: c.word}, step{j.load(7), 0}, step{j.cas(7, 0, theClaim), 0}, step{j.note(), 0}, step{j.cas(8, 0, c.word), 0})
		}
	}
	for _, w := range edgeWords()[1:] {
		j := jobOf(w, true)
		j.holdFinds(t, Found{Kind: Laid, Cell: 8, Word: 8*w + 1}, theClaim, 0, 0)
	}
}

// P22.1: sites and tables of each kind: the cells of thread, desk and table, in blocks of small and of great numbers.
func TestEachSiteAndTable(t *testing.T) {
	for threads := 1; threads <= 64; threads++ {
		for thread := range threads {
			j := jobIn(thread%10, uint64(threads), 7, thread%2 == 0)
			j.site = api.Site{Desk: edgeWords()[1+threads%21], Thread: thread, Threads: threads, Keep: 1 + (threads*thread)%64, Seed: j.site.Seed}
			j.of.Block = edgeWords()[1+thread%21]
			j.hold(t, listed())
			j.hold(t, listed(theClaim, 25, 0, 25, 0x103, 'k'|'e'<<8|'y'<<16, 'v'))
			j.hold(t, listed(theClaim, 25, 0, 34, 0, 42, 0x104, 'k'|'e'<<8|'y'<<16, 'v'))
			j.hold(t, listed(0x81, 0, 0, 0, 0, 0x81, 0, 25, 0, 25))
		}
	}
}
