package edit

import (
	"slices"
	"testing"

	"sprocket/act"
	"sprocket/api"
	"sprocket/arena"
	"sprocket/desk"
	"sprocket/drive"
	"sprocket/maker"
	"sprocket/spec"
	"sprocket/table"
)

// The blocks of newArena: one ahead of the desk, the desk, the table; boxes come behind.
const (
	deskBlock  = 2
	tableBlock = 3
)

// newArena: an arena that has a desk for so many threads and a table of the log, each cell with a word of its own, and one block ahead of them.
func newArena(t *testing.T, threads, log int) *arena.Arena {
	t.Helper()
	a := arena.New(65536)
	next := row(uint64(threads))
	for i, n := range []int{5, desk.Size(threads), table.Size(log)} {
		b := a.Alloc(n)
		if b != uint64(i+1) {
			t.Fatalf("Alloc of %d: %d", n, b)
		}
		for cell := range n {
			put(t, a, b, cell, next())
		}
	}
	return a
}

// put: a cell of a block has this word now.
func put(t *testing.T, a *arena.Arena, b uint64, cell int, w uint64) {
	t.Helper()
	if err := a.Store(b, cell, w); err != api.OK {
		t.Fatalf("cell %d of block %d: %v", cell, b, err)
	}
}

// cellOf: the word of a block's cell.
func cellOf(t *testing.T, a *arena.Arena, b uint64, cell int) uint64 {
	t.Helper()
	w, err := a.Load(b, cell)
	if err != api.OK {
		t.Fatalf("cell %d of block %d: %v", cell, b, err)
	}
	return w
}

// holdSame: both arenas have the same blocks with the same words, as many cells used, and as many faults.
func holdSame(t *testing.T, got, want *arena.Arena) {
	t.Helper()
	if !slices.Equal(got.Blocks(), want.Blocks()) || got.Used() != want.Used() || got.Faults() != want.Faults() {
		t.Fatalf("blocks %d, %d cells used, %d faults; wanted %d, %d, %d", got.Blocks(), got.Used(), got.Faults(), want.Blocks(), want.Used(), want.Faults())
	}
	for _, b := range want.Blocks() {
		if got.Size(b) != want.Size(b) {
			t.Fatalf("block %d: %d cells; wanted %d", b, got.Size(b), want.Size(b))
		}
		for i := range want.Size(b) {
			if w, v := cellOf(t, got, b, i), cellOf(t, want, b, i); w != v {
				t.Fatalf("block %d, cell %d: %d; wanted %d", b, i, w, v)
			}
		}
	}
}

// made: the block of a new box on the arena.
func made(t *testing.T, a *arena.Arena, key, value string) uint64 {
	t.Helper()
	x := maker.New(key, value)
	drive.Alone(a, x, 100)
	b, done := x.Result()
	if b == 0 || !done {
		t.Fatalf("box of %q and %q: %d %v", key, value, b, done)
	}
	return b
}

// arenaJob: a job on a slot of the table of newArena, for a thread of so many.
func arenaJob(thread, threads, log, cell int, o api.Op, lay, w uint64, value string) job {
	return job{siteOf(deskBlock, thread, threads), api.Table{Block: tableBlock, Log: log}, o, lay, Slot{Cell: cell, Word: w, Value: value}}
}

// holdAlone: done alone on the arena, an edit of the job does so many acts, each as the chapter says, and comes to this, behind which no act is done.
func holdAlone(t *testing.T, a *arena.Arena, j job, acts int, want Outcome) {
	t.Helper()
	other := a.Copy()
	if o, n := j.hold(t, func(x api.Act) uint64 { return act.Do(other, x) }); !same(o, want) || n != acts {
		t.Fatalf("%+v: %+v behind %d acts; wanted %+v behind %d", j, o, n, want, acts)
	}
	x := j.edit()
	if n, end := drive.Alone(a, x, 100000); n != acts || !end {
		t.Fatalf("Alone: %d %v; wanted %d acts", n, end, acts)
	}
	if n, end := drive.Alone(a, x, 100); n != 0 || !end {
		t.Fatalf("Alone behind the end: %d %v", n, end)
	}
	holdEnd(t, x, want)
	holdSame(t, a, other)
}

// slotPairs: what a slot of the arena has: its key with its value, or nothing, where it is Gone.
func slotPairs(t *testing.T, a *arena.Arena, cell int) []api.Pair {
	t.Helper()
	w := cellOf(t, a, tableBlock, cell)
	if !fresh(w) {
		t.Fatalf("the slot has %d", w)
	}
	if w&7 == 2 {
		return nil
	}
	key, value := plainRead(func(x api.Act) uint64 { return act.Do(a, x) }, w>>3)
	return []api.Pair{{Key: key, Value: value}}
}

// holdDoes: an operation is done alone to a slot of the arena, as it was read: the answer is that of a map of that key alone, what the slot has then is what the map has, and no other cell has changed. A box is made ahead of it, where it writes.
func holdDoes(t *testing.T, a *arena.Arena, s api.Site, log, cell int, o api.Op) {
	t.Helper()
	m := slotPairs(t, a, cell)
	w := cellOf(t, a, tableBlock, cell)
	_, value := plainRead(func(x api.Act) uint64 { return act.Do(a, x) }, w>>3)
	lay := uint64(0)
	if writes(o.Kind) {
		lay = made(t, a, o.Key, o.Value)
	}
	j := job{s, api.Table{Block: tableBlock, Log: log}, o, lay, Slot{Cell: cell, Word: w, Value: value}}
	behind, r := spec.Do(m, o)
	want, acts, next := Outcome{Reply: r}, 0, w
	if r.Did {
		acts, next = 1, w&^7|2
	}
	if r.Did && writes(o.Kind) {
		want.Out, want.Laid, next = w>>3, true, lay<<3|1
	}
	after := a.Copy()
	put(t, after, tableBlock, cell, next)
	holdAlone(t, a, j, acts, want)
	holdSame(t, a, after)
	if got := slotPairs(t, a, cell); !slices.Equal(got, behind) {
		t.Fatalf("%+v: the slot has %q; wanted %q", o, got, behind)
	}
}

// P23.3: each operation alone, on a slot that is Live and one that is Gone, at places of tables of each log, for several threads, with keys and values of all lengths.
func TestDoes(t *testing.T) {
	for kind := 1; kind <= 7; kind++ {
		for _, key := range []string{"", "k", text(8, 1), text(16, 2)} {
			for i, value := range []string{"", "v", text(8, 3), text(23, 4), text(24, 4)} {
				for k, old := range []string{value, "", "w", value + "\x00", text(24, 5)} {
					for mark := uint64(1); mark <= 2; mark++ {
						log := (i + k) % 4
						a := newArena(t, 7, log)
						cell := table.SlotCell(log, k%(1<<log), (kind+i)%8)
						put(t, a, tableBlock, cell, made(t, a, key, value)<<3|mark)
						holdDoes(t, a, siteOf(deskBlock, (i+k)%7, 7), log, cell, api.Op{Kind: kind, Key: key, Value: text((3*i+k)%25, kind), Old: old})
					}
				}
			}
		}
	}
}

// P23.3: in tables of each log, at the first slot and the last one, for the first thread and the last one.
func TestDoesInEachTable(t *testing.T) {
	for log := range 10 {
		for _, cell := range []int{7 + 1<<log, 6 + 9<<log} {
			for _, thread := range []int{0, 63} {
				a := newArena(t, 64, log)
				put(t, a, tableBlock, cell, made(t, a, "k", "v")<<3|1)
				for _, kind := range []int{api.Delete, api.PutIfAbsent, api.CompareAndSwap, api.Replace, api.CompareAndDelete, api.Put, api.Get} {
					holdDoes(t, a, siteOf(deskBlock, thread, 64), log, cell, api.Op{Kind: kind, Key: "k", Value: "w", Old: "w"})
				}
			}
		}
	}
}

// P23.3: operations one behind the other on one slot, of which each finds what was done ahead of it, while other slots stay as they are.
func TestDoesOneBehindAnother(t *testing.T) {
	next := row(235)
	for range 60 {
		a := newArena(t, 5, 1)
		cell := table.SlotCell(1, int(next()>>9%2), int(next()>>9%8))
		key := text(int(next()>>9%17), 7)
		put(t, a, tableBlock, cell, made(t, a, key, fewText(next))<<3|1+next()>>9%2)
		for range 40 {
			o := api.Op{Kind: 1 + int(next()>>9%7), Key: key, Value: fewText(next), Old: fewText(next)}
			holdDoes(t, a, siteOf(deskBlock, int(next()>>9%5), 5), 1, cell, o)
		}
	}
}

// stale: a job on a slot of the arena that was read when it had a box of another value, and a mark, and that has a box with the value "now" since, with another mark or the same.
func stale(t *testing.T, kind int, old string, was, now uint64) (*arena.Arena, job, uint64, uint64) {
	t.Helper()
	a := newArena(t, 3, 0)
	first, second, lay := made(t, a, "k", "was"), made(t, a, "k", "now"), made(t, a, "k", "lay")
	put(t, a, tableBlock, 9, second<<3|now)
	return a, arenaJob(1, 3, 0, 9, api.Op{Kind: kind, Key: "k", Value: "lay", Old: old}, lay, first<<3|was, "was"), second, lay
}

// P23.2, P23.3: the slot was changed behind its reading: the answer is that of a map that has what the slot has now, wherever the first Cas was to change it; the thread protects the box that it finds.
func TestStale(t *testing.T) {
	for kind := 1; kind <= 7; kind++ {
		for _, old := range []string{"was", "now", "else"} {
			for _, marks := range [][2]uint64{{1, 1}, {1, 2}, {2, 1}, {2, 2}} {
				a, j, second, lay := stale(t, kind, old, marks[0], marks[1])
				first, _ := plainDecide(j.op, lay, j.at.Word, "was")
				want := a.Copy()
				if !first.Did {
					holdAlone(t, a, j, 0, Outcome{Reply: first})
					holdSame(t, a, want)
					continue
				}
				_, r := spec.Do(slotPairs(t, a, 9), j.op)
				o, acts, next := Outcome{Reply: r}, 6, second<<3|marks[1]
				if r.Did {
					acts, next = 7, second<<3|2
				}
				if r.Did && writes(kind) {
					o.Out, o.Laid, next = second, true, lay<<3|1
				}
				put(t, want, deskBlock, desk.BoxCell(1), second)
				put(t, want, tableBlock, 9, next)
				holdAlone(t, a, j, acts, o)
				holdSame(t, a, want)
			}
		}
	}
}

// P23.2: a slot that is frozen, or sealed, or has nothing, when it is read, or behind that: Again, and no cell changes.
func TestFrozenOnArena(t *testing.T) {
	for kind := 1; kind <= 7; kind++ {
		for _, mark := range []uint64{api.Empty, api.Primed, api.Moved, api.Sealed} {
			a := newArena(t, 3, 0)
			b := made(t, a, "k", "v")
			word := b<<3 | mark
			if mark == api.Empty || mark == api.Sealed {
				word = mark
			}
			put(t, a, tableBlock, 9, word)
			want := a.Copy()
			o := api.Op{Kind: kind, Key: "k", Value: "w", Old: "v"}
			holdAlone(t, a, arenaJob(1, 3, 0, 9, o, 5, word, "v"), 0, ever)
			for was := uint64(1); was <= 2; was++ {
				j := arenaJob(1, 3, 0, 9, o, 5, b<<3|was, "v")
				if r, _ := plainDecide(o, 5, j.at.Word, "v"); r.Did {
					holdAlone(t, a, j, 1, ever)
				} else {
					holdAlone(t, a, j, 0, Outcome{Reply: r})
				}
			}
			holdSame(t, a, want)
		}
	}
}

// holdFault: an edit that is to change a slot which is not there comes to Again behind its Cas, so many of whose acts are faults, and no cell changes.
func holdFault(t *testing.T, a *arena.Arena, j job, faults int) {
	t.Helper()
	want := a.Copy()
	for range faults {
		want.Load(4711, 0)
	}
	holdAlone(t, a, j, 1, ever)
	holdSame(t, a, want)
}

// P23.2: of a table that is not there, or has no such cell, 0 is answered to the Cas, which is a fault: Again; so it is on no arena.
func TestTableNotThere(t *testing.T) {
	for _, at := range changing() {
		for _, block := range []uint64{4, 5, 1 << 32, top} {
			a := newArena(t, 3, 2)
			a.Free(a.Alloc(8))
			j := at
			j.site, j.of = siteOf(deskBlock, 1, 3), api.Table{Block: block, Log: 2}
			holdFault(t, a, j, 1)
			for _, none := range []*arena.Arena{nil, {}} {
				x := j.edit()
				if n, end := drive.Alone(none, x, 100); n != 1 || !end {
					t.Fatalf("on no arena: %d %v", n, end)
				}
				holdEnd(t, x, ever)
			}
		}
		for _, cell := range []int{table.Size(2), 1 << 20, 1<<63 - 1} {
			a := newArena(t, 3, 2)
			j := at
			j.site, j.of, j.at.Cell = siteOf(deskBlock, 1, 3), api.Table{Block: tableBlock, Log: 2}, cell
			holdFault(t, a, j, 1)
		}
	}
}

// P23.2: of a desk that is not there, or has no cell for the thread, the Store is a fault, and what it comes to is the same; of a box that is not there the head is answered 0, so its value is the empty one.
func TestDeskOrBoxNotThere(t *testing.T) {
	for _, s := range []api.Site{siteOf(4711, 1, 3), siteOf(1<<32, 1, 3), siteOf(top, 1, 3), siteOf(deskBlock, 3, 64), siteOf(deskBlock, 63, 64)} {
		a, j, second, lay := stale(t, api.Put, "", 1, 1)
		want := a.Copy()
		want.Load(4711, 0)
		put(t, want, tableBlock, 9, lay<<3|1)
		j.site = s
		holdAlone(t, a, j, 7, laidOver(second, "now"))
		holdSame(t, a, want)
	}
	a, j, _, lay := stale(t, api.Put, "", 1, 1)
	put(t, a, tableBlock, 9, 4711<<3|1)
	want := a.Copy()
	want.Load(4711, 0)
	put(t, want, deskBlock, desk.BoxCell(1), 4711)
	put(t, want, tableBlock, 9, lay<<3|1)
	holdAlone(t, a, j, 5, laidOver(4711, ""))
	holdSame(t, a, want)
}

// P23.2: a table, a desk or a box that is freed between any two acts: what is answered is 0 from there on, and all goes as the chapter says.
func TestFreedMeanwhile(t *testing.T) {
	for kind := 2; kind <= 7; kind++ {
		for acts := range 10 {
			for _, freed := range []uint64{deskBlock, tableBlock, 4, 5, 6} {
				mark := uint64(1)
				if kind == api.PutIfAbsent {
					mark = 2
				}
				a, j, _, _ := stale(t, kind, "was", mark, mark)
				n := 0
				o, _ := j.hold(t, func(x api.Act) uint64 {
					if n == acts {
						a.Free(freed)
					}
					n++
					return act.Do(a, x)
				})
				if freed == tableBlock && acts < n && !o.Again && o.Reply.Did {
					t.Fatalf("%+v", o)
				}
			}
		}
	}
}

// P23.2: the slot is changed by somebody else between any two acts, once and twice: all goes as the chapter says, and so is what each cell has.
func TestChangedMeanwhile(t *testing.T) {
	for kind := 1; kind <= 7; kind++ {
		for _, old := range []string{"was", "now", "else"} {
			for acts := range 14 {
				for first := range 10 {
					for _, second := range []int{-1, 0, 4, 5} {
						holdChanged(t, kind, old, acts, first, second)
					}
				}
			}
		}
	}
}

// holdChanged: an edit of a slot that has what was read is disturbed by one change ahead of one of its acts, and by another one three acts later.
func holdChanged(t *testing.T, kind int, old string, acts, first, second int) {
	t.Helper()
	mark := uint64(1)
	if kind == api.PutIfAbsent {
		mark = 2
	}
	a, j, b, lay := stale(t, kind, old, mark, mark)
	was, c := j.at.Word, made(t, a, "k", "else")
	changes := []uint64{was ^ 3, b<<3 | 1, b<<3 | 2, c<<3 | 1, c<<3 | 2, was, was&^7 | 3, 5, was&^7 | 4, lay<<3 | 1}
	put(t, a, tableBlock, 9, was)
	want := a.Copy()
	n := 0
	disturb := func(w uint64) {
		put(t, a, tableBlock, 9, w)
		put(t, want, tableBlock, 9, w)
	}
	j.hold(t, func(x api.Act) uint64 {
		if n == acts {
			disturb(changes[first])
		}
		if n == acts+3 && second >= 0 {
			disturb(changes[second])
		}
		n++
		got := act.Do(a, x)
		if y := doPlain(t, want, x); y != got {
			t.Fatalf("%+v: %d; wanted %d", x, got, y)
		}
		return got
	})
	holdSame(t, a, want)
}

// doPlain: what an act comes to on the arena, told by loads and stores alone.
func doPlain(t *testing.T, a *arena.Arena, x api.Act) uint64 {
	t.Helper()
	was := cellOf(t, a, x.Block, x.Cell)
	switch {
	case x.Kind == api.Cas && was == x.Old:
		put(t, a, x.Block, x.Cell, x.New)
	case x.Kind == api.Store:
		put(t, a, x.Block, x.Cell, x.New)
		return 0
	}
	return was
}
