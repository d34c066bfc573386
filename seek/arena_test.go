package seek

import (
	"slices"
	"testing"

	"sprocket/act"
	"sprocket/api"
	"sprocket/arena"
	"sprocket/desk"
	"sprocket/drive"
	"sprocket/maker"
	"sprocket/mix"
	"sprocket/table"
)

// The blocks of newArena: one ahead of the desk, the desk, the table; boxes come behind.
const (
	firstBlock = 1
	deskBlock  = 2
	tableBlock = 3
)

// newArena: an arena that has a desk for so many threads and a table of the log, without a claim, each cell of the block ahead of them and of the desk with a word of its own.
func newArena(t *testing.T, threads, log int) *arena.Arena {
	t.Helper()
	a := arena.New(65536)
	next := row(uint64(threads))
	for i, n := range []int{5, desk.Size(threads), table.Size(log)} {
		b := a.Alloc(n)
		if b != uint64(i+1) {
			t.Fatalf("Alloc of %d: %d", n, b)
		}
		for cell := range n {
			if b != tableBlock {
				put(t, a, b, cell, next())
			}
		}
	}
	put(t, a, tableBlock, 0, uint64(log))
	put(t, a, tableBlock, 1, next())
	put(t, a, tableBlock, 2, next())
	return a
}

// put: a cell of a block has this word now.
func put(t *testing.T, a *arena.Arena, b uint64, cell int, w uint64) {
	t.Helper()
	if err := a.Store(b, cell, w); err != api.OK {
		t.Fatalf("cell %d of block %d: %v", cell, b, err)
	}
}

// cellOf: the word of a block's cell.
func cellOf(t *testing.T, a *arena.Arena, b uint64, cell int) uint64 {
	t.Helper()
	w, err := a.Load(b, cell)
	if err != api.OK {
		t.Fatalf("cell %d of block %d: %v", cell, b, err)
	}
	return w
}

// holdSame: both arenas have the same blocks with the same words, as many cells used, and as many faults.
func holdSame(t *testing.T, got, want *arena.Arena) {
	t.Helper()
	if !slices.Equal(got.Blocks(), want.Blocks()) || got.Used() != want.Used() || got.Faults() != want.Faults() {
		t.Fatalf("blocks %d, %d cells used, %d faults; wanted %d, %d, %d", got.Blocks(), got.Used(), got.Faults(), want.Blocks(), want.Used(), want.Faults())
	}
	for _, b := range want.Blocks() {
		if got.Size(b) != want.Size(b) {
			t.Fatalf("block %d: %d cells; wanted %d", b, got.Size(b), want.Size(b))
		}
		for i := range want.Size(b) {
			if w, v := cellOf(t, got, b, i), cellOf(t, want, b, i); w != v {
				t.Fatalf("block %d, cell %d: %d; wanted %d", b, i, w, v)
			}
		}
	}
}

// made: the block of a new box on the arena.
func made(t *testing.T, a *arena.Arena, key, value string) uint64 {
	t.Helper()
	x := maker.New(key, value)
	drive.Alone(a, x, 100)
	b, done := x.Result()
	if b == 0 || !done {
		t.Fatalf("box of %q and %q: %d %v", key, value, b, done)
	}
	return b
}

// holdAlone: done alone on the arena, a seek of the job does so many acts, each as the chapter says, and finds this, behind which no act is done.
func holdAlone(t *testing.T, a *arena.Arena, j job, acts int, want Found) {
	t.Helper()
	other := a.Copy()
	if f, n := j.hold(t, func(x api.Act) uint64 { return act.Do(other, x) }); f != want || n != acts {
		t.Fatalf("%+v behind %d acts; wanted %+v behind %d", f, n, want, acts)
	}
	x := j.seek()
	if n, end := drive.Alone(a, x, 100000); n != acts || !end {
		t.Fatalf("Alone: %d %v; wanted %d acts", n, end, acts)
	}
	if n, end := drive.Alone(a, x, 100); n != 0 || !end {
		t.Fatalf("Alone behind the end: %d %v", n, end)
	}
	holdEnd(t, x, want)
	holdSame(t, a, other)
}

// arenaJob: a job in the table of newArena, for a thread of so many.
func arenaJob(thread, threads, log int, seed uint64, key string, lay uint64, check bool) job {
	s := siteOf(deskBlock, thread, threads)
	s.Seed = seed
	return job{s, api.Table{Block: tableBlock, Log: log}, key, lay, check}
}

// P22.1: who lays into a table without a claim changes its group's control word, the stripe of its thread, and the slot; who looks there changes nothing.
func TestFirstLay(t *testing.T) {
	for log := range 10 {
		for _, thread := range []int{0, 1, 2, 3, 6, 63} {
			for _, check := range []bool{false, true} {
				key := text(thread%17, log*20)
				a := newArena(t, 64, log)
				b := made(t, a, key, "v")
				j := arenaJob(thread, 64, log, uint64(log), key, b, check)
				want := a.Copy()
				look := j
				look.lay = 0
				holdAlone(t, a, look, 1, Found{Kind: Absent})
				holdSame(t, a, want)
				acts := 4
				if check {
					acts = 8
				}
				slot := table.SlotCell(log, j.group(0), 0)
				holdAlone(t, a, j, acts, Found{Kind: Laid, Cell: slot, Word: 8*b + 1})
				put(t, want, tableBlock, table.GroupCell(log, j.group(0)), uint64(mix.Claim(mix.Hash(uint64(log), key))))
				put(t, want, tableBlock, 3+thread%4, 1)
				put(t, want, tableBlock, slot, 8*b+1)
				holdSame(t, a, want)
				// Looked at by another thread: its cell for a box changes alone.
				look.site.Thread = 63 - thread
				holdAlone(t, a, look, 4+len(boxOf(key, "v")), Found{Kind: Here, Cell: slot, Word: 8*b + 1, Value: "v"})
				put(t, want, deskBlock, desk.BoxCell(63-thread), b)
				holdSame(t, a, want)
				// Laid once more: Here, and nothing else changes.
				j.lay = made(t, a, key, "other")
				if got := made(t, want, key, "other"); got != j.lay {
					t.Fatalf("%d", got)
				}
				holdAlone(t, a, j, 4+len(boxOf(key, "v")), Found{Kind: Here, Cell: slot, Word: 8*b + 1, Value: "v"})
				put(t, want, deskBlock, desk.BoxCell(thread), b)
				holdSame(t, a, want)
			}
		}
	}
}

// keysOf: so many keys, of which by the seed all have one claim, if alike, or each another one, if not.
func keysOf(seed uint64, many int, alike bool) []string {
	var out []string
	seen := map[uint64]bool{}
	for i := 0; len(out) < many; i++ {
		key := string([]byte{byte(i), byte(i >> 8)})
		claim := (job{site: api.Site{Seed: seed}, key: key}).claim()
		if alike && claim == 200 || !alike && !seen[claim] {
			out = append(out, key)
		}
		seen[claim] = true
	}
	return out
}

// P22.4: one behind the other keys are laid, up to all slots, and then one more is Full; who looks alone finds at each time just those that have a slot, with their values, and Absent else.
func TestFindsJustThose(t *testing.T) {
	for _, log := range []int{0, 1, 2, 3} {
		for seed := range uint64(4) {
			alike := seed%2 == 0
			many := 8 << log
			if !alike {
				many = min(many, 60)
			}
			keys := keysOf(seed, many+3, alike)
			a := newArena(t, 5, log)
			laid := map[string]Found{}
			for i, key := range keys {
				value := text(i%25, i)
				j := arenaJob(i%5, 5, log, seed, key, made(t, a, key, value), false)
				x := j.seek()
				if _, end := drive.Alone(a, x, 100000); !end {
					t.Fatalf("key %d goes on", i)
				}
				f, _ := x.Result()
				switch {
				case i < 8<<log:
					if f.Kind != Laid || f.Word != j.lay<<3|1 {
						t.Fatalf("key %d: %+v", i, f)
					}
					laid[key] = Found{Kind: Here, Cell: f.Cell, Word: f.Word, Value: value}
				case f != Found{Kind: Full}:
					t.Fatalf("key %d: %+v", i, f)
				}
				if i%5 == 0 || i+8 > len(keys) {
					holdLooks(t, a, arenaJob(4, 5, log, seed, "", 0, i%2 == 0), keys, laid)
				}
			}
			many = min(8<<log, len(keys))
			if len(laid) != many {
				t.Fatalf("%d keys laid; wanted %d", len(laid), many)
			}
			if n := cellOf(t, a, tableBlock, 3) + cellOf(t, a, tableBlock, 4) + cellOf(t, a, tableBlock, 5) + cellOf(t, a, tableBlock, 6); n != uint64(many) {
				t.Fatalf("%d claims", n)
			}
		}
	}
}

// holdLooks: who looks alone for each of these keys finds what it has, and Absent, if it has nothing; only the thread's cell for a box changes.
func holdLooks(t *testing.T, a *arena.Arena, j job, keys []string, have map[string]Found) {
	t.Helper()
	want := a.Copy()
	for _, key := range keys {
		j.key = key
		x := j.seek()
		if _, end := drive.Alone(a, x, 100000); !end {
			t.Fatalf("%q: goes on", key)
		}
		f, has := have[key]
		if !has {
			f = Found{Kind: Absent}
		}
		holdEnd(t, x, f)
	}
	cell := desk.BoxCell(j.site.Thread)
	put(t, want, deskBlock, cell, cellOf(t, a, deskBlock, cell))
	holdSame(t, a, want)
}

// P22.1: with check a table takes as many claims as Limit says, and then it is Crowded, with all keys but those that have a slot; without check the rest goes in.
func TestCrowdedTable(t *testing.T) {
	for log := range 4 {
		limit := 7 << log
		// Of the keys of one claim the first one may be among those of unlike claims.
		keys := append(keysOf(9, min(8<<log, 60), false), keysOf(9, 8<<log, true)[1:]...)
		a := newArena(t, 3, log)
		for i, key := range keys[:8<<log] {
			j := arenaJob(i%3, 3, log, 9, key, made(t, a, key, ""), true)
			x := j.seek()
			drive.Alone(a, x, 100000)
			f, _ := x.Result()
			if i < limit && f.Kind != Laid || i >= limit && f != (Found{Kind: Crowded}) {
				t.Fatalf("log %d, key %d: %+v", log, i, f)
			}
			if i >= limit {
				before := a.Copy()
				x := j.seek()
				drive.Alone(a, x, 100000)
				holdEnd(t, x, Found{Kind: Crowded})
				holdSameBut(t, a, before, j.site.Thread)
				j.check = false
				x = j.seek()
				drive.Alone(a, x, 100000)
				if f, _ := x.Result(); f.Kind != Laid {
					t.Fatalf("log %d, key %d without check: %+v", log, i, f)
				}
			}
			// Who is in is found with check, too, also where the table is crowded.
			j.check = true
			x = j.seek()
			drive.Alone(a, x, 100000)
			if f, _ := x.Result(); f.Kind != Here {
				t.Fatalf("log %d, key %d once more: %+v", log, i, f)
			}
		}
	}
}

// holdSameBut: both arenas are the same, but for the thread's cell for a box.
func holdSameBut(t *testing.T, got, want *arena.Arena, thread int) {
	t.Helper()
	put(t, want, deskBlock, desk.BoxCell(thread), cellOf(t, got, deskBlock, desk.BoxCell(thread)))
	holdSame(t, got, want)
}

// P22.1, P22.2: slots of each mark on an arena: looked at and laid into, with the cells that change.
func TestMarksOnArena(t *testing.T) {
	for place := range 8 {
		for _, lays := range []bool{false, true} {
			for mark := range uint64(6) {
				a := newArena(t, 2, 0)
				in := made(t, a, "k", "in")
				lay := uint64(0)
				if lays {
					lay = made(t, a, "k", "lay")
				}
				j := arenaJob(1, 2, 0, 4, "k", lay, true)
				w := with(top, place, j.claim())
				if j.claim() == 255 {
					t.Fatal("the claim of this key by this seed is that of all others")
				}
				word := in<<3 | mark
				if mark == api.Empty || mark == api.Sealed {
					word = mark
				}
				put(t, a, tableBlock, 7, w)
				put(t, a, tableBlock, 8+place, word)
				want := a.Copy()
				here := Found{Kind: Here, Cell: 8 + place, Word: word, Value: "in"}
				switch mark {
				case api.Empty:
					if lays {
						put(t, want, tableBlock, 8+place, lay<<3|1)
						holdAlone(t, a, j, 3, Found{Kind: Laid, Cell: 8 + place, Word: lay<<3 | 1})
					} else {
						holdAlone(t, a, j, 2, Found{Kind: Absent})
					}
				case api.Live, api.Gone:
					put(t, want, deskBlock, desk.BoxCell(1), in)
					holdAlone(t, a, j, 7, here)
				case api.Primed, api.Moved:
					holdAlone(t, a, j, 5, Found{Kind: Redirect})
				default:
					holdAlone(t, a, j, 2, Found{Kind: Redirect})
				}
				holdSame(t, a, want)
			}
		}
	}
}

// P22.1, P22.2: of a table that is not there 0 is answered to all: who looks is told Absent, who lays tells Laid, each act a fault; so it is on no arena.
func TestTableNotThere(t *testing.T) {
	for _, block := range []uint64{4, 5, 1 << 32, top} {
		for _, check := range []bool{false, true} {
			for _, lay := range []uint64{0, 77} {
				j := arenaJob(1, 3, 2, 5, "k", lay, check)
				j.of.Block = block
				a := newArena(t, 3, 2)
				a.Free(a.Alloc(8))
				before := a.Copy()
				acts, f := 1, Found{Kind: Absent}
				if lay != 0 {
					acts, f = 4, Found{Kind: Laid, Cell: j.slotCell(j.group(0), 0), Word: 77*8 + 1}
				}
				if lay != 0 && check {
					acts = 8
				}
				holdAlone(t, a, j, acts, f)
				if a.Faults() != acts {
					t.Fatalf("%d faults; wanted %d", a.Faults(), acts)
				}
				for range acts {
					before.Load(block, 0)
				}
				holdSame(t, a, before)
				for _, none := range []*arena.Arena{nil, {}} {
					x := j.seek()
					if n, end := drive.Alone(none, x, 100); n != acts || !end {
						t.Fatalf("on no arena: %d %v", n, end)
					}
					holdEnd(t, x, f)
				}
			}
		}
	}
}

// P22.1: of a table that has fewer cells than its log says, 0 is answered to what it has not.
func TestTableTooSmall(t *testing.T) {
	for cells := 1; cells < 16; cells++ {
		for _, lay := range []uint64{0, 77} {
			a := arena.New(100)
			a.Alloc(1)
			a.Alloc(desk.Size(3))
			a.Alloc(cells)
			j := arenaJob(1, 3, 0, 5, "k", lay, true)
			f, acts, faults := Found{Kind: Absent}, 1, 0
			if lay != 0 {
				f, acts = Found{Kind: Laid, Cell: 8, Word: 77*8 + 1}, 8
			}
			for _, cell := range []int{7, 3, 4, 5, 6, 7, 4, 8}[:acts] {
				if cell >= cells {
					faults++
				}
			}
			holdAlone(t, a, j, acts, f)
			if a.Faults() != faults {
				t.Fatalf("%d cells: %d faults; wanted %d", cells, a.Faults(), faults)
			}
		}
	}
}

// P22.2: of a desk that is not there, or has no cell for the thread, the Store is a fault, and what is found is the same; of a box that is not there the head is answered 0, so its key is the empty one.
func TestDeskOrBoxNotThere(t *testing.T) {
	for _, lay := range []uint64{0, 77} {
		for _, block := range []uint64{4711, 1 << 32, top} {
			a := newArena(t, 3, 0)
			b := made(t, a, "k", "v")
			j := arenaJob(1, 3, 0, 4, "k", lay, false)
			put(t, a, tableBlock, 7, j.claim())
			put(t, a, tableBlock, 8, b<<3|2)
			want := a.Copy()
			want.Store(block, 0, 0)
			j.site.Desk = block
			holdAlone(t, a, j, 7, Found{Kind: Here, Cell: 8, Word: b<<3 | 2, Value: "v"})
			holdSame(t, a, want)
			want.Store(deskBlock, desk.Size(3), 0)
			j.site.Desk, j.site.Thread, j.site.Threads = deskBlock, 3, 64
			holdAlone(t, a, j, 7, Found{Kind: Here, Cell: 8, Word: b<<3 | 2, Value: "v"})
			holdSame(t, a, want)
		}
		for _, key := range []string{"", "k"} {
			a := newArena(t, 3, 0)
			j := arenaJob(1, 3, 0, 4, key, lay, false)
			put(t, a, tableBlock, 7, with(top, 0, j.claim()))
			put(t, a, tableBlock, 8, 4711<<3|1)
			want := a.Copy()
			put(t, want, deskBlock, desk.BoxCell(1), 4711)
			want.Load(4711, 0)
			f := Found{Kind: Here, Cell: 8, Word: 4711<<3 | 1}
			if key != "" && lay == 0 {
				f = Found{Kind: Absent}
			} else if key != "" {
				f = Found{Kind: Full}
			}
			holdAlone(t, a, j, 5, f)
			holdSame(t, a, want)
		}
	}
}

// P22.2: a table, a desk or a box that is freed between any two acts: what is answered is 0 from there on, and all goes as the chapter says.
func TestFreedMeanwhile(t *testing.T) {
	for _, lay := range []uint64{0, 77} {
		for acts := range 12 {
			for _, freed := range []uint64{deskBlock, tableBlock, 4, 5} {
				a := newArena(t, 3, 0)
				made(t, a, "other", "w")
				b := made(t, a, "k", "v")
				j := arenaJob(1, 3, 0, 4, "k", lay, true)
				put(t, a, tableBlock, 7, j.claim()|j.claim()<<8)
				put(t, a, tableBlock, 8, 4<<3|1)
				put(t, a, tableBlock, 9, b<<3|1)
				n := 0
				f, _ := j.hold(t, func(x api.Act) uint64 {
					if n == acts {
						a.Free(freed)
					}
					n++
					return act.Do(a, x)
				})
				if freed == deskBlock && f != (Found{Kind: Here, Cell: 9, Word: b<<3 | 1, Value: "v"}) {
					t.Fatalf("%+v", f)
				}
			}
		}
	}
}

// change: what somebody else puts into a cell of the table.
type change struct {
	cell int
	w    uint64
}

// P22.1, P22.2: a slot or a control word is changed by somebody else between any two acts: all goes as the chapter says, and so is what each cell has.
func TestChangedMeanwhile(t *testing.T) {
	for _, lays := range []bool{false, true} {
		for _, check := range []bool{false, true} {
			for _, first := range []int{0, 1, 2, 3} {
				for acts := range 16 {
					for kind := range 14 {
						holdChanged(t, lays, check, first, acts, kind)
					}
				}
			}
		}
	}
}

// holdChanged: a seek of who lays or looks, in a table of which the first slots of his claim have other keys and his own one, is disturbed by one change ahead of one of its acts.
func holdChanged(t *testing.T, lays, check bool, first, acts, kind int) {
	t.Helper()
	a := newArena(t, 3, 0)
	keys := keysOf(4, 3, true)
	boxes := []uint64{made(t, a, keys[0], "a"), made(t, a, keys[1], "b"), made(t, a, keys[0], "c")}
	lay := uint64(0)
	if lays {
		lay = made(t, a, keys[0], "d")
	}
	j := arenaJob(1, 3, 0, 4, keys[0], lay, check)
	c := j.claim()
	w := []uint64{0, c, c | c<<8, 0x81 | c<<8}[first]
	put(t, a, tableBlock, 7, w)
	for p := range first {
		put(t, a, tableBlock, 8+p, []uint64{boxes[1], boxes[0], boxes[1]}[p]<<3|1)
	}
	changes := []change{
		{7, c}, {7, w | 0x81<<16}, {7, 0x0101010101010101}, {7, 0x82}, {7, 0}, {7, top},
		{8, 0}, {8, 5}, {8, boxes[0]<<3 | 1}, {8, boxes[2]<<3 | 2}, {8, boxes[1]<<3 | 3}, {8, boxes[0]<<3 | 4}, {9, boxes[2]<<3 | 1}, {9, 24},
	}
	n := 0
	want := a.Copy()
	j.hold(t, func(x api.Act) uint64 {
		if n == acts {
			put(t, a, tableBlock, changes[kind].cell, changes[kind].w)
			put(t, want, tableBlock, changes[kind].cell, changes[kind].w)
		}
		n++
		got := act.Do(a, x)
		if y := doPlain(t, want, x); y != got {
			t.Fatalf("%+v: %d; wanted %d", x, got, y)
		}
		return got
	})
	holdSame(t, a, want)
}

// doPlain: what an act comes to on the arena, told by loads and stores alone.
func doPlain(t *testing.T, a *arena.Arena, x api.Act) uint64 {
	t.Helper()
	was := cellOf(t, a, x.Block, x.Cell)
	switch {
	case x.Kind == api.Add:
		put(t, a, x.Block, x.Cell, was+x.New)
	case x.Kind == api.Cas && was == x.Old:
		put(t, a, x.Block, x.Cell, x.New)
	case x.Kind == api.Store:
		put(t, a, x.Block, x.Cell, x.New)
		return 0
	}
	return was
}
