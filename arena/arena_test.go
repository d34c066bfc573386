package arena

import (
	"maps"
	"math"
	"slices"
	"testing"

	"sprocket/api"
)

const top = math.MaxUint64

// state: all that can be asked of an arena without changing it.
type state struct {
	used, faults int
	blocks       []uint64
	cells        map[uint64][]uint64
}

func stateOf(t *testing.T, a *Arena) state {
	t.Helper()
	s := state{used: a.Used(), faults: a.Faults(), blocks: a.Blocks(), cells: map[uint64][]uint64{}}
	for _, b := range s.blocks {
		words := make([]uint64, a.Size(b))
		for i := range words {
			w, err := a.Load(b, i)
			if err != api.OK {
				t.Fatalf("Load(%d, %d) of %d cells: %v", b, i, len(words), err)
			}
			words[i] = w
		}
		s.cells[b] = words
	}
	return s
}

func sameState(a, b state) bool {
	return a.used == b.used && a.faults == b.faults && slices.Equal(a.blocks, b.blocks) && maps.EqualFunc(a.cells, b.cells, slices.Equal)
}

// holdState: just these cells are there, by their blocks, and so many faults were counted.
func holdState(t *testing.T, a *Arena, faults int, cells map[uint64][]uint64) {
	t.Helper()
	want := state{faults: faults, blocks: slices.Sorted(maps.Keys(cells)), cells: cells}
	for _, words := range cells {
		want.used += len(words)
	}
	if got := stateOf(t, a); !sameState(got, want) {
		t.Errorf("%+v, not %+v", got, want)
	}
}

// holdLeft: just so many cells are left, and the next block's number is this one; asked of a copy.
func holdLeft(t *testing.T, a *Arena, left int, next uint64) {
	t.Helper()
	c := a.Copy()
	if b := c.Alloc(left + 1); b != 0 {
		t.Errorf("Alloc(%d), where %d are left: %d", left+1, left, b)
	}
	if left == 0 {
		return
	}
	if b := c.Alloc(left); b != next {
		t.Errorf("Alloc(%d), where as many are left: %d, not %d", left, b, next)
	}
}

func holdAlloc(t *testing.T, a *Arena, n int, want uint64) {
	t.Helper()
	if b := a.Alloc(n); b != want {
		t.Errorf("Alloc(%d): %d, not %d", n, b, want)
	}
}

func holdFree(t *testing.T, a *Arena, b uint64, want api.Errno) {
	t.Helper()
	if err := a.Free(b); err != want {
		t.Errorf("Free(%d): %v, not %v", b, err, want)
	}
}

func holdLoad(t *testing.T, a *Arena, b uint64, i int, want uint64, wantErr api.Errno) {
	t.Helper()
	if w, err := a.Load(b, i); w != want || err != wantErr {
		t.Errorf("Load(%d, %d): %d, %v, not %d, %v", b, i, w, err, want, wantErr)
	}
}

func holdStore(t *testing.T, a *Arena, b uint64, i int, v uint64, want api.Errno) {
	t.Helper()
	if err := a.Store(b, i, v); err != want {
		t.Errorf("Store(%d, %d, %d): %v, not %v", b, i, v, err, want)
	}
}

func holdCas(t *testing.T, a *Arena, b uint64, i int, old, next, want uint64, wantErr api.Errno) {
	t.Helper()
	if w, err := a.Cas(b, i, old, next); w != want || err != wantErr {
		t.Errorf("Cas(%d, %d, %d, %d): %d, %v, not %d, %v", b, i, old, next, w, err, want, wantErr)
	}
}

func holdAdd(t *testing.T, a *Arena, b uint64, i int, d, want uint64, wantErr api.Errno) {
	t.Helper()
	if w, err := a.Add(b, i, d); w != want || err != wantErr {
		t.Errorf("Add(%d, %d, %d): %d, %v, not %d, %v", b, i, d, w, err, want, wantErr)
	}
}

// filled: an arena of 12 cells with the blocks 2 (3 cells), 4 (1) and 5 (2); 1 and 3 were freed, 6 cells are left.
func filled(t *testing.T) *Arena {
	t.Helper()
	a := New(12)
	for i, n := range []int{2, 3, 4, 1, 2} {
		holdAlloc(t, a, n, uint64(i+1))
	}
	holdFree(t, a, 1, api.OK)
	holdFree(t, a, 3, api.OK)
	for i, v := range []uint64{20, 21, top} {
		holdStore(t, a, 2, i, v, api.OK)
	}
	holdStore(t, a, 4, 0, 40, api.OK)
	holdStore(t, a, 5, 1, 51, api.OK)
	return a
}

func filledCells() map[uint64][]uint64 {
	return map[uint64][]uint64{2: {20, 21, top}, 4: {40}, 5: {0, 51}}
}

// P8.1: from 1 to 65536 cells there is an arena, without blocks and with that room; of others there is none.
func TestNew(t *testing.T) {
	for _, cells := range []int{0, -1, -2, -65535, -65536, 65537, 65538, 131072, math.MaxInt32, math.MinInt32, math.MaxInt, math.MaxInt - 1, math.MinInt, math.MinInt + 1} {
		if a := New(cells); a != nil {
			t.Errorf("New(%d): an arena", cells)
		}
	}
	for _, cells := range []int{1, 2, 3, 255, 256, 65535, 65536} {
		a := New(cells)
		if a == nil {
			t.Fatalf("New(%d): none", cells)
		}
		holdState(t, a, 0, nil)
		holdLeft(t, a, cells, 1)
	}
	if New(5) == New(5) {
		t.Error("one arena twice")
	}
}

// P8.1: what is done to one arena is not done to another.
func TestOwn(t *testing.T) {
	a, b := New(3), New(3)
	holdAlloc(t, a, 2, 1)
	holdFree(t, a, 7, api.ErrFreed)
	holdState(t, b, 0, nil)
	holdLeft(t, b, 3, 1)
	holdAlloc(t, b, 3, 1)
	holdStore(t, b, 1, 0, 9, api.OK)
	holdState(t, a, 1, map[uint64][]uint64{1: {0, 0}})
}

// P8.1: below 1 cell, and of more than are left, there is no block, nothing is done, and it is no fault.
func TestAllocNone(t *testing.T) {
	a := filled(t)
	for _, n := range []int{0, -1, -2, -6, -12, math.MinInt, math.MinInt + 1, math.MinInt32, 7, 8, 12, 13, 65536, 65537, math.MaxInt32, math.MaxInt, math.MaxInt - 1, math.MaxInt - 5, math.MaxInt - 6} {
		holdAlloc(t, a, n, 0)
		holdState(t, a, 0, filledCells())
		holdLeft(t, a, 6, 6)
	}
	holdAlloc(t, a, 6, 6)
	for _, n := range []int{0, 1, 2, -1, math.MinInt, math.MaxInt} {
		holdAlloc(t, a, n, 0)
		holdLeft(t, a, 0, 7)
	}
	full := filledCells()
	full[6] = make([]uint64, 6)
	holdState(t, a, 0, full)
}

// P8.1: just as many cells as are left are given out, of the smallest arena and of the greatest one too.
func TestAllocAll(t *testing.T) {
	for _, cells := range []int{1, 2, 7, 65536} {
		a := New(cells)
		holdAlloc(t, a, cells+1, 0)
		holdAlloc(t, a, cells, 1)
		holdAlloc(t, a, 1, 0)
		if a.Used() != cells || a.Size(1) != cells {
			t.Errorf("%d cells: used %d, size %d", cells, a.Used(), a.Size(1))
		}
		holdStore(t, a, 1, cells-1, 9, api.OK)
		holdLoad(t, a, 1, cells-1, 9, api.OK)
		holdLoad(t, a, 1, cells, 0, api.ErrBounds)
		holdFree(t, a, 1, api.OK)
		holdAlloc(t, a, cells, 2)
	}
	a := New(api.MaxCells)
	for b := range uint64(api.MaxCells) {
		if got := a.Alloc(1); got != b+1 {
			t.Fatalf("block %d of one cell: %d", b+1, got)
		}
	}
	holdAlloc(t, a, 1, 0)
	holdFree(t, a, 40000, api.OK)
	holdAlloc(t, a, 2, 0)
	holdAlloc(t, a, 1, api.MaxCells+1)
}

// P8.1: the room of blocks that were freed here and there is room for one greater block, ahead of others or not.
func TestAllocFreedRoom(t *testing.T) {
	a := New(10)
	for i, n := range []int{3, 4, 3} {
		holdAlloc(t, a, n, uint64(i+1))
	}
	holdAlloc(t, a, 1, 0)
	holdFree(t, a, 1, api.OK)
	holdLeft(t, a, 3, 4)
	holdFree(t, a, 3, api.OK)
	holdLeft(t, a, 6, 4)
	holdAlloc(t, a, 7, 0)
	holdAlloc(t, a, 6, 4)
	holdAlloc(t, a, 1, 0)
	holdState(t, a, 0, map[uint64][]uint64{2: make([]uint64, 4), 4: make([]uint64, 6)})
	holdFree(t, a, 2, api.OK)
	holdAlloc(t, a, 1, 5)
	holdAlloc(t, a, 3, 6)
	holdState(t, a, 0, map[uint64][]uint64{4: make([]uint64, 6), 5: {0}, 6: {0, 0, 0}})
}

// P8.1, P8.4: numbers go on by 1 from the block given out ahead, whatever was freed or refused between.
func TestNumbers(t *testing.T) {
	a := New(4)
	for b := uint64(1); b <= 500; b++ {
		holdAlloc(t, a, 5, 0)
		holdAlloc(t, a, 0, 0)
		holdAlloc(t, a, 4, b)
		holdAlloc(t, a, 1, 0)
		holdFree(t, a, b, api.OK)
	}
	holdState(t, a, 0, nil)
	for b := range uint64(501) {
		holdFree(t, a, b, api.ErrFreed)
		holdLoad(t, a, b, 0, 0, api.ErrFreed)
	}
	holdAlloc(t, a, 1, 501)
}

// P8.1: a new block's cells are all 0, where all cells were written to and freed.
func TestAllocZero(t *testing.T) {
	a := New(9)
	for round := range 50 {
		n := 1 + round%9
		b := a.Alloc(n)
		if b != uint64(round+1) || a.Size(b) != n {
			t.Fatalf("round %d: block %d of %d cells", round, b, a.Size(b))
		}
		for i := range n {
			holdLoad(t, a, b, i, 0, api.OK)
			holdStore(t, a, b, i, top-uint64(i), api.OK)
		}
		holdFree(t, a, b, api.OK)
	}
}

// P8.1: a block that is there is freed once; others are no blocks, and nothing but the fault is to be told of it.
func TestFree(t *testing.T) {
	a := filled(t)
	none := []uint64{0, 1, 3, 6, 7, 12, 65536, 1<<32 + 2, 1<<63 + 2, 1 << 63, top, top - 1, top - 2}
	for i, b := range none {
		holdFree(t, a, b, api.ErrFreed)
		holdState(t, a, i+1, filledCells())
		holdLeft(t, a, 6, 6)
	}
	faults := len(none)
	left := filledCells()
	for i, b := range []uint64{4, 2, 5} {
		holdFree(t, a, b, api.OK)
		delete(left, b)
		holdState(t, a, faults+i, left)
		holdLeft(t, a, []int{7, 10, 12}[i], 6)
		holdFree(t, a, b, api.ErrFreed)
		holdState(t, a, faults+i+1, left)
		holdLeft(t, a, []int{7, 10, 12}[i], 6)
	}
}

// holdFault: each of the four calls answers err and 0, counts one fault, and does nothing else.
func holdFault(t *testing.T, a *Arena, b uint64, i int, err api.Errno) {
	t.Helper()
	want := stateOf(t, a)
	for n, call := range []func(){
		func() { holdLoad(t, a, b, i, 0, err) },
		func() { holdStore(t, a, b, i, 7, err) },
		func() { holdCas(t, a, b, i, 0, 7, 0, err) },
		func() { holdCas(t, a, b, i, 20, 7, 0, err) },
		func() { holdAdd(t, a, b, i, 7, 0, err) },
	} {
		call()
		want.faults++
		if got := stateOf(t, a); !sameState(got, want) {
			t.Errorf("block %d, cell %d, call %d: %+v, not %+v", b, i, n, got, want)
		}
	}
	holdLeft(t, a, 6, 6)
}

// noCells: places that no block of filled has.
func noCells() []int {
	return []int{-1, -2, -3, math.MinInt, math.MinInt + 1, math.MinInt32, 3, 4, 6, 12, 65535, 65536, math.MaxInt32, math.MaxInt, math.MaxInt - 1}
}

// P8.2: one behind the last cell, beyond, and ahead of the first one there is no cell.
func TestBounds(t *testing.T) {
	a := filled(t)
	for _, b := range []uint64{2, 4, 5} {
		holdFault(t, a, b, a.Size(b), api.ErrBounds)
		for _, i := range noCells() {
			holdFault(t, a, b, i, api.ErrBounds)
		}
	}
}

// P8.2: a block that is not there is told ahead of a cell that is none.
func TestFreedFirst(t *testing.T) {
	a := filled(t)
	for _, b := range []uint64{0, 1, 3, 6, 7, 1<<32 + 2, 1 << 63, top} {
		for _, i := range append([]int{0, 1, 2}, noCells()...) {
			holdFault(t, a, b, i, api.ErrFreed)
		}
	}
}

// P8.2: Load and Store at the first and the last cell, and each between; no other cell changes.
func TestLoadStore(t *testing.T) {
	a := filled(t)
	want := filledCells()
	for _, b := range []uint64{2, 4, 5} {
		for i := range want[b] {
			for _, v := range []uint64{1, 0, top, 1 << 63, 1<<32 + 5, 9 + uint64(i)} {
				holdStore(t, a, b, i, v, api.OK)
				want[b][i] = v
				holdLoad(t, a, b, i, v, api.OK)
				holdLoad(t, a, b, i, v, api.OK)
				holdState(t, a, 0, want)
			}
		}
	}
	holdLeft(t, a, 6, 6)
}

// P8.2: Cas with the word that is there, with others, and where old and next are one.
func TestCas(t *testing.T) {
	a := filled(t)
	want := filledCells()
	for _, b := range []uint64{2, 4, 5} {
		for i := range want[b] {
			for _, v := range []uint64{0, 1, top, 1 << 63, 1 << 32} {
				holdStore(t, a, b, i, v, api.OK)
				for _, old := range []uint64{v + 1, v - 1, v ^ 1<<63, v ^ 1<<32, ^v} {
					want[b][i] = v
					holdCas(t, a, b, i, old, 77, v, api.OK)
					holdCas(t, a, b, i, old, v, v, api.OK)
					holdCas(t, a, b, i, old, old, v, api.OK)
					holdState(t, a, 0, want)
				}
				holdCas(t, a, b, i, v, v, v, api.OK)
				holdState(t, a, 0, want)
				for _, next := range []uint64{78, 0, top} {
					was := want[b][i]
					holdCas(t, a, b, i, was, next, was, api.OK)
					want[b][i] = next
					holdState(t, a, 0, want)
				}
			}
		}
	}
	holdLeft(t, a, 6, 6)
}

// P8.2: Add goes round at 2^64, and adds nothing where d is 0.
func TestAdd(t *testing.T) {
	a := filled(t)
	want := filledCells()
	words := []uint64{0, 1, 2, top, top - 1, 1 << 63, 1<<63 - 1, 1 << 32, 1<<32 - 1}
	for _, b := range []uint64{2, 4, 5} {
		for i := range want[b] {
			for _, v := range words {
				for _, d := range words {
					holdStore(t, a, b, i, v, api.OK)
					holdAdd(t, a, b, i, d, v, api.OK)
					want[b][i] = v + d
					holdState(t, a, 0, want)
				}
			}
		}
	}
	holdStore(t, a, 4, 0, top, api.OK)
	holdAdd(t, a, 4, 0, 1, top, api.OK)
	holdAdd(t, a, 4, 0, top, 0, api.OK)
	holdAdd(t, a, 4, 0, 0, top, api.OK)
	holdLoad(t, a, 4, 0, top, api.OK)
}

// P8.3: each call that answers ErrFreed or ErrBounds is one fault, and no other call is one.
func TestFaults(t *testing.T) {
	a := New(4)
	faults := 0
	hold := func(what string, more int) {
		t.Helper()
		faults += more
		if a.Faults() != faults {
			t.Errorf("behind %s: %d faults, not %d", what, a.Faults(), faults)
		}
	}
	hold("New", 0)
	holdFree(t, a, 1, api.ErrFreed)
	hold("Free ahead of Alloc", 1)
	holdAlloc(t, a, 5, 0)
	holdAlloc(t, a, 0, 0)
	holdAlloc(t, a, math.MinInt, 0)
	hold("Alloc without room", 0)
	holdAlloc(t, a, 2, 1)
	hold("Alloc", 0)
	holdStore(t, a, 1, 0, 5, api.OK)
	holdCas(t, a, 1, 0, 6, 7, 5, api.OK)
	holdCas(t, a, 1, 0, 5, 7, 5, api.OK)
	holdAdd(t, a, 1, 1, 1, 0, api.OK)
	holdLoad(t, a, 1, 0, 7, api.OK)
	hold("calls of cells", 0)
	holdLoad(t, a, 1, 2, 0, api.ErrBounds)
	hold("Load", 1)
	holdStore(t, a, 1, -1, 0, api.ErrBounds)
	hold("Store", 1)
	holdCas(t, a, 1, 2, 0, 1, 0, api.ErrBounds)
	hold("Cas", 1)
	holdAdd(t, a, 1, 2, 0, 0, api.ErrBounds)
	hold("Add", 1)
	holdFree(t, a, 1, api.OK)
	hold("Free", 0)
	if a.Size(1) != 0 || a.Size(0) != 0 || a.Size(9) != 0 || a.Used() != 0 || len(a.Blocks()) != 0 || a.Copy().Faults() != faults {
		t.Error("an arena without blocks")
	}
	hold("what is asked", 0)
	for range 1000 {
		holdLoad(t, a, 1, -1, 0, api.ErrFreed)
		holdStore(t, a, 1, 0, 0, api.ErrFreed)
		holdCas(t, a, 2, 0, 0, 1, 0, api.ErrFreed)
		holdAdd(t, a, 2, 9, 0, 0, api.ErrFreed)
		holdFree(t, a, 1, api.ErrFreed)
	}
	hold("many", 5000)
}

// P8.3: the size of blocks that are there, were freed, and never were; Used behind each.
func TestSizeUsed(t *testing.T) {
	a := New(100)
	sizes := []int{1, 9, 30, 2, 58}
	used := 0
	for i, n := range sizes {
		b := uint64(i + 1)
		if a.Size(b) != 0 {
			t.Errorf("size of %d ahead: %d", b, a.Size(b))
		}
		holdAlloc(t, a, n, b)
		used += n
		if a.Size(b) != n || a.Used() != used {
			t.Errorf("block %d: size %d, used %d, not %d, %d", b, a.Size(b), a.Used(), n, used)
		}
	}
	for _, b := range []uint64{0, 6, 7, 1<<32 + 1, 1 << 63, top} {
		if a.Size(b) != 0 {
			t.Errorf("size of %d: %d", b, a.Size(b))
		}
	}
	for _, b := range []uint64{3, 1, 5, 2, 4} {
		holdFree(t, a, b, api.OK)
		used -= sizes[b-1]
		if a.Size(b) != 0 || a.Used() != used {
			t.Errorf("block %d freed: size %d, used %d, not %d", b, a.Size(b), a.Used(), used)
		}
	}
}

// P8.3: numbers rise, of many blocks that were freed here and there.
func TestBlocks(t *testing.T) {
	a := New(1000)
	var want []uint64
	for b := uint64(1); b <= 1000; b++ {
		holdAlloc(t, a, 1, b)
		want = append(want, b)
	}
	next := scatter(3)
	for len(want) > 0 {
		place := next(len(want))
		holdFree(t, a, want[place], api.OK)
		want = slices.Delete(want, place, place+1)
		if got := a.Blocks(); !slices.Equal(got, want) {
			t.Fatalf("%d, not %d", got, want)
		}
	}
	holdAlloc(t, a, 1, 1001)
	if got := a.Blocks(); !slices.Equal(got, []uint64{1001}) {
		t.Error(got)
	}
}

// P8.3: what Blocks tells is new memory, its spare room too.
func TestBlocksNewMemory(t *testing.T) {
	a := filled(t)
	first, second := a.Blocks(), a.Blocks()
	for i := range first[:cap(first)] {
		first[:cap(first)][i] = 99
	}
	if !slices.Equal(second, []uint64{2, 4, 5}) {
		t.Error("the same memory twice:", second)
	}
	holdState(t, a, 0, filledCells())
	holdFree(t, a, 2, api.OK)
	holdAlloc(t, a, 1, 6)
	if !slices.Equal(second, []uint64{2, 4, 5}) {
		t.Error("changed by the arena:", second)
	}
}

// P8.3: a copy is the same in all that can be asked, its room and its next number too.
func TestCopySame(t *testing.T) {
	a := filled(t)
	holdFree(t, a, 1, api.ErrFreed)
	holdLoad(t, a, 2, 3, 0, api.ErrBounds)
	c := a.Copy()
	if c == a {
		t.Fatal("the arena itself")
	}
	for _, x := range []*Arena{c, a, c.Copy(), c.Copy().Copy()} {
		holdState(t, x, 2, filledCells())
		holdLeft(t, x, 6, 6)
	}
	empty := New(3).Copy()
	holdState(t, empty, 0, nil)
	holdLeft(t, empty, 3, 1)
	holdAlloc(t, empty, 3, 1)
	holdStore(t, empty, 1, 2, 5, api.OK)
	holdState(t, empty, 0, map[uint64][]uint64{1: {0, 0, 5}})
}

// workOn does what changes an arena as filled, each call of it.
func workOn(t *testing.T, a *Arena) {
	t.Helper()
	holdStore(t, a, 2, 0, 1, api.OK)
	holdCas(t, a, 2, 1, 21, 2, 21, api.OK)
	holdAdd(t, a, 2, 2, 4, top, api.OK)
	holdFree(t, a, 4, api.OK)
	holdAlloc(t, a, 7, 6)
	holdStore(t, a, 6, 6, 66, api.OK)
	holdFree(t, a, 4, api.ErrFreed)
	holdLoad(t, a, 5, 2, 0, api.ErrBounds)
}

// P8.3: what is done to an arena or to its copy is done to the one alone.
func TestCopyOwn(t *testing.T) {
	worked := map[uint64][]uint64{2: {1, 2, 3}, 5: {0, 51}, 6: {0, 0, 0, 0, 0, 0, 66}}
	for _, first := range []bool{true, false} {
		a := filled(t)
		c := a.Copy()
		if !first {
			a, c = c, a
		}
		workOn(t, a)
		holdState(t, a, 2, worked)
		holdLeft(t, a, 0, 7)
		holdState(t, c, 0, filledCells())
		holdLeft(t, c, 6, 6)
		workOn(t, c)
		holdState(t, c, 2, worked)
		holdState(t, a, 2, worked)
	}
}

// Ahead of P8.1: of a nil arena and of a plain one each call answers 0, nil or ErrNil, and nothing is done.
func TestNobodyMade(t *testing.T) {
	plain, made := Arena{}, new(Arena)
	for _, a := range []*Arena{nil, &plain, made, New(0), New(-1), (*Arena)(nil).Copy(), plain.Copy()} {
		for range 2 {
			for _, n := range []int{1, 0, -1, 2, 65536, math.MaxInt, math.MinInt} {
				holdAlloc(t, a, n, 0)
				for _, b := range []uint64{0, 1, 2, top} {
					holdFree(t, a, b, api.ErrNil)
					holdLoad(t, a, b, n, 0, api.ErrNil)
					holdStore(t, a, b, n, 5, api.ErrNil)
					holdCas(t, a, b, n, 0, 5, 0, api.ErrNil)
					holdAdd(t, a, b, n, 5, 0, api.ErrNil)
					if a.Size(b) != 0 {
						t.Errorf("size of %d: %d", b, a.Size(b))
					}
				}
			}
			if a.Used() != 0 || a.Faults() != 0 || len(a.Blocks()) != 0 || a.Copy() != nil {
				t.Error(a.Used(), a.Faults(), a.Blocks(), a.Copy())
			}
		}
	}
}

// The chapter's example.
func TestExample(t *testing.T) {
	a := New(5)
	holdAlloc(t, a, 3, 1)
	holdAlloc(t, a, 3, 0)
	holdFree(t, a, 1, api.OK)
	holdAlloc(t, a, 3, 2)
	holdLoad(t, a, 1, 0, 0, api.ErrFreed)
	holdLoad(t, a, 2, 3, 0, api.ErrBounds)
	holdLoad(t, a, 2, 2, 0, api.OK)
}

// P8.4: a block that was freed stays away, and others keep their words, whatever is given out and freed behind that.
func TestKeeps(t *testing.T) {
	a := New(20)
	holdAlloc(t, a, 4, 1)
	holdAlloc(t, a, 4, 2)
	for i := range 4 {
		holdStore(t, a, 1, i, 10+uint64(i), api.OK)
		holdStore(t, a, 2, i, 20+uint64(i), api.OK)
	}
	holdFree(t, a, 2, api.OK)
	for b := uint64(3); b < 300; b++ {
		n := 1 + int(b%16)
		holdAlloc(t, a, n, b)
		for i := range n {
			holdStore(t, a, b, i, top, api.OK)
		}
		for i := range 4 {
			holdLoad(t, a, 1, i, 10+uint64(i), api.OK)
			holdLoad(t, a, 2, i, 0, api.ErrFreed)
		}
		holdStore(t, a, 2, 0, 5, api.ErrFreed)
		holdFree(t, a, 2, api.ErrFreed)
		holdFree(t, a, b, api.OK)
	}
	holdAlloc(t, a, 16, 300)
	holdState(t, a, 297*6, map[uint64][]uint64{1: {10, 11, 12, 13}, 300: make([]uint64, 16)})
}

// plain is an arena as a plain list: each block that was ever given out, in order; nil where it was freed.
type plain struct {
	room, faults int
	blocks       [][]uint64
}

func (p *plain) left() int {
	left := p.room
	for _, cells := range p.blocks {
		left -= len(cells)
	}
	return left
}

func (p *plain) alloc(n int) uint64 {
	if n < 1 || n > p.left() {
		return 0
	}
	p.blocks = append(p.blocks, make([]uint64, n))
	return uint64(len(p.blocks))
}

// cell: the cell, and OK; else nil and the error, counted. Free asks for cell 0, which each block has.
func (p *plain) cell(b uint64, i int) (*uint64, api.Errno) {
	if b < 1 || b > uint64(len(p.blocks)) || p.blocks[b-1] == nil {
		p.faults++
		return nil, api.ErrFreed
	}
	if i < 0 || i >= len(p.blocks[b-1]) {
		p.faults++
		return nil, api.ErrBounds
	}
	return &p.blocks[b-1][i], api.OK
}

func (p *plain) cells() map[uint64][]uint64 {
	out := map[uint64][]uint64{}
	for i, cells := range p.blocks {
		if cells != nil {
			out[uint64(i+1)] = cells
		}
	}
	return out
}

func (p *plain) copy() *plain {
	out := &plain{room: p.room, faults: p.faults}
	for _, cells := range p.blocks {
		out.blocks = append(out.blocks, slices.Clone(cells))
	}
	return out
}

// scatter hands out numbers that look like chance, the same for the same seed.
func scatter(seed uint64) func(n int) int {
	w := seed*0x9e3779b97f4a7c15 + 1
	return func(n int) int {
		w = w*6364136223846793005 + 1442695040888963407
		return int(w >> 33 % uint64(n))
	}
}

// scatteredBlock: mostly one of those given out lately, of which some were freed; seldom one that never was.
func scatteredBlock(p *plain, next func(int) int) uint64 {
	if next(20) == 0 {
		return []uint64{0, uint64(len(p.blocks)) + 1, top, 1 << 63}[next(4)]
	}
	return uint64(max(0, len(p.blocks)-next(12)))
}

// scatteredCell: mostly one of the first ones.
func scatteredCell(next func(int) int) int {
	if next(20) == 0 {
		return []int{-1, math.MinInt, math.MaxInt, 65536}[next(4)]
	}
	return next(5)
}

// callBoth does one call of any kind to both, and holds what they answer.
func callBoth(t *testing.T, a *Arena, p *plain, next func(int) int) {
	t.Helper()
	kind := next(14)
	if kind < 3 {
		n := []int{next(9), next(9), 1, p.left(), p.left() + 1, math.MaxInt, -1}[next(7)]
		holdAlloc(t, a, n, p.alloc(n))
		return
	}
	b, i := scatteredBlock(p, next), scatteredCell(next)
	if kind < 6 {
		_, err := p.cell(b, 0)
		if err == api.OK {
			p.blocks[b-1] = nil
		}
		holdFree(t, a, b, err)
		return
	}
	cell, err := p.cell(b, i)
	if err != api.OK {
		cell = new(uint64) // beside an error each call answers 0, whatever is done to this one
	}
	was, word := *cell, uint64(next(4))-1
	switch kind {
	case 6, 7:
		holdLoad(t, a, b, i, was, err)
	case 8, 9:
		*cell = word
		holdStore(t, a, b, i, word, err)
	case 10, 11:
		old := uint64(next(4)) - 1
		if was == old {
			*cell = word
		}
		holdCas(t, a, b, i, old, word, was, err)
	default:
		*cell += word
		holdAdd(t, a, b, i, word, was, err)
	}
}

// P8.1 to P8.4: long rows of calls of all kinds, of an arena and of copies of it, held against a plain list of blocks.
func TestLongRows(t *testing.T) {
	for seed := range uint64(30) {
		next := scatter(seed)
		room := []int{1, 5, 20, 60, 65536}[seed%5]
		a, p := New(room), &plain{room: room}
		other, otherPlain := a.Copy(), p.copy()
		for step := range 1500 {
			callBoth(t, a, p, next)
			if step%50 == 0 {
				holdState(t, a, p.faults, p.cells())
				holdState(t, other, otherPlain.faults, otherPlain.cells())
				holdLeft(t, a, p.left(), uint64(len(p.blocks)+1))
			}
			switch next(100) {
			case 0:
				other, otherPlain = a.Copy(), p.copy()
			case 1:
				a, p, other, otherPlain = other, otherPlain, a, p
			}
			if t.Failed() {
				t.Fatalf("seed %d, step %d", seed, step)
			}
		}
		holdState(t, a, p.faults, p.cells())
		holdState(t, other, otherPlain.faults, otherPlain.cells())
	}
}
