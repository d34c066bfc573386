package tag

import (
	"math"
	"math/big"
	"testing"

	"sprocket/api"
)

const (
	top      = math.MaxUint64
	topBlock = 1<<61 - 1
)

// edgeWords: words around each power of 2, so around 8, around 2^61, and the greatest ones.
func edgeWords() []uint64 {
	var out []uint64
	for n := range uint64(25) {
		out = append(out, n, top-n)
	}
	for bit := range 64 {
		p := uint64(1) << bit
		out = append(out, p-1, p, p+1, p+5, p-8, p+8)
	}
	return out
}

// scatteredWords: long, short and middling words, without an order.
func scatteredWords() []uint64 {
	var out []uint64
	w := uint64(0x9e3779b97f4a7c15)
	for i := range 3000 {
		w = w*6364136223846793005 + 1442695040888963407
		out = append(out, w>>33^w, w>>(i%64))
	}
	return out
}

func words() []uint64 { return append(edgeWords(), scatteredWords()...) }

// someWords: few enough to be held against every mark.
func someWords() []uint64 { return append(edgeWords(), scatteredWords()[:400]...) }

// marks: those of a word, those beyond on both sides, and the least and greatest numbers.
func marks() []int {
	var out []int
	for n := -41; n <= 41; n++ {
		out = append(out, n)
	}
	for bit := 6; bit < 63; bit++ {
		p := 1 << bit
		out = append(out, p-1, p, p+1, p+5, -p-1, -p, -p+1, -p+3)
	}
	return append(out, math.MinInt, math.MinInt+1, math.MinInt+5, math.MinInt+8, math.MaxInt-8, math.MaxInt-6, math.MaxInt-1, math.MaxInt)
}

// wide: a word as a number without bound.
func wide(w uint64) *big.Int { return new(big.Int).SetUint64(w) }

// made: what Make is to answer, by numbers without bound.
func made(block uint64, mark int) uint64 {
	// big's Mod is from 0 on, whatever the sign.
	rest := new(big.Int).Mod(big.NewInt(int64(mark)), big.NewInt(8))
	n := new(big.Int).Mul(wide(block), big.NewInt(8))
	n.Add(n, rest)
	n.Mod(n, new(big.Int).Lsh(big.NewInt(1), 64))
	return n.Uint64()
}

// split: what Of is to answer, by numbers without bound.
func split(w uint64) Parts {
	block, mark := new(big.Int).DivMod(wide(w), big.NewInt(8), new(big.Int))
	return Parts{block.Uint64(), int(mark.Int64())}
}

func holdParts(t *testing.T, w uint64, want Parts) {
	t.Helper()
	if got := Of(w); got != want {
		t.Errorf("Of(%d): %+v; wanted %+v", w, got, want)
	}
	if got := Block(w); got != want.Block {
		t.Errorf("Block(%d): %d; wanted %d", w, got, want.Block)
	}
	if got := Mark(w); got != want.Mark {
		t.Errorf("Mark(%d): %d; wanted %d", w, got, want.Mark)
	}
}

func holdKinds(t *testing.T, w uint64, holds, fresh, frozen bool) {
	t.Helper()
	if got := Holds(w); got != holds {
		t.Errorf("Holds(%d): %v", w, got)
	}
	if got := Fresh(w); got != fresh {
		t.Errorf("Fresh(%d): %v", w, got)
	}
	if got := Frozen(w); got != frozen {
		t.Errorf("Frozen(%d): %v", w, got)
	}
}

// P11.1: eight times the block, and the mark; where eight times the block goes beyond a word it goes round.
func TestMake(t *testing.T) {
	for _, c := range []struct {
		block uint64
		mark  int
		want  uint64
	}{
		{0, 0, 0}, {0, 1, 1}, {0, 7, 7}, {1, 0, 8}, {1, 1, 9}, {1, 7, 15}, {2, 0, 16}, {3, 1, 25}, {3, 4, 28}, {1000, 5, 8005},
		{topBlock, 0, top - 7}, {topBlock, 1, top - 6}, {topBlock, 7, top},
		{1 << 61, 0, 0}, {1 << 61, 3, 3}, {1 << 61, 7, 7}, {1<<61 + 1, 2, 10}, {1<<62 + 3, 1, 25}, {1 << 63, 5, 5},
		{top, 0, top - 7}, {top, 5, top - 2}, {top, 7, top}, {top - 1, 7, top - 8},
	} {
		if got := Make(c.block, c.mark); got != c.want {
			t.Errorf("Make(%d, %d): %d; wanted %d", c.block, c.mark, got, c.want)
		}
	}
}

// P11.1, P11.2: a mark is taken by its rest by 8 from 0 on, by Make and by Again, whatever the block.
func TestMarkRest(t *testing.T) {
	for _, c := range []struct {
		mark int
		rest uint64
	}{
		{0, 0}, {1, 1}, {2, 2}, {3, 3}, {4, 4}, {5, 5}, {6, 6}, {7, 7}, {8, 0}, {9, 1}, {15, 7}, {16, 0}, {17, 1}, {100, 4},
		{-1, 7}, {-2, 6}, {-3, 5}, {-4, 4}, {-5, 3}, {-6, 2}, {-7, 1}, {-8, 0}, {-9, 7}, {-15, 1}, {-16, 0}, {-17, 7}, {-100, 4},
		{math.MaxInt, 7}, {math.MaxInt - 1, 6}, {math.MaxInt - 7, 0}, {math.MaxInt - 8, 7},
		{math.MinInt, 0}, {math.MinInt + 1, 1}, {math.MinInt + 7, 7}, {math.MinInt + 8, 0},
		{math.MaxInt32, 7}, {math.MinInt32, 0}, {math.MinInt32 - 1, 7},
	} {
		for _, block := range []uint64{0, 1, 3, topBlock, 1 << 61, top} {
			want := block<<3 | c.rest
			if got := Make(block, c.mark); got != want {
				t.Errorf("Make(%d, %d): %d; wanted %d", block, c.mark, got, want)
			}
			for old := range uint64(8) {
				if got := Again(block<<3|old, c.mark); got != want {
					t.Errorf("Again(%d, %d): %d; wanted %d", block<<3|old, c.mark, got, want)
				}
			}
		}
	}
}

// P11.1: Make against numbers without bound.
func TestMakeWide(t *testing.T) {
	for _, block := range someWords() {
		for _, mark := range marks() {
			if got, want := Make(block, mark), made(block, mark); got != want {
				t.Fatalf("Make(%d, %d): %d; wanted %d", block, mark, got, want)
			}
		}
	}
}

// P11.1: the word by 8, rounded down, and its rest by 8, by all three.
func TestParts(t *testing.T) {
	for w := range uint64(8) {
		holdParts(t, w, Parts{0, int(w)})
	}
	for _, c := range []struct {
		w, block uint64
		mark     int
	}{
		{8, 1, 0}, {9, 1, 1}, {15, 1, 7}, {16, 2, 0}, {25, 3, 1}, {28, 3, 4}, {8005, 1000, 5}, {1 << 63, 1 << 60, 0}, {1<<63 - 1, 1<<60 - 1, 7},
		{top - 8, topBlock - 1, 7}, {top - 7, topBlock, 0}, {top - 6, topBlock, 1}, {top - 1, topBlock, 6}, {top, topBlock, 7},
	} {
		holdParts(t, c.w, Parts{c.block, c.mark})
	}
}

// P11.1: Of, Block and Mark against numbers without bound.
func TestPartsWide(t *testing.T) {
	for _, w := range words() {
		holdParts(t, w, split(w))
	}
}

// P11.2: every mark, without a block, with the least one, and with the greatest one.
func TestKinds(t *testing.T) {
	for mark := range uint64(8) {
		holdKinds(t, mark, false, false, mark == 5)
	}
	for _, block := range []uint64{1, 2, 5, 1 << 31, 1 << 60, topBlock - 1, topBlock} {
		w := block << 3
		holdKinds(t, w, false, false, false)
		holdKinds(t, w+1, true, true, false)
		holdKinds(t, w+2, true, true, false)
		holdKinds(t, w+3, true, false, true)
		holdKinds(t, w+4, true, false, true)
		holdKinds(t, w+5, false, false, false)
		holdKinds(t, w+6, false, false, false)
		holdKinds(t, w+7, false, false, false)
	}
}

// P11.2: the marks' names have the numbers that package api gives them.
func TestMarksOfSlots(t *testing.T) {
	for _, c := range []struct {
		mark                 int
		holds, fresh, frozen bool
	}{
		{api.Empty, false, false, false}, {api.Live, true, true, false}, {api.Gone, true, true, false},
		{api.Primed, true, false, true}, {api.Moved, true, false, true}, {api.Sealed, false, false, false},
	} {
		holdKinds(t, Make(9, c.mark), c.holds, c.fresh, c.frozen)
	}
	holdKinds(t, Make(0, api.Sealed), false, false, true)
	own := [...]int{empty, live, gone, primed, moved, sealed}
	given := [...]int{api.Empty, api.Live, api.Gone, api.Primed, api.Moved, api.Sealed}
	if own != given {
		t.Errorf("marks %v; wanted %v", own, given)
	}
}

// P11.2: Holds, Fresh and Frozen against numbers without bound.
func TestKindsWide(t *testing.T) {
	for _, w := range words() {
		p := split(w)
		there := p.Block != 0
		fresh := there && (p.Mark == 1 || p.Mark == 2)
		frozen := there && (p.Mark == 3 || p.Mark == 4)
		holdKinds(t, w, there && p.Mark >= 1 && p.Mark <= 4, fresh, frozen || w == 5)
	}
}

// P11.2: no word is both fresh and frozen; one that holds is one of both; and but for the word 5 one that does not is none.
func TestKindsPart(t *testing.T) {
	for _, w := range words() {
		if Fresh(w) && Frozen(w) {
			t.Errorf("%d is fresh and frozen", w)
		}
		if either := Fresh(w) || Frozen(w); either != (Holds(w) || w == 5) {
			t.Errorf("%d: holds %v, fresh %v, frozen %v", w, Holds(w), Fresh(w), Frozen(w))
		}
	}
}

// P11.2: Again keeps the block, whatever the mark, and is Make of it.
func TestAgain(t *testing.T) {
	for _, w := range someWords() {
		block := split(w).Block
		for _, mark := range marks() {
			got := Again(w, mark)
			if got != made(block, mark) || got != Make(block, mark) {
				t.Fatalf("Again(%d, %d): %d; wanted %d", w, mark, got, made(block, mark))
			}
			if Block(got) != block {
				t.Fatalf("Again(%d, %d): block %d; wanted %d", w, mark, Block(got), block)
			}
		}
		if got := Again(w, Mark(w)); got != w {
			t.Errorf("Again(%d) with its own mark: %d", w, got)
		}
	}
}

// P11.2: what an empty slot's word, and a word without a block, become.
func TestAgainWithoutBlock(t *testing.T) {
	for w := range uint64(8) {
		for mark := range 8 {
			if got := Again(w, mark); got != uint64(mark) {
				t.Errorf("Again(%d, %d): %d", w, mark, got)
			}
		}
	}
}

// P11.3: a word is Make of its Block and its Mark.
func TestWordBack(t *testing.T) {
	for _, w := range words() {
		if got := Make(Block(w), Mark(w)); got != w {
			t.Errorf("Make of the block and the mark of %d: %d", w, got)
		}
		if p := Of(w); Make(p.Block, p.Mark) != w {
			t.Errorf("Make of the parts of %d: %d", w, Make(p.Block, p.Mark))
		}
	}
}

// P11.3: a block below 2^61 and a mark from 0 to 7 are those of Make of them.
func TestPartsBack(t *testing.T) {
	for _, w := range words() {
		for _, block := range []uint64{w >> 3, w & topBlock} {
			for mark := range 8 {
				holdParts(t, Make(block, mark), Parts{block, mark})
			}
		}
	}
}

// P11.3: a block from 2^61 on has the word of its rest by 2^61.
func TestPartsBeyond(t *testing.T) {
	for _, block := range words() {
		for mark := range 8 {
			holdParts(t, Make(block, mark), Parts{block & topBlock, mark})
		}
	}
}

// The chapter's example.
func TestExample(t *testing.T) {
	if got := Make(3, 1); got != 25 {
		t.Errorf("Make(3, 1): %d", got)
	}
	got := Again(25, 4)
	if got != 28 || Mark(got) != api.Moved || !Frozen(got) {
		t.Errorf("Again(25, 4): %d, mark %d, frozen %v", got, Mark(got), Frozen(got))
	}
}

// Links and the oldest table have words of the same form.
func TestLinks(t *testing.T) {
	for _, block := range []uint64{1, 7, topBlock} {
		for _, mark := range []int{api.Grow, api.Wipe} {
			holdParts(t, Make(block, mark), Parts{block, mark})
		}
		holdParts(t, Again(Make(block, 0), 1), Parts{block, 1})
		holdParts(t, Again(Make(block, 1), 0), Parts{block, 0})
	}
	holdParts(t, 0, Parts{})
}
