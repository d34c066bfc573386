package maker

import (
	"math"
	"slices"
	"strings"
	"testing"

	"sprocket/api"
	"sprocket/arena"
	"sprocket/box"
	"sprocket/drive"
)

const top = math.MaxUint64

// row: the next one of a row of words without an order that matters, each time.
func row(w uint64) func() uint64 {
	return func() uint64 {
		w = w*6364136223846793005 + 1442695040888963407
		return w>>33 ^ w
	}
}

// scattered: a text of n bytes without an order that matters.
func scattered(n int, seed uint64) string {
	next := row(seed)
	raw := make([]byte, n)
	for i := range raw {
		raw[i] = byte(next() >> 9)
	}
	return string(raw)
}

// texts: of n bytes: a scattered one, and ones all alike, of the bytes 0 and 255 among them.
func texts(n int) []string {
	out := []string{scattered(n, uint64(n))}
	for _, b := range []string{"\x00", "\x01", "a", "\x80", "\xff"} {
		out = append(out, strings.Repeat(b, n))
	}
	return out
}

// wordsOf: the words of a box, as layer 16 has them.
func wordsOf(key, value string) []uint64 {
	words, _ := box.Words(key, value)
	return words
}

// actsOf: the acts of a maker of a box of these words, whose Alloc is answered block.
func actsOf(words []uint64, block uint64) []api.Act {
	out := []api.Act{{Kind: api.Alloc, Cell: len(words)}}
	if block == 0 {
		return out
	}
	for i, w := range words {
		out = append(out, api.Act{Kind: api.Store, Block: block, Cell: i, New: w})
	}
	return out
}

// edgeWords: numbers that an act may be answered: small and great ones, and the greatest.
func edgeWords() []uint64 {
	return []uint64{0, 1, 2, 3, 7, 8, 255, 256, 65535, 65536, math.MaxInt32, math.MaxUint32, 1 << 32, 1<<61 - 1, 1 << 61, math.MaxInt64, 1 << 63, top - 1, top}
}

// tooLong: keys and values of which at least one is too long.
func tooLong() [][2]string {
	var out [][2]string
	for _, key := range []int{0, 1, 15, 16, 17, 18, 24, 25, 32, 255, 256, 257, 272, 512, 65536, 65537, 100000} {
		for _, value := range []int{0, 1, 16, 17, 23, 24, 25, 26, 32, 255, 256, 257, 280, 512, 65536, 65537, 100000} {
			if key > 16 || value > 24 {
				out = append(out, [2]string{scattered(key, 1), scattered(value, 2)}, [2]string{strings.Repeat("\x00", key), strings.Repeat("\x00", value)})
			}
		}
	}
	return out
}

// holdAct: the act that comes next is this one, however often it is asked, and there is no answer yet.
func holdAct(t *testing.T, x *Maker, want api.Act) {
	t.Helper()
	for range 3 {
		if got, more := x.Act(); got != want || !more {
			t.Fatalf("Act: %+v %v; wanted %+v", got, more, want)
		}
		if got, done := x.Result(); got != 0 || done {
			t.Fatalf("Result ahead of %+v: %d %v; wanted none", want, got, done)
		}
	}
}

// holdEnd: no act comes any more, and this is the answer, however often both are asked, and whatever is taken.
func holdEnd(t *testing.T, x *Maker, want uint64) {
	t.Helper()
	for _, w := range edgeWords() {
		if got, more := x.Act(); got != (api.Act{}) || more {
			t.Fatalf("Act at the end: %+v %v; wanted none", got, more)
		}
		if got, done := x.Result(); got != want || !done {
			t.Fatalf("Result at the end: %d %v; wanted %d", got, done, want)
		}
		x.Take(w)
	}
}

// holdNothing: there is neither an act nor an answer, whatever is taken.
func holdNothing(t *testing.T, x *Maker) {
	t.Helper()
	for _, w := range append(edgeWords(), 0) {
		if got, more := x.Act(); got != (api.Act{}) || more {
			t.Fatalf("Act: %+v %v; wanted none", got, more)
		}
		if got, done := x.Result(); got != 0 || done {
			t.Fatalf("Result: %d %v; wanted none", got, done)
		}
		x.Take(w)
	}
}

// holdMaker: the acts of a maker of a box of these words, whose Alloc is answered block and each Store another word.
func holdMaker(t *testing.T, key, value string, words []uint64, block, seed uint64) {
	t.Helper()
	x, next := New(key, value), row(seed)
	for i, a := range actsOf(words, block) {
		holdAct(t, x, a)
		if i == 0 {
			x.Take(block)
		} else {
			x.Take(next())
		}
	}
	holdEnd(t, x, block)
}

// cellsOf: the words of a block's cells.
func cellsOf(t *testing.T, a *arena.Arena, b uint64) []uint64 {
	t.Helper()
	out := make([]uint64, a.Size(b))
	for i := range out {
		w, err := a.Load(b, i)
		if err != api.OK {
			t.Fatalf("cell %d of block %d: %v", i, b, err)
		}
		out[i] = w
	}
	return out
}

// holdArena: just these blocks are there, from the number 1 on, with these words (none, if it is not there), and no act was a fault.
func holdArena(t *testing.T, a *arena.Arena, blocks ...[]uint64) {
	t.Helper()
	used := 0
	var numbers []uint64
	for i, words := range blocks {
		b := uint64(i + 1)
		if len(words) == 0 {
			continue
		}
		numbers, used = append(numbers, b), used+len(words)
		if got := cellsOf(t, a, b); !slices.Equal(got, words) {
			t.Fatalf("block %d: %#x; wanted %#x", b, got, words)
		}
	}
	if got := a.Blocks(); !slices.Equal(got, numbers) || a.Used() != used || a.Faults() != 0 {
		t.Fatalf("blocks %d, %d cells used, %d faults; wanted %d, %d, 0", got, a.Used(), a.Faults(), numbers, used)
	}
}

// holdAlone: done alone on the arena, so many acts are done, and this is the answer.
func holdAlone(t *testing.T, a *arena.Arena, x *Maker, acts int, want uint64) {
	t.Helper()
	if n, end := drive.Alone(a, x, 100); n != acts || !end {
		t.Fatalf("Alone: %d %v; wanted %d acts", n, end, acts)
	}
	if got, done := x.Result(); got != want || !done {
		t.Fatalf("Result: %d %v; wanted %d", got, done, want)
	}
}

// filled: an arena of so many cells, with one block ahead of all others, of so many of them that so many are left.
func filled(t *testing.T, cells, left int) (*arena.Arena, []uint64) {
	t.Helper()
	a := arena.New(cells)
	words := make([]uint64, cells-left)
	if len(words) == 0 {
		return a, words
	}
	b := a.Alloc(len(words))
	for i := range words {
		words[i] = top - uint64(i)
		a.Store(b, i, words[i])
	}
	return a, words
}

// The chapter's example.
func TestExample(t *testing.T) {
	x := New("a", "bc")
	holdAct(t, x, api.Act{Kind: api.Alloc, Cell: 3})
	x.Take(7)
	holdAct(t, x, api.Act{Kind: api.Store, Block: 7, Cell: 0, New: 513})
	x.Take(0)
	holdAct(t, x, api.Act{Kind: api.Store, Block: 7, Cell: 1, New: 97})
	x.Take(0)
	holdAct(t, x, api.Act{Kind: api.Store, Block: 7, Cell: 2, New: 25442})
	x.Take(0)
	holdEnd(t, x, 7)
}

// P17.1: boxes written out, with no part, with one, and with both.
func TestByHand(t *testing.T) {
	for _, c := range []struct {
		key, value string
		words      []uint64
	}{
		{"", "", []uint64{0}}, {"a", "", []uint64{1, 97}}, {"", "a", []uint64{256, 97}}, {"\x00", "", []uint64{1, 0}}, {"", "\x00", []uint64{256, 0}}, {"\xff", "\xff", []uint64{257, 255, 255}},
		{"12345678", "abcdefgh", []uint64{0x0808, 0x3837363534333231, 0x6867666564636261}}, {"123456789", "abcdefghi", []uint64{0x0909, 0x3837363534333231, 0x39, 0x6867666564636261, 0x69}},
		{"0123456789abcdef", "", []uint64{0x10, 0x3736353433323130, 0x6665646362613938}}, {"", "ABCDEFGHIJKLMNOPQRSTUVWX", []uint64{0x1800, 0x4847464544434241, 0x504f4e4d4c4b4a49, 0x5857565554535251}},
		{"0123456789abcdef", "ABCDEFGHIJKLMNOPQRSTUVWX", []uint64{0x1810, 0x3736353433323130, 0x6665646362613938, 0x4847464544434241, 0x504f4e4d4c4b4a49, 0x5857565554535251}},
		{strings.Repeat("\xff", 16), strings.Repeat("\xff", 24), []uint64{0x1810, top, top, top, top, top}}, {strings.Repeat("\x00", 16), strings.Repeat("\x00", 24), []uint64{0x1810, 0, 0, 0, 0, 0}},
		// Bytes are counted, not runes.
		{"\u20ac", "\xc0\xff", []uint64{0x0203, 0xac82e2, 0xffc0}},
	} {
		for i, block := range edgeWords() {
			holdMaker(t, c.key, c.value, c.words, block, uint64(i))
		}
	}
}

// P17.1: each length of a key and of a value.
func TestEachLength(t *testing.T) {
	for keyLen := range api.MaxKey + 1 {
		for valueLen := range api.MaxValue + 1 {
			for i, key := range texts(keyLen) {
				for j, value := range texts(valueLen) {
					block := edgeWords()[(keyLen+valueLen+i+j)%len(edgeWords())]
					holdMaker(t, key, value, wordsOf(key, value), block, uint64(i))
					holdMaker(t, key, value, wordsOf(key, value), 9, uint64(j))
				}
			}
		}
	}
}

// P17.1: a byte of each value at each place of a key, and of a value.
func TestEachByte(t *testing.T) {
	for b := range 256 {
		for place := range api.MaxValue {
			raw := []byte(scattered(api.MaxValue, uint64(b)))
			raw[place] = byte(b)
			value := string(raw[:place+1])
			key := string(raw[:min(place+1, api.MaxKey)])
			holdMaker(t, key, value, wordsOf(key, value), uint64(b+1), uint64(place))
			holdMaker(t, key, "", wordsOf(key, ""), uint64(b+1), uint64(place))
			holdMaker(t, "", value, wordsOf("", value), uint64(b+1), uint64(place))
		}
	}
}

// P17.1: an Alloc that is answered 0 is all: no Store comes, whatever is taken behind that, and the answer is 0.
func TestWithoutBlock(t *testing.T) {
	for keyLen := range api.MaxKey + 1 {
		for valueLen := range api.MaxValue + 1 {
			x := New(scattered(keyLen, 3), scattered(valueLen, 4))
			holdAct(t, x, api.Act{Kind: api.Alloc, Cell: len(wordsOf(scattered(keyLen, 3), scattered(valueLen, 4)))})
			x.Take(0)
			holdEnd(t, x, 0)
		}
	}
}

// P17.1: what Stores are answered does not matter, be it 0, the block's number, or any other word.
func TestAnswersToStores(t *testing.T) {
	words := wordsOf("0123456789abcdef", "ABCDEFGHIJKLMNOPQRSTUVWX")
	for _, block := range edgeWords()[1:] {
		for _, got := range append(edgeWords(), block, block+1, words[0], words[5]) {
			x := New("0123456789abcdef", "ABCDEFGHIJKLMNOPQRSTUVWX")
			for i, a := range actsOf(words, block) {
				holdAct(t, x, a)
				if i == 0 {
					x.Take(block)
				} else {
					x.Take(got)
				}
			}
			holdEnd(t, x, block)
		}
	}
}

// P17.1: a maker goes on whether or not it is asked for its act or its answer meanwhile.
func TestUnasked(t *testing.T) {
	for asks := range 4 {
		for keyLen := range api.MaxKey + 1 {
			x := New(scattered(keyLen, 5), "value")
			for i := range wordsOf(scattered(keyLen, 5), "value") {
				for range asks {
					x.Act()
					x.Result()
				}
				x.Take(uint64(i + 40))
			}
			// All acts but the last one were taken.
			words := wordsOf(scattered(keyLen, 5), "value")
			last := len(words) - 1
			holdAct(t, x, api.Act{Kind: api.Store, Block: 40, Cell: last, New: words[last]})
			x.Take(0)
			holdEnd(t, x, 40)
		}
	}
}

// P17.1: of a key or a value that is too long there is no act and no answer, alone as well.
func TestTooLong(t *testing.T) {
	for _, c := range tooLong() {
		x := New(c[0], c[1])
		holdNothing(t, x)
		a := arena.New(api.MaxCells)
		if n, end := drive.Alone(a, x, 100); n != 0 || !end {
			t.Fatalf("of %d and %d bytes: %d acts, %v", len(c[0]), len(c[1]), n, end)
		}
		holdArena(t, a)
		holdNothing(t, x)
	}
}

// P17.1: a nil maker, and one that New did not make.
func TestNobodyMade(t *testing.T) {
	var plain Maker
	for _, x := range []*Maker{nil, {}, new(Maker), &plain} {
		holdNothing(t, x)
		var r api.Routine = x
		a := arena.New(20)
		if n, end := drive.Alone(a, r, 100); n != 0 || !end {
			t.Fatalf("%d acts, %v", n, end)
		}
		if steps := drive.Run(a, []api.Routine{r}, []int{0, 0, 0}); len(steps) != 0 {
			t.Fatalf("steps: %+v", steps)
		}
		holdArena(t, a)
		holdNothing(t, x)
	}
}

// P17.2: on an arena with just enough room, with one cell less, and with more, beside nothing and beside another block.
func TestRoom(t *testing.T) {
	for keyLen := range api.MaxKey + 1 {
		for valueLen := range api.MaxValue + 1 {
			key, value := scattered(keyLen, 6), scattered(valueLen, 7)
			words := wordsOf(key, value)
			for _, left := range []int{0, 1, len(words) - 1, len(words), len(words) + 1, 20} {
				for _, cells := range []int{left, left + 1, left + 9} {
					if cells == 0 {
						continue
					}
					a, other := filled(t, cells, left)
					var blocks [][]uint64
					if len(other) > 0 {
						blocks = append(blocks, other)
					}
					acts, want := 1, uint64(0)
					if left >= len(words) {
						blocks = append(blocks, words)
						acts, want = 1+len(words), uint64(len(blocks))
					}
					x := New(key, value)
					holdAlone(t, a, x, acts, want)
					holdArena(t, a, blocks...)
					if n, end := drive.Alone(a, x, 100); n != 0 || !end {
						t.Fatalf("behind the end: %d acts, %v", n, end)
					}
					holdEnd(t, x, want)
					holdArena(t, a, blocks...)
				}
			}
		}
	}
}

// P17.2: what is made is the box of its key and its value, as layer 16 has it, and reads as these.
func TestMakesBox(t *testing.T) {
	for keyLen := range api.MaxKey + 1 {
		for valueLen := range api.MaxValue + 1 {
			for _, key := range texts(keyLen) {
				for _, value := range texts(valueLen) {
					a := arena.New(6)
					words := wordsOf(key, value)
					holdAlone(t, a, New(key, value), 1+len(words), 1)
					holdArena(t, a, words)
					if k, v := box.Read(cellsOf(t, a, 1)); k != key || v != value {
						t.Fatalf("read %q %q; wanted %q %q", k, v, key, value)
					}
				}
			}
		}
	}
}

// P17.2: boxes one behind the other, till no room is left, on the greatest arena.
func TestFillsArena(t *testing.T) {
	a := arena.New(api.MaxCells)
	var blocks [][]uint64
	used := 0
	for i := 0; ; i++ {
		key, value := scattered(i%17, uint64(i)), scattered(i%25, uint64(i+1))
		words := wordsOf(key, value)
		if used+len(words) > api.MaxCells {
			holdAlone(t, a, New(key, value), 1, 0)
			break
		}
		blocks, used = append(blocks, words), used+len(words)
		holdAlone(t, a, New(key, value), 1+len(words), uint64(len(blocks)))
	}
	holdArena(t, a, blocks...)
}

// P17.2: the block is a new one, also where older ones were freed, and what they had is not in it.
func TestBehindFreed(t *testing.T) {
	a := arena.New(6)
	for i := range 50 {
		key, value := scattered(16, uint64(i)), strings.Repeat("\x00", 24)
		b := uint64(i + 1)
		holdAlone(t, a, New(key, value), 7, b)
		if got := cellsOf(t, a, b); !slices.Equal(got, wordsOf(key, value)) {
			t.Fatalf("block %d: %#x", b, got)
		}
		holdAlone(t, a, New(key, value), 1, 0)
		if err := a.Free(b); err != api.OK {
			t.Fatal(b, err)
		}
	}
	holdArena(t, a)
}

// P17.1: on no arena an Alloc is answered 0.
func TestWithoutArena(t *testing.T) {
	for _, a := range []*arena.Arena{nil, {}} {
		x := New("a", "bc")
		holdAlone(t, a, x, 1, 0)
		holdEnd(t, x, 0)
	}
}

// P17.1: a block that is freed meanwhile is stored into all the same: its acts hang on no answer but the Alloc's.
func TestFreedMeanwhile(t *testing.T) {
	a := arena.New(9)
	x := New("a", "bc")
	if n, end := drive.Alone(a, x, 2); n != 2 || end {
		t.Fatal(n, end)
	}
	a.Free(1)
	if n, end := drive.Alone(a, x, 9); n != 2 || !end || a.Faults() != 2 || a.Used() != 0 {
		t.Fatal(n, end, a.Faults(), a.Used())
	}
	holdEnd(t, x, 1)
}

// orders: all rows of picks that have the first place so often, and the second one so often.
func orders(first, second int) [][]int {
	if first == 0 && second == 0 {
		return [][]int{nil}
	}
	var out [][]int
	if first > 0 {
		for _, l := range orders(first-1, second) {
			out = append(out, append([]int{0}, l...))
		}
	}
	if second > 0 {
		for _, l := range orders(first, second-1) {
			out = append(out, append([]int{1}, l...))
		}
	}
	return out
}

// P17.2: two makers side by side on one arena, in each order of their acts, with room for both.
func TestTwoMakers(t *testing.T) {
	boxes := [][2]string{{"", ""}, {"k", ""}, {"", "v"}, {"a", "bc"}, {"a", "bd"}, {"0123456789", "v"}, {"0123456789abcdef", "ABCDEFGHIJKLMNOPQRSTUVWX"}}
	for _, c := range boxes {
		for _, d := range boxes {
			first, second := wordsOf(c[0], c[1]), wordsOf(d[0], d[1])
			for _, picks := range orders(1+len(first), 1+len(second)) {
				a := arena.New(len(first) + len(second))
				x, y := New(c[0], c[1]), New(d[0], d[1])
				steps := drive.Run(a, []api.Routine{x, y}, picks)
				if len(steps) != len(picks) {
					t.Fatalf("picks %d: %d steps", picks, len(steps))
				}
				if picks[0] == 0 {
					holdArena(t, a, first, second)
					holdEnd(t, x, 1)
					holdEnd(t, y, 2)
				} else {
					holdArena(t, a, second, first)
					holdEnd(t, x, 2)
					holdEnd(t, y, 1)
				}
			}
		}
	}
}

// P17.2: of two makers on an arena with room for one, the first one that is picked makes its box, and nothing of the other one's is there.
func TestRoomForOne(t *testing.T) {
	words := wordsOf("a", "bc")
	for _, cells := range []int{3, 4, 5} {
		for _, picks := range orders(4, 4) {
			a := arena.New(cells)
			x, y := New("a", "bc"), New("a", "bc")
			steps := drive.Run(a, []api.Routine{x, y}, picks)
			if len(steps) != 5 {
				t.Fatalf("picks %d: %d steps", picks, len(steps))
			}
			holdArena(t, a, words)
			holdEnd(t, x, uint64(1-picks[0]))
			holdEnd(t, y, uint64(picks[0]))
		}
	}
}

// P17.1: makers of the same key and value are apart, and go on each by its own answers.
func TestApart(t *testing.T) {
	words := wordsOf("0123456789", "value")
	x, y, z := New("0123456789", "value"), New("0123456789", "value"), New("0123456789", "value")
	z.Take(0)
	for i := range actsOf(words, 5) {
		holdAct(t, x, actsOf(words, 5)[i])
		holdAct(t, y, actsOf(words, top)[i])
		holdEnd(t, z, 0)
		x.Take(5)
		y.Take(top)
	}
	holdEnd(t, x, 5)
	holdEnd(t, y, top)
}

// P17.1, P17.2: scattered keys, values and answers, held against the box's words; and several makers at once on one arena.
func TestScattered(t *testing.T) {
	next := row(171)
	for range 20000 {
		key, value := scattered(int(next()%20), next()), scattered(int(next()%28), next())
		if len(key) > 16 || len(value) > 24 {
			holdNothing(t, New(key, value))
			continue
		}
		holdMaker(t, key, value, wordsOf(key, value), next()>>(next()%64), next())
	}
	for range 2000 {
		holdScatteredRun(t, next)
	}
}

// holdScatteredRun: makers are picked without an order that matters, on an arena that may have too little room; each has the box whose block it answers, and nothing else is there.
func holdScatteredRun(t *testing.T, next func() uint64) {
	t.Helper()
	a := arena.New(int(1 + next()%40))
	var makers []*Maker
	var routines []api.Routine
	var words [][]uint64
	for range 1 + next()%8 {
		key, value := scattered(int(next()%17), next()), scattered(int(next()%25), next())
		x := New(key, value)
		makers, routines, words = append(makers, x), append(routines, x), append(words, wordsOf(key, value))
	}
	picks := make([]int, 600)
	for i := range picks {
		picks[i] = int(next() % 1000)
	}
	for i := range makers {
		picks = append(picks, slices.Repeat([]int{i}, 7)...)
	}
	drive.Run(a, routines, picks)
	blocks := make([][]uint64, len(makers))
	for i, x := range makers {
		b, done := x.Result()
		if !done || b > uint64(len(makers)) || b > 0 && len(blocks[b-1]) > 0 {
			t.Fatalf("maker %d: %d %v", i, b, done)
		}
		if b > 0 {
			blocks[b-1] = words[i]
		}
		holdEnd(t, x, b)
	}
	holdArena(t, a, blocks...)
}
