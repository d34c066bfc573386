package reader

import (
	"math"
	"slices"
	"strings"
	"testing"

	"sprocket/api"
	"sprocket/arena"
	"sprocket/box"
	"sprocket/drive"
	"sprocket/maker"
)

const top = math.MaxUint64

// row: the next one of a row of words without an order that matters, each time.
func row(w uint64) func() uint64 {
	return func() uint64 {
		w = w*6364136223846793005 + 1442695040888963407
		return w>>33 ^ w<<7
	}
}

// scattered: a text of n bytes without an order that matters.
func scattered(n int, seed uint64) string {
	next := row(seed)
	raw := make([]byte, n)
	for i := range raw {
		raw[i] = byte(next() >> 9)
	}
	return string(raw)
}

// texts: of n bytes: a scattered one, and ones all alike, of the bytes 0 and 255 among them.
func texts(n int) []string {
	out := []string{scattered(n, uint64(n))}
	for _, b := range []string{"\x00", "a", "\x80", "\xff"} {
		out = append(out, strings.Repeat(b, n))
	}
	return out
}

// edgeWords: numbers of blocks, and answers: small and great ones, 0 and the greatest.
func edgeWords() []uint64 {
	return []uint64{0, 1, 2, 3, 7, 8, 255, 256, 513, 65535, 65536, math.MaxInt32, math.MaxUint32, 1 << 32, 1<<61 - 1, 1 << 61, math.MaxInt64, 1 << 63, top - 1, top}
}

// heads: around each bound of both lengths, each with nothing and with more above its 16 bits, and the words' own bounds.
func heads() []uint64 {
	out := append(edgeWords(), top&^0xffff, top-255, top-256)
	lens := []uint64{0, 1, 7, 8, 9, 15, 16, 17, 23, 24, 25, 32, 127, 128, 254, 255}
	for _, key := range lens {
		for _, value := range lens {
			for _, above := range []uint64{0, 1, 16, 255, 256, 1 << 15, 1 << 16, 1 << 47, 1<<48 - 1} {
				out = append(out, key+value<<8+above<<16)
			}
		}
	}
	return out
}

// wordsOf: the words of a box, as layer 16 has them.
func wordsOf(key, value string) []uint64 {
	words, _ := box.Words(key, value)
	return words
}

// filledTo: a box's words by its head: that head, and then words by a row.
func filledTo(head uint64, next func() uint64) []uint64 {
	words := []uint64{head}
	for len(words) < box.Size(head) {
		words = append(words, next())
	}
	return words
}

// pairOf: the key and the value of words, as layer 16 reads them.
func pairOf(words []uint64) api.Pair {
	key, value := box.Read(words)
	return api.Pair{Key: key, Value: value}
}

// loadOf: the act that reads a cell.
func loadOf(block uint64, cell int) api.Act {
	return api.Act{Kind: api.Load, Block: block, Cell: cell}
}

// holdNoAnswer: there is no answer.
func holdNoAnswer(t *testing.T, x *Reader) {
	t.Helper()
	if got, done := x.Result(); got != (api.Pair{}) || done {
		t.Fatalf("Result: %q %v; wanted none", got, done)
	}
}

// holdAct: the act that comes next is this one, however often it is asked, and there is no answer yet.
func holdAct(t *testing.T, x *Reader, want api.Act) {
	t.Helper()
	for range 3 {
		if got, more := x.Act(); got != want || !more {
			t.Fatalf("Act: %+v %v; wanted %+v", got, more, want)
		}
		holdNoAnswer(t, x)
	}
}

// holdEnd: no act comes any more, and this is the answer, however often both are asked, and whatever is taken.
func holdEnd(t *testing.T, x *Reader, want api.Pair) {
	t.Helper()
	for _, w := range edgeWords() {
		if got, more := x.Act(); got != (api.Act{}) || more {
			t.Fatalf("Act at the end: %+v %v; wanted none", got, more)
		}
		for range 2 {
			if got, done := x.Result(); got != want || !done {
				t.Fatalf("Result at the end: %q %v; wanted %q", got, done, want)
			}
		}
		x.Take(w)
	}
}

// holdNothing: there is neither an act nor an answer, whatever is taken.
func holdNothing(t *testing.T, x *Reader) {
	t.Helper()
	for _, w := range append(edgeWords(), 0) {
		if got, more := x.Act(); got != (api.Act{}) || more {
			t.Fatalf("Act: %+v %v; wanted none", got, more)
		}
		holdNoAnswer(t, x)
		x.Take(w)
	}
}

// holdReader: a reader of the block, to which these words are answered, loads just so many cells in order, and this is its answer.
func holdReader(t *testing.T, block uint64, words []uint64, want api.Pair) {
	t.Helper()
	x := New(block)
	for i, w := range words {
		holdAct(t, x, loadOf(block, i))
		x.Take(w)
	}
	holdEnd(t, x, want)
}

// cellsOf: the words of a block's cells.
func cellsOf(t *testing.T, a *arena.Arena, b uint64) []uint64 {
	t.Helper()
	out := make([]uint64, a.Size(b))
	for i := range out {
		w, err := a.Load(b, i)
		if err != api.OK {
			t.Fatalf("cell %d of block %d: %v", i, b, err)
		}
		out[i] = w
	}
	return out
}

// holdSame: both arenas have the same blocks with the same words, as many cells used, and as many faults.
func holdSame(t *testing.T, got, want *arena.Arena) {
	t.Helper()
	if !slices.Equal(got.Blocks(), want.Blocks()) || got.Used() != want.Used() || got.Faults() != want.Faults() {
		t.Fatalf("blocks %d, %d cells used, %d faults; wanted %d, %d, %d", got.Blocks(), got.Used(), got.Faults(), want.Blocks(), want.Used(), want.Faults())
	}
	for _, b := range want.Blocks() {
		if l, m := cellsOf(t, got, b), cellsOf(t, want, b); !slices.Equal(l, m) {
			t.Fatalf("block %d: %#x; wanted %#x", b, l, m)
		}
	}
}

// holdAlone: done alone on the arena, so many acts are done, and this is the answer, behind which no act is done.
func holdAlone(t *testing.T, a *arena.Arena, x *Reader, acts int, want api.Pair) {
	t.Helper()
	if n, end := drive.Alone(a, x, 100); n != acts || !end {
		t.Fatalf("Alone: %d %v; wanted %d acts", n, end, acts)
	}
	if n, end := drive.Alone(a, x, 100); n != 0 || !end {
		t.Fatalf("Alone behind the end: %d %v", n, end)
	}
	holdEnd(t, x, want)
}

// made: the block of a box that a maker made alone on the arena.
func made(t *testing.T, a *arena.Arena, key, value string) uint64 {
	t.Helper()
	x := maker.New(key, value)
	drive.Alone(a, x, 100)
	block, done := x.Result()
	if block == 0 || !done {
		t.Fatalf("no box of %q and %q", key, value)
	}
	return block
}

// laid: the number of a new block that has these words.
func laid(t *testing.T, a *arena.Arena, words ...uint64) uint64 {
	t.Helper()
	b := a.Alloc(len(words))
	for i, w := range words {
		if err := a.Store(b, i, w); err != api.OK {
			t.Fatalf("cell %d of block %d: %v", i, b, err)
		}
	}
	return b
}

// The chapter's example.
func TestExample(t *testing.T) {
	x := New(7)
	holdAct(t, x, api.Act{Kind: api.Load, Block: 7, Cell: 0})
	x.Take(513)
	holdAct(t, x, api.Act{Kind: api.Load, Block: 7, Cell: 1})
	x.Take(97)
	holdAct(t, x, api.Act{Kind: api.Load, Block: 7, Cell: 2})
	x.Take(25442)
	holdEnd(t, x, api.Pair{Key: "a", Value: "bc"})
}

// P18.1: words written out: with no part, with one, and with both; with bytes behind an end, lengths that are too great, and bits above the lowest sixteen.
func TestByHand(t *testing.T) {
	zeros := func(n int) string { return strings.Repeat("\x00", n) }
	for _, c := range []struct {
		words      []uint64
		key, value string
	}{
		{[]uint64{0}, "", ""}, {[]uint64{1, 97}, "a", ""}, {[]uint64{256, 97}, "", "a"}, {[]uint64{1, 0}, "\x00", ""}, {[]uint64{256, 0}, "", "\x00"}, {[]uint64{257, 255, 255}, "\xff", "\xff"},
		{[]uint64{0x0808, 0x3837363534333231, 0x6867666564636261}, "12345678", "abcdefgh"}, {[]uint64{0x0909, 0x3837363534333231, 0x39, 0x6867666564636261, 0x69}, "123456789", "abcdefghi"},
		{[]uint64{0x10, 0x3736353433323130, 0x6665646362613938}, "0123456789abcdef", ""}, {[]uint64{0x1800, 0x4847464544434241, 0x504f4e4d4c4b4a49, 0x5857565554535251}, "", "ABCDEFGHIJKLMNOPQRSTUVWX"},
		{[]uint64{0x1810, 0x3736353433323130, 0x6665646362613938, 0x4847464544434241, 0x504f4e4d4c4b4a49, 0x5857565554535251}, "0123456789abcdef", "ABCDEFGHIJKLMNOPQRSTUVWX"},
		{[]uint64{0x1810, top, top, top, top, top}, strings.Repeat("\xff", 16), strings.Repeat("\xff", 24)}, {[]uint64{0x1810, 0, 0, 0, 0, 0}, zeros(16), zeros(24)},
		{[]uint64{0x0102, 0x636261, 0x6564}, "ab", "d"}, {[]uint64{0x0101, top, top}, "\xff", "\xff"}, {[]uint64{0x0009, top, top - 1}, strings.Repeat("\xff", 8) + "\xfe", ""}, {[]uint64{0x0203, 0xac82e2, 0xffc0}, "\u20ac", "\xc0\xff"},
		{[]uint64{17, 0x3736353433323130, 0x6665646362613938}, "0123456789abcdef", ""}, {[]uint64{0xff, 1, 2}, "\x01" + zeros(7) + "\x02" + zeros(7), ""},
		{[]uint64{0x1900, 0x61, 0x62, 0x63}, "", "a" + zeros(7) + "b" + zeros(7) + "c" + zeros(7)}, {[]uint64{0xff01, 0x61, 0x62, 0x63, 0x64}, "a", "b" + zeros(7) + "c" + zeros(7) + "d" + zeros(7)},
		{[]uint64{0x10000}, "", ""}, {[]uint64{top - 65535}, "", ""}, {[]uint64{1<<63 + 513, 97, 25442}, "a", "bc"}, {[]uint64{0x10513, 97, 98, 99}, "a" + zeros(7) + "b" + zeros(7), "c" + zeros(4)},
		{[]uint64{top, 1, 2, 3, 4, 5}, "\x01" + zeros(7) + "\x02" + zeros(7), "\x03" + zeros(7) + "\x04" + zeros(7) + "\x05" + zeros(7)},
	} {
		for _, block := range edgeWords() {
			holdReader(t, block, c.words, api.Pair{Key: c.key, Value: c.value})
		}
	}
}

// P18.1: each length of a key and of a value.
func TestEachLength(t *testing.T) {
	for keyLen := range api.MaxKey + 1 {
		for valueLen := range api.MaxValue + 1 {
			for i, key := range texts(keyLen) {
				for j, value := range texts(valueLen) {
					block := edgeWords()[(keyLen+valueLen+i+j)%len(edgeWords())]
					holdReader(t, block, wordsOf(key, value), api.Pair{Key: key, Value: value})
				}
			}
		}
	}
}

// P18.1: a byte of each value at each place of a key, and of a value.
func TestEachByte(t *testing.T) {
	for b := range 256 {
		for place := range api.MaxValue {
			raw := []byte(scattered(api.MaxValue, uint64(b)))
			raw[place] = byte(b)
			value := string(raw[:place+1])
			key := string(raw[:min(place+1, api.MaxKey)])
			holdReader(t, uint64(b), wordsOf(key, value), api.Pair{Key: key, Value: value})
			holdReader(t, uint64(b), wordsOf(key, ""), api.Pair{Key: key})
			holdReader(t, uint64(b), wordsOf("", value), api.Pair{Value: value})
		}
	}
}

// P18.1: bytes behind the end of the key, or of the value, in their last words change nothing.
func TestBytesBehind(t *testing.T) {
	for keyLen := range api.MaxKey + 1 {
		for valueLen := range api.MaxValue + 1 {
			key, value := scattered(keyLen, 1), scattered(valueLen, 2)
			words := wordsOf(key, value)
			lastKey := (keyLen + 7) / 8
			for _, part := range []struct{ cell, bytes int }{{lastKey, keyLen}, {len(words) - 1, valueLen}} {
				for place := part.bytes % 8; place > 0 && place < 8; place++ {
					for _, b := range []uint64{1, 128, 255} {
						other := slices.Clone(words)
						other[part.cell] |= b << (8 * place)
						holdReader(t, 4, other, api.Pair{Key: key, Value: value})
					}
				}
			}
		}
	}
}

// P18.1: how many cells are loaded is told by the head: of each sixteen bits of it, with nothing and with anything above these.
func TestEachHead(t *testing.T) {
	next := row(181)
	for low := range uint64(1 << 16) {
		x := New(next())
		x.Take(low | next()<<16)
		loads := 1
		for _, more := x.Act(); more && loads < 10; _, more = x.Act() {
			x.Take(next())
			loads++
		}
		key, value := min(low%256, 16), min(low/256, 24)
		if want := 1 + (key+7)/8 + (value+7)/8; uint64(loads) != want {
			t.Fatalf("head %#x: %d loads; wanted %d", low, loads, want)
		}
		got, done := x.Result()
		if len(got.Key) != int(key) || len(got.Value) != int(value) || !done {
			t.Fatalf("head %#x: %q %v", low, got, done)
		}
	}
	for i, head := range heads() {
		for _, rest := range []func() uint64{next, func() uint64 { return 0 }, func() uint64 { return top }, func() uint64 { return head }} {
			words := filledTo(head, rest)
			holdReader(t, edgeWords()[i%len(edgeWords())], words, pairOf(words))
		}
	}
}

// P18.1: a word that is answered behind the head is none, be it as a head great or small.
func TestOneHead(t *testing.T) {
	for _, w := range heads() {
		holdReader(t, 3, []uint64{513, w, w}, pairOf([]uint64{513, w, w}))
		holdReader(t, 3, []uint64{0x1810, w, w, w, w, w}, pairOf([]uint64{0x1810, w, w, w, w, w}))
	}
}

// P18.1: a reader goes on whether or not it is asked for its act or its answer meanwhile.
func TestUnasked(t *testing.T) {
	for asks := range 4 {
		for _, head := range heads() {
			words := filledTo(head, row(head))
			x := New(9)
			for _, w := range words {
				for range asks {
					x.Act()
					x.Result()
				}
				x.Take(w)
			}
			holdEnd(t, x, pairOf(words))
		}
	}
}

// P18.1: a nil reader, and one that New did not make.
func TestNobodyMade(t *testing.T) {
	var plain Reader
	for _, x := range []*Reader{nil, {}, new(Reader), &plain} {
		holdNothing(t, x)
		a := arena.New(20)
		made(t, a, "a", "bc")
		before := a.Copy()
		var r api.Routine = x
		if n, end := drive.Alone(a, r, 100); n != 0 || !end {
			t.Fatalf("%d acts, %v", n, end)
		}
		if steps := drive.Run(a, []api.Routine{r}, []int{0, 0, 0}); len(steps) != 0 {
			t.Fatalf("steps: %+v", steps)
		}
		holdSame(t, a, before)
		holdNothing(t, x)
	}
}

// P18.2: of each box that a maker made alone on an arena, with just enough room and with more.
func TestReadsMade(t *testing.T) {
	for keyLen := range api.MaxKey + 1 {
		for valueLen := range api.MaxValue + 1 {
			for _, key := range texts(keyLen) {
				for _, value := range texts(valueLen) {
					size := len(wordsOf(key, value))
					for _, cells := range []int{size, size + 1, 40} {
						a := arena.New(cells)
						block := made(t, a, key, value)
						before := a.Copy()
						holdAlone(t, a, New(block), size, api.Pair{Key: key, Value: value})
						holdSame(t, a, before)
					}
				}
			}
		}
	}
}

// P18.2: several boxes side by side, from the first to the last on the greatest arena, with other blocks and freed ones between them, each read twice.
func TestReadsSeveral(t *testing.T) {
	a := arena.New(api.MaxCells)
	pairs := map[uint64]api.Pair{}
	var blocks []uint64
	for i := 0; a.Used()+12 <= api.MaxCells; i++ {
		p := api.Pair{Key: scattered(i%17, uint64(i)), Value: scattered(i%25, uint64(i+1))}
		b := made(t, a, p.Key, p.Value)
		blocks, pairs[b] = append(blocks, b), p
		laid(t, a, slices.Repeat([]uint64{top}, 1+i%5)...)
		if i%3 == 0 {
			a.Free(made(t, a, p.Value[:min(16, len(p.Value))], p.Key))
		}
	}
	before := a.Copy()
	for range 2 {
		for _, b := range blocks {
			holdAlone(t, a, New(b), a.Size(b), pairs[b])
		}
	}
	holdSame(t, a, before)
}

// P18.1: of a block that is not there, and on no arena: its head is answered 0, so that is all, and both parts are empty.
func TestBlockNotThere(t *testing.T) {
	for _, block := range append(edgeWords(), 4, 5) {
		if block == 1 || block == 3 {
			continue
		}
		a := arena.New(20)
		made(t, a, "a", "bc")
		a.Free(made(t, a, "de", "f"))
		made(t, a, "g", "hi")
		want := a.Copy()
		want.Load(block, 0)
		holdAlone(t, a, New(block), 1, api.Pair{})
		holdSame(t, a, want)
		if a.Faults() != 1 {
			t.Fatalf("%d faults", a.Faults())
		}
		for _, none := range []*arena.Arena{nil, {}} {
			holdAlone(t, none, New(block), 1, api.Pair{})
		}
	}
}

// P18.1: of a block that is smaller than its head says: all cells by its head are loaded, and those that it has not are answered 0.
func TestSmallerBlock(t *testing.T) {
	for _, head := range heads() {
		words := filledTo(head, row(head))
		for many := 1; many <= len(words); many++ {
			a := arena.New(40)
			laid(t, a, top, top)
			b := laid(t, a, words[:many]...)
			laid(t, a, top, top, top, top, top, top)
			want := a.Copy()
			for i := range words {
				want.Load(b, i)
			}
			holdAlone(t, a, New(b), len(words), pairOf(words[:many]))
			holdSame(t, a, want)
			if a.Faults() != len(words)-many {
				t.Fatalf("%d faults; wanted %d", a.Faults(), len(words)-many)
			}
		}
	}
}

// P18.1: of a block that is greater than its head says: what stands behind is not loaded.
func TestGreaterBlock(t *testing.T) {
	for _, head := range heads() {
		words := filledTo(head, row(head))
		a := arena.New(40)
		b := laid(t, a, append(slices.Clone(words), top, top, 3)...)
		before := a.Copy()
		holdAlone(t, a, New(b), len(words), pairOf(words))
		holdSame(t, a, before)
	}
}

// P18.1: of a block that is freed, or changed, behind its first act: each load is done all the same, and its answer used.
func TestChangedMeanwhile(t *testing.T) {
	a := arena.New(9)
	x := New(made(t, a, "a", "bc"))
	if n, end := drive.Alone(a, x, 1); n != 1 || end {
		t.Fatal(n, end)
	}
	a.Store(1, 0, 0)
	a.Store(1, 1, 'z')
	if n, end := drive.Alone(a, x, 1); n != 1 || end {
		t.Fatal(n, end)
	}
	a.Store(1, 1, 'y')
	a.Free(1)
	holdAlone(t, a, x, 1, api.Pair{Key: "z", Value: "\x00\x00"})
	if a.Faults() != 1 || a.Used() != 0 {
		t.Fatal(a.Faults(), a.Used())
	}
}

// orders: all rows of picks that have the first place so often, and the second one so often.
func orders(first, second int) [][]int {
	if first == 0 && second == 0 {
		return [][]int{nil}
	}
	var out [][]int
	if first > 0 {
		for _, l := range orders(first-1, second) {
			out = append(out, append([]int{0}, l...))
		}
	}
	if second > 0 {
		for _, l := range orders(first, second-1) {
			out = append(out, append([]int{1}, l...))
		}
	}
	return out
}

// holdBoth: two readers picked on one arena in each order of their acts: each loads its own block, in order, and nothing changes.
func holdBoth(t *testing.T, a *arena.Arena, blocks [2]uint64, pairs [2]api.Pair) {
	t.Helper()
	before := a.Copy()
	for _, picks := range orders(a.Size(blocks[0]), a.Size(blocks[1])) {
		x, y := New(blocks[0]), New(blocks[1])
		steps := drive.Run(a, []api.Routine{x, y}, picks)
		if len(steps) != len(picks) {
			t.Fatalf("picks %d: %d steps", picks, len(steps))
		}
		var cells [2]int
		for i, s := range steps {
			if want := loadOf(blocks[picks[i]], cells[picks[i]]); s.Who != picks[i] || s.Act != want {
				t.Fatalf("picks %d: step %d: %+v; wanted %+v", picks, i, s, want)
			}
			cells[picks[i]]++
		}
		holdEnd(t, x, pairs[0])
		holdEnd(t, y, pairs[1])
	}
	holdSame(t, a, before)
}

// P18.2: two readers side by side, of one box and of two.
func TestTwoReaders(t *testing.T) {
	pairs := []api.Pair{{}, {Key: "k"}, {Value: "v"}, {Key: "a", Value: "bc"}, {Key: "a", Value: "bd"}, {Key: "0123456789", Value: "v"}, {Key: "0123456789abcdef", Value: "ABCDEFGHIJKLMNOPQRSTUVWX"}}
	for _, p := range pairs {
		for _, q := range pairs {
			a := arena.New(20)
			first, second := made(t, a, p.Key, p.Value), made(t, a, q.Key, q.Value)
			holdBoth(t, a, [2]uint64{first, second}, [2]api.Pair{p, q})
			holdBoth(t, a, [2]uint64{first, first}, [2]api.Pair{p, p})
		}
	}
}

// P18.1: readers of one block are apart, and go on each by its own answers.
func TestApart(t *testing.T) {
	x, y, z := New(6), New(6), New(6)
	z.Take(0)
	first, second := wordsOf("0123456789", "value"), wordsOf("\xff\x00", "ABCDEFGHIJKLMNOPQ")
	for i := range first {
		holdAct(t, x, loadOf(6, i))
		holdAct(t, y, loadOf(6, i))
		holdEnd(t, z, api.Pair{})
		x.Take(first[i])
		y.Take(second[i])
	}
	holdEnd(t, x, api.Pair{Key: "0123456789", Value: "value"})
	holdAct(t, y, loadOf(6, 4))
	y.Take(second[4])
	holdEnd(t, y, api.Pair{Key: "\xff\x00", Value: "ABCDEFGHIJKLMNOPQ"})
}

// P18.1, P18.2: scattered blocks and answers, held against Size and Read of layer 16; and several makers' boxes, read by several readers at once.
func TestScattered(t *testing.T) {
	next := row(182)
	for range 20000 {
		words := filledTo(next()>>(next()%64), next)
		holdReader(t, next()>>(next()%64), words, pairOf(words))
	}
	for range 1000 {
		holdScatteredRun(t, next)
	}
}

// holdScatteredRun: readers of boxes that were made are picked without an order that matters; each answers its box's key and value, by as many acts as that has cells, and nothing changes.
func holdScatteredRun(t *testing.T, next func() uint64) {
	t.Helper()
	a := arena.New(100)
	var pairs []api.Pair
	for range 1 + next()%8 {
		p := api.Pair{Key: scattered(int(next()%17), next()), Value: scattered(int(next()%25), next())}
		made(t, a, p.Key, p.Value)
		pairs = append(pairs, p)
	}
	before := a.Copy()
	var readers []*Reader
	var routines []api.Routine
	var blocks []uint64
	for range 1 + next()%8 {
		b := 1 + next()%uint64(len(pairs))
		x := New(b)
		readers, routines, blocks = append(readers, x), append(routines, x), append(blocks, b)
	}
	picks := make([]int, 80)
	for i := range picks {
		picks[i] = int(next() % 1000)
	}
	for i := range readers {
		picks = append(picks, slices.Repeat([]int{i}, 6)...)
	}
	acts := make([]int, len(readers))
	for _, s := range drive.Run(a, routines, picks) {
		acts[s.Who]++
	}
	for i, x := range readers {
		holdEnd(t, x, pairs[blocks[i]-1])
		if acts[i] != a.Size(blocks[i]) {
			t.Fatalf("%d acts of a box of %d cells", acts[i], a.Size(blocks[i]))
		}
	}
	holdSame(t, a, before)
}
