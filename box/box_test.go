package box

import (
	"encoding/binary"
	"math"
	"math/big"
	"slices"
	"strings"
	"testing"

	"sprocket/api"
	"sprocket/pack"
)

// edgeLengths: those of keys and values around the limits, around a byte's greatest number, and far beyond.
func edgeLengths() []int {
	return []int{0, 1, 2, 7, 8, 9, 15, 16, 17, 18, 23, 24, 25, 26, 31, 32, 127, 128, 254, 255, 256, 257, 271, 272, 273, 279, 280, 281, 300, 511, 512, 513, 65535, 65536, 65537, 100000}
}

// row: the next one of a row of words without an order that matters, each time.
func row(w uint64) func() uint64 {
	return func() uint64 {
		w = w*6364136223846793005 + 1442695040888963407
		return w>>33 ^ w
	}
}

// scattered: a text of n bytes without an order that matters, none of them 0.
func scattered(n int, seed uint64) string {
	next := row(seed)
	raw := make([]byte, n)
	for i := range raw {
		raw[i] = byte(next()%255 + 1)
	}
	return string(raw)
}

// texts: of n bytes: scattered ones, ones all alike, and ones in which just the first, or the last, is not 0.
func texts(n int) []string {
	out := []string{scattered(n, 1), scattered(n, 2)}
	for _, b := range []string{"\x00", "\x01", "a", "\x7f", "\x80", "\xff"} {
		out = append(out, strings.Repeat(b, n))
		if n > 0 {
			zeros := strings.Repeat("\x00", n-1)
			out = append(out, b+zeros, zeros+b)
		}
	}
	return out
}

// headOf: the chapter's words, in numbers without bound.
func headOf(key, value int) uint64 {
	head := big.NewInt(int64(min(value, 255)))
	head.Mul(head, big.NewInt(256))
	head.Add(head, big.NewInt(int64(min(key, 255))))
	return head.Uint64()
}

// lensOf: the chapter's words, in numbers without bound.
func lensOf(head uint64) (int, int) {
	above, key := new(big.Int).DivMod(new(big.Int).SetUint64(head), big.NewInt(256), new(big.Int))
	value := new(big.Int).Mod(above, big.NewInt(256))
	return min(int(key.Int64()), 16), min(int(value.Int64()), 24)
}

// sizeOf: how many cells a box of these lengths has, each cell counted for itself.
func sizeOf(key, value int) int {
	size := 1
	for left := key; left > 0; left -= 8 {
		size++
	}
	for left := value; left > 0; left -= 8 {
		size++
	}
	return size
}

// wordsOf: the words of a box, by the library, of texts filled up with bytes of 0.
func wordsOf(key, value string) []uint64 {
	out := []uint64{headOf(len(key), len(value))}
	for _, s := range []string{key, value} {
		raw := []byte(s)
		for len(raw)%8 != 0 {
			raw = append(raw, 0)
		}
		for len(raw) > 0 {
			out = append(out, binary.LittleEndian.Uint64(raw))
			raw = raw[8:]
		}
	}
	return out
}

// readOf: the chapter's words on Read, byte by byte.
func readOf(l []uint64) (string, string) {
	at := func(i int) uint64 {
		if i >= len(l) {
			return 0
		}
		return l[i]
	}
	first := 1
	take := func(n int) string {
		var raw []byte
		for i := range n {
			raw = append(raw, byte(at(first+i/8)>>(8*(i%8))))
		}
		first += sizeOf(n, 0) - 1
		return string(raw)
	}
	keyLen, valueLen := lensOf(at(0))
	key := take(keyLen)
	return key, take(valueLen)
}

func holdHead(t *testing.T, key, value string, want uint64) {
	t.Helper()
	if got := Head(key, value); got != want {
		t.Fatalf("Head of %d and %d bytes: %d; wanted %d", len(key), len(value), got, want)
	}
}

func holdLens(t *testing.T, head uint64, key, value int) {
	t.Helper()
	if k, v := Lens(head); k != key || v != value {
		t.Fatalf("Lens(%#x): %d %d; wanted %d %d", head, k, v, key, value)
	}
}

func holdSize(t *testing.T, head uint64, want int) {
	t.Helper()
	if got := Size(head); got != want {
		t.Fatalf("Size(%#x): %d; wanted %d", head, got, want)
	}
}

func holdWords(t *testing.T, key, value string, want []uint64) {
	t.Helper()
	if got, ok := Words(key, value); !ok || !slices.Equal(got, want) {
		t.Fatalf("Words(%q, %q): %#x %v; wanted %#x", key, value, got, ok, want)
	}
}

func holdNoWords(t *testing.T, key, value string) {
	t.Helper()
	if got, ok := Words(key, value); ok || len(got) != 0 {
		t.Fatalf("Words of %d and %d bytes: %#x %v; wanted none", len(key), len(value), got, ok)
	}
}

func holdRead(t *testing.T, l []uint64, key, value string) {
	t.Helper()
	if k, v := Read(l); k != key || v != value {
		t.Fatalf("Read(%#x): %q %q; wanted %q %q", l, k, v, key, value)
	}
}

// heads: around each bound of both lengths, each with nothing and with more above its 16 bits, and the words' own bounds.
func heads() []uint64 {
	out := []uint64{0, 1, math.MaxUint64, math.MaxUint64 - 1, math.MaxUint64 - 255, math.MaxUint64 - 256, math.MaxUint64 &^ 0xffff, 1 << 63, 1<<63 - 1, 1 << 32, 1 << 31}
	lens := []uint64{0, 1, 2, 7, 8, 9, 15, 16, 17, 18, 23, 24, 25, 26, 32, 127, 128, 254, 255}
	for _, key := range lens {
		for _, value := range lens {
			for _, above := range []uint64{0, 1, 2, 16, 24, 255, 256, 1 << 15, 1 << 16, 1 << 31, 1 << 47, 1<<48 - 1} {
				out = append(out, key+value<<8+above<<16)
			}
		}
	}
	return out
}

// Example 1: of "a" and "bc".
func TestExample(t *testing.T) {
	holdWords(t, "a", "bc", []uint64{513, 97, 25442})
	holdHead(t, "a", "bc", 513)
	holdLens(t, 513, 1, 2)
	holdSize(t, 513, 3)
	holdRead(t, []uint64{513, 97, 25442}, "a", "bc")
}

// P16.1: Head of lengths worked out by hand; from 255 bytes on it stays as it is.
func TestHeadByHand(t *testing.T) {
	for _, c := range []struct {
		key, value int
		want       uint64
	}{
		{0, 0, 0}, {1, 0, 1}, {0, 1, 256}, {1, 1, 257}, {16, 24, 6160}, {17, 25, 6417}, {24, 16, 4120}, {25, 17, 4377},
		{254, 0, 254}, {255, 0, 255}, {256, 0, 255}, {257, 0, 255}, {512, 0, 255}, {65536, 0, 255}, {100000, 0, 255},
		{0, 254, 65024}, {0, 255, 65280}, {0, 256, 65280}, {0, 257, 65280}, {0, 512, 65280}, {0, 65536, 65280}, {0, 100000, 65280},
		{254, 254, 65278}, {255, 255, 65535}, {256, 256, 65535}, {256, 1, 511}, {1, 256, 65281}, {300, 2, 767}, {100000, 100000, 65535},
	} {
		holdHead(t, strings.Repeat("k", c.key), strings.Repeat("v", c.value), c.want)
	}
}

// P16.1: Head hangs on the lengths alone, whatever the bytes are.
func TestHead(t *testing.T) {
	for _, key := range edgeLengths() {
		for _, value := range edgeLengths() {
			want := headOf(key, value)
			holdHead(t, strings.Repeat("\x00", key), strings.Repeat("\x00", value), want)
			holdHead(t, strings.Repeat("\xff", key), strings.Repeat("\x80", value), want)
		}
	}
	for n := range 600 {
		s := scattered(n, uint64(n))
		holdHead(t, s, "", headOf(n, 0))
		holdHead(t, "", s, headOf(0, n))
		holdHead(t, s, s, headOf(n, n))
	}
	// Bytes are counted, not runes.
	holdHead(t, "\u00e9\u20ac", "\U0001f600", 5+4*256)
}

// P16.1: Lens of heads worked out by hand.
func TestLensByHand(t *testing.T) {
	for _, c := range []struct {
		head       uint64
		key, value int
	}{
		{0, 0, 0}, {1, 1, 0}, {15, 15, 0}, {16, 16, 0}, {17, 16, 0}, {24, 16, 0}, {32, 16, 0}, {128, 16, 0}, {255, 16, 0},
		{256, 0, 1}, {257, 1, 1}, {511, 16, 1}, {512, 0, 2}, {23 * 256, 0, 23}, {24 * 256, 0, 24}, {25 * 256, 0, 24}, {128 * 256, 0, 24}, {255 * 256, 0, 24},
		{6160, 16, 24}, {6161, 16, 24}, {6416, 16, 24}, {6417, 16, 24}, {65535, 16, 24},
		{65536, 0, 0}, {65537, 1, 0}, {65536 + 256, 0, 1}, {65536 + 6160, 16, 24}, {1 << 24, 0, 0}, {1<<32 + 513, 1, 2}, {1 << 63, 0, 0}, {1<<63 + 0x0302, 2, 3},
		{math.MaxUint64, 16, 24}, {math.MaxUint64 - 255, 0, 24}, {math.MaxUint64 - 65280, 16, 0}, {math.MaxUint64 - 65535, 0, 0}, {math.MaxUint64 - 65535 + 513, 1, 2},
	} {
		holdLens(t, c.head, c.key, c.value)
	}
}

// P16.1: Lens of every 16 bits, with nothing above them, and with more there.
func TestLens(t *testing.T) {
	next := row(161)
	for low := range uint64(1 << 16) {
		key, value := lensOf(low)
		for _, head := range []uint64{low, low + 1<<16, low + 1<<63, low + (math.MaxUint64 - 65535), low | next()<<16} {
			holdLens(t, head, key, value)
		}
	}
	for _, head := range heads() {
		key, value := lensOf(head)
		holdLens(t, head, key, value)
	}
}

// P16.1: the lengths of a key and a value come back of their head, as far as a box may have them.
func TestLensOfHead(t *testing.T) {
	for _, key := range edgeLengths() {
		for _, value := range edgeLengths() {
			head := Head(strings.Repeat("k", key), strings.Repeat("v", value))
			holdLens(t, head, min(key, api.MaxKey), min(value, api.MaxValue))
		}
	}
}

// P16.1: Size worked out by hand.
func TestSizeByHand(t *testing.T) {
	for _, c := range []struct {
		head uint64
		want int
	}{
		{0, 1}, {1, 2}, {8, 2}, {9, 3}, {16, 3}, {17, 3}, {24, 3}, {25, 3}, {255, 3},
		{256, 2}, {8 * 256, 2}, {9 * 256, 3}, {16 * 256, 3}, {17 * 256, 4}, {24 * 256, 4}, {25 * 256, 4}, {32 * 256, 4}, {33 * 256, 4}, {255 * 256, 4},
		{257, 3}, {513, 3}, {0x0908, 4}, {0x0809, 4}, {0x1810, 6}, {0x1911, 6}, {0xffff, 6}, {0x1108, 5}, {0x1109, 6}, {0x1009, 5},
		{1 << 16, 1}, {1<<16 + 1, 2}, {1 << 63, 1}, {math.MaxUint64, 6}, {math.MaxUint64 - 65535, 1}, {math.MaxUint64 - 255, 4}, {math.MaxUint64 - 65280, 3},
	} {
		holdSize(t, c.head, c.want)
	}
}

// P16.1: Size of each head that a box may have.
func TestSizeOfBoxes(t *testing.T) {
	for key := range api.MaxKey + 1 {
		for value := range api.MaxValue + 1 {
			want := sizeOf(key, value)
			holdSize(t, headOf(key, value), want)
			if pack.Many(key)+pack.Many(value)+1 != want {
				t.Errorf("of %d and %d bytes: %d words and a head; wanted %d", key, value, pack.Many(key)+pack.Many(value), want)
			}
		}
	}
}

// P16.1: Size of heads that no box has: as Lens tells both lengths.
func TestSizeOfAnyHead(t *testing.T) {
	next := row(162)
	for low := range uint64(1 << 16) {
		key, value := lensOf(low)
		holdSize(t, low, sizeOf(key, value))
		holdSize(t, low|next()<<16, sizeOf(key, value))
	}
	for _, head := range heads() {
		key, value := lensOf(head)
		holdSize(t, head, sizeOf(key, value))
	}
}

// P16.1: Words written out.
func TestWordsByHand(t *testing.T) {
	for _, c := range []struct {
		key, value string
		want       []uint64
	}{
		{"", "", []uint64{0}}, {"a", "", []uint64{1, 97}}, {"", "a", []uint64{256, 97}}, {"\x00", "", []uint64{1, 0}}, {"", "\x00", []uint64{256, 0}}, {"\x00", "\x00\x00", []uint64{513, 0, 0}},
		{"\xff", "\xff", []uint64{257, 255, 255}}, {"12345678", "", []uint64{8, 0x3837363534333231}}, {"12345678\x01", "", []uint64{9, 0x3837363534333231, 1}},
		{"12345678", "abcdefgh", []uint64{0x0808, 0x3837363534333231, 0x6867666564636261}}, {"123456789", "abcdefghi", []uint64{0x0909, 0x3837363534333231, 0x39, 0x6867666564636261, 0x69}},
		{"0123456789abcdef", "ABCDEFGHIJKLMNOPQRSTUVWX", []uint64{0x1810, 0x3736353433323130, 0x6665646362613938, 0x4847464544434241, 0x504f4e4d4c4b4a49, 0x5857565554535251}},
		{strings.Repeat("\xff", 16), strings.Repeat("\xff", 24), []uint64{0x1810, math.MaxUint64, math.MaxUint64, math.MaxUint64, math.MaxUint64, math.MaxUint64}},
		{strings.Repeat("\x00", 16), strings.Repeat("\x00", 24), []uint64{0x1810, 0, 0, 0, 0, 0}}, {"\xed\xa0\x80", "\xc0\xff", []uint64{0x0203, 0x80a0ed, 0xffc0}},
	} {
		holdWords(t, c.key, c.value, c.want)
		holdRead(t, c.want, c.key, c.value)
	}
}

// P16.1, P16.3: Words of each length of a key and a value; Read of them tells both again, and Size how many there are.
func TestEachBox(t *testing.T) {
	for keyLen := range api.MaxKey + 1 {
		for valueLen := range api.MaxValue + 1 {
			for _, key := range texts(keyLen) {
				for _, value := range texts(valueLen) {
					holdWords(t, key, value, wordsOf(key, value))
					l, _ := Words(key, value)
					holdRead(t, l, key, value)
					holdHead(t, key, value, l[0])
					holdSize(t, Head(key, value), len(l))
				}
			}
		}
	}
}

// P16.1, P16.3: a byte of each value at each place of a key, and of a value.
func TestEachByte(t *testing.T) {
	for b := range 256 {
		for place := range api.MaxValue {
			raw := []byte(scattered(api.MaxValue, uint64(b)))
			raw[place] = byte(b)
			for _, n := range []int{place + 1, api.MaxValue} {
				value := string(raw[:n])
				key := value[:min(n, api.MaxKey)]
				holdWords(t, key, value, wordsOf(key, value))
				holdRead(t, wordsOf(key, value), key, value)
				holdRead(t, wordsOf(key, ""), key, "")
				holdRead(t, wordsOf("", value), "", value)
			}
		}
	}
}

// P16.1: of a key of more than 16 bytes, or a value of more than 24, there are no words.
func TestTooLong(t *testing.T) {
	for _, key := range edgeLengths() {
		for _, value := range edgeLengths() {
			k, v := scattered(key, 3), scattered(value, 4)
			if key <= 16 && value <= 24 {
				holdWords(t, k, v, wordsOf(k, v))
			} else {
				holdNoWords(t, k, v)
			}
		}
	}
	holdNoWords(t, strings.Repeat("a", 17), "")
	holdNoWords(t, "", strings.Repeat("b", 25))
	holdNoWords(t, strings.Repeat("a", 17), strings.Repeat("b", 24))
	holdNoWords(t, strings.Repeat("a", 16), strings.Repeat("b", 25))
	holdNoWords(t, strings.Repeat("a", 24), strings.Repeat("b", 16))
	holdNoWords(t, strings.Repeat("\x00", 17), "")
	holdNoWords(t, "", strings.Repeat("\x00", 25))
}

// P16.2: of no words both are empty.
func TestReadOfNone(t *testing.T) {
	for _, l := range [][]uint64{nil, {}, make([]uint64, 0, 6), []uint64{513, 97, 25442, 4, 5, 6}[:0]} {
		holdRead(t, l, "", "")
	}
}

// P16.2: of a head alone both are of bytes 0.
func TestReadOfHeadAlone(t *testing.T) {
	for _, head := range heads() {
		key, value := lensOf(head)
		holdRead(t, []uint64{head}, strings.Repeat("\x00", key), strings.Repeat("\x00", value))
	}
}

// P16.2: written out: words that are missing, that stand behind, or that have bytes behind an end; lengths that are too great.
func TestReadByHand(t *testing.T) {
	zeros := func(n int) string { return strings.Repeat("\x00", n) }
	for _, c := range []struct {
		l          []uint64
		key, value string
	}{
		{[]uint64{1}, "\x00", ""}, {[]uint64{256}, "", "\x00"}, {[]uint64{513, 97}, "a", "\x00\x00"}, {[]uint64{0x0109, 0x3837363534333231}, "12345678\x00", "\x00"},
		{[]uint64{0x0109, 0x3837363534333231, 0x39}, "123456789", "\x00"}, {[]uint64{0x1810, 1, 2, 3}, "\x01" + zeros(7) + "\x02" + zeros(7), "\x03" + zeros(23)},
		{[]uint64{0x1810, 1, 2, 3, 4}, "\x01" + zeros(7) + "\x02" + zeros(7), "\x03" + zeros(7) + "\x04" + zeros(15)},
		{[]uint64{0, 97, 98, 99}, "", ""}, {[]uint64{513, 97, 25442, 7, 8, 9}, "a", "bc"}, {[]uint64{513, 97, 25442, 7, 8, 9, 10, 11}, "a", "bc"},
		{[]uint64{0x0102, 0x636261, 0x64, 9, 9, 9, 9}, "ab", "d"}, {[]uint64{0x0102, 0x636261, 0x6564}, "ab", "d"}, {[]uint64{0x0101, math.MaxUint64, math.MaxUint64}, "\xff", "\xff"},
		{[]uint64{8, math.MaxUint64, math.MaxUint64}, strings.Repeat("\xff", 8), ""}, {[]uint64{0x0800, math.MaxUint64, math.MaxUint64}, "", strings.Repeat("\xff", 8)},
		{[]uint64{17, 0x3736353433323130, 0x6665646362613938, 0x67}, "0123456789abcdef", ""}, {[]uint64{0x20}, zeros(16), ""}, {[]uint64{0x01ff, 0x3736353433323130, 0x6665646362613938, 0x67}, "0123456789abcdef", "g"},
		{[]uint64{0x1900, 0x61, 0x62, 0x63, 0x64}, "", "a" + zeros(7) + "b" + zeros(7) + "c" + zeros(7)}, {[]uint64{0xff01, 0x61, 0x62, 0x63, 0x64, 0x65}, "a", "b" + zeros(7) + "c" + zeros(7) + "d" + zeros(7)},
		{[]uint64{0x10513, 97, 98, 99, 100}, "a" + zeros(7) + "b" + zeros(7), "c" + zeros(4)}, {[]uint64{math.MaxUint64, 1, 2, 3, 4, 5, 6, 7}, "\x01" + zeros(7) + "\x02" + zeros(7), "\x03" + zeros(7) + "\x04" + zeros(7) + "\x05" + zeros(7)},
		{[]uint64{1<<63 + 513, 97, 25442}, "a", "bc"}, {[]uint64{math.MaxUint64 - 65535, 97, 25442}, "", ""},
	} {
		holdRead(t, c.l, c.key, c.value)
	}
}

// P16.2: of each edge's head, with from none to more words than the greatest box has, byte by byte.
func TestReadOfEachSize(t *testing.T) {
	next := row(163)
	for _, head := range heads() {
		for many := range 10 {
			l := []uint64{head}
			for range many {
				l = append(l, next()|1<<63)
			}
			key, value := readOf(l)
			holdRead(t, l, key, value)
			// What stands behind the box's end is not looked at, and what lies in the list's spare room is none of its words.
			size := min(Size(head), len(l))
			holdRead(t, l[:size], key, value)
			for i := range l[size:] {
				l[size+i] = ^l[size+i]
			}
			holdRead(t, l, key, value)
		}
	}
}

// P16.2: a byte behind a key's or a value's end, whichever it is, changes neither.
func TestReadOfBytesBehind(t *testing.T) {
	for keyLen := range api.MaxKey + 1 {
		for valueLen := range api.MaxValue + 1 {
			key, value := scattered(keyLen, 5), scattered(valueLen, 6)
			l := wordsOf(key, value)
			for _, part := range []struct{ from, bytes, cells int }{{1, keyLen, pack.Many(keyLen)}, {1 + pack.Many(keyLen), valueLen, pack.Many(valueLen)}} {
				for place := part.bytes; place < 8*part.cells; place++ {
					for _, b := range []uint64{1, 128, 255} {
						other := slices.Clone(l)
						other[part.from+place/8] |= b << (8 * (place % 8))
						holdRead(t, other, key, value)
					}
				}
			}
			holdRead(t, append(l, math.MaxUint64, math.MaxUint64), key, value)
		}
	}
}

// P16.2: very many words behind the box change nothing.
func TestReadOfVeryManyWords(t *testing.T) {
	for _, c := range []struct{ key, value string }{{"", ""}, {"a", "bc"}, {scattered(16, 7), scattered(24, 8)}} {
		l := wordsOf(c.key, c.value)
		for len(l) < 100000 {
			l = append(l, math.MaxUint64)
		}
		holdRead(t, l, c.key, c.value)
	}
}

// P16.2: Read changes neither the words nor the room behind them, nor reads that room.
func TestReadLeavesItsWords(t *testing.T) {
	for _, head := range heads() {
		room := []uint64{head, 11, 22, 33, 44, 55, 66, 77}
		before := slices.Clone(room)
		for many := range len(room) + 1 {
			key, value := readOf(slices.Clone(room[:many]))
			holdRead(t, room[:many], key, value)
		}
		if !slices.Equal(room, before) {
			t.Fatalf("the words %#x have become %#x", before, room)
		}
	}
}

// P16.2: what Read told stays as it is when the words change.
func TestReadKeepsNothing(t *testing.T) {
	want := [2]string{scattered(16, 9), scattered(24, 10)}
	l := wordsOf(want[0], want[1])
	key, value := Read(l)
	clear(l)
	if key != want[0] || value != want[1] {
		t.Errorf("behind a change of the words: %q and %q; wanted %q", key, value, want)
	}
}

// P16.1: the words told are new memory each time, with whatever room they have.
func TestWordsAreNewMemory(t *testing.T) {
	for keyLen := range api.MaxKey + 1 {
		for valueLen := range api.MaxValue + 1 {
			key, value := scattered(keyLen, 11), scattered(valueLen, 12)
			want := wordsOf(key, value)
			first, _ := Words(key, value)
			second, _ := Words(key, value)
			whole := first[:cap(first)]
			for i := range whole {
				whole[i] = ^whole[i]
			}
			if !slices.Equal(second, want) || key != scattered(keyLen, 11) || value != scattered(valueLen, 12) {
				t.Fatalf("behind a change of other words of %q and %q: %#x", key, value, second)
			}
			holdWords(t, key, value, want)
		}
	}
}

// P16.1 to P16.3: scattered keys, values, heads and words against plain arithmetic.
func TestScattered(t *testing.T) {
	next := row(164)
	for range 200000 {
		key, value := scattered(int(next()%20), next()), scattered(int(next()%28), next())
		if len(key) > 16 || len(value) > 24 {
			holdNoWords(t, key, value)
		} else {
			holdWords(t, key, value, wordsOf(key, value))
			holdRead(t, wordsOf(key, value), key, value)
			holdSize(t, Head(key, value), len(wordsOf(key, value)))
		}
		holdHead(t, key, value, headOf(len(key), len(value)))

		head := next() >> (next() % 64)
		keyLen, valueLen := lensOf(head)
		holdLens(t, head, keyLen, valueLen)
		holdSize(t, head, sizeOf(keyLen, valueLen))
		l := []uint64{head}
		for range next() % 9 {
			l = append(l, next()<<32^next())
		}
		wantKey, wantValue := readOf(l)
		holdRead(t, l, wantKey, wantValue)
	}
}
