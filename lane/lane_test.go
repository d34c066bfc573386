package lane

import (
	"encoding/binary"
	"math"
	"slices"
	"testing"
)

// edgeNumbers: numbers around a byte's, around places, and the least and greatest of Go's types.
func edgeNumbers() []int {
	return []int{
		math.MinInt, math.MinInt + 1, math.MinInt32, math.MinInt16, -257, -256, -255, -128, -9, -8, -7, -1,
		0, 1, 2, 6, 7, 8, 9, 15, 16, 56, 63, 64, 127, 128, 129, 254, 255, 256, 257, 383, 384, 511, 512,
		math.MaxInt16, math.MaxInt32, math.MaxUint32, math.MaxUint32 + 1, math.MaxInt - 1, math.MaxInt,
	}
}

// words: with bytes all alike, all unlike, alike in some places, and scattered ones.
func words() []uint64 {
	out := []uint64{
		0, 1, 0x80, 0xff, 0x100, 0x80008080, 0x7f7f7f7f7f7f7f7f, 0x8080808080808080, 0x0101010101010101,
		0xfefefefefefefefe, 0x0102030405060708, 0x0807060504030201, 0xff00ff00ff00ff00, 0x00ff00ff00ff00ff,
		0x0000000100000000, 0x00000000ffffffff, 0xffffffff00000000, 0x8000000000000000, 0x8001800180018001,
		0x807f807f7f807f80, 0x01000001ff8000ff, math.MaxUint64 - 1, math.MaxUint64,
	}
	w := uint64(0x9e3779b97f4a7c15)
	for range 100 {
		w = w*6364136223846793005 + 1442695040888963407
		out = append(out, w, w&0x0101010101010101, w&0x8181818181818181, w>>40, w<<40)
	}
	return out
}

// parts: the bytes of a word, lowest first, by the library.
func parts(w uint64) []int {
	var out []int
	for _, b := range binary.LittleEndian.AppendUint64(nil, w) {
		out = append(out, int(b))
	}
	return out
}

// whole: the word of eight bytes, by the library.
func whole(bytes []int) uint64 {
	var raw []byte
	for _, b := range bytes {
		raw = append(raw, byte(b))
	}
	return binary.LittleEndian.Uint64(raw)
}

func placesOf(bytes []int, b int) []int {
	var out []int
	for i, c := range bytes {
		if c == b {
			out = append(out, i)
		}
	}
	return out
}

func isNumberOfByte(b int) bool { return b >= 0 && b < 256 }

// P2.1: Byte is the byte, lowest bits first.
func TestByte(t *testing.T) {
	for i, want := range []int{0x08, 0x07, 0x86, 0x05, 0xff, 0x03, 0x80, 0x01} {
		if got := Byte(0x018003ff05860708, i); got != want {
			t.Errorf("Byte %d: %#x; wanted %#x", i, got, want)
		}
	}
	for _, w := range words() {
		for i, want := range parts(w) {
			if got := Byte(w, i); got != want {
				t.Errorf("Byte(%#x, %d): %d; wanted %d", w, i, got, want)
			}
		}
	}
}

// P2.1: where there is no byte, Byte is -1.
func TestByteNone(t *testing.T) {
	for _, w := range words() {
		for _, i := range edgeNumbers() {
			if got := Byte(w, i); (i < 0 || i > 7) && got != -1 {
				t.Errorf("Byte(%#x, %d): %d; wanted -1", w, i, got)
			}
		}
	}
}

// P2.1: With lays one byte, and leaves the others.
func TestWith(t *testing.T) {
	for _, c := range []struct {
		w    uint64
		i, b int
		want uint64
	}{
		{0, 0, 0xab, 0xab}, {0, 7, 0xab, 0xab00000000000000}, {math.MaxUint64, 0, 0, 0xffffffffffffff00},
		{math.MaxUint64, 7, 0, 0x00ffffffffffffff}, {0x0102030405060708, 3, 255, 0x01020304ff060708},
		{0x0102030405060708, 4, 0, 0x0102030005060708}, {0x0102030405060708, 7, 128, 0x8002030405060708},
	} {
		if got := With(c.w, c.i, c.b); got != c.want {
			t.Errorf("With(%#x, %d, %d): %#x; wanted %#x", c.w, c.i, c.b, got, c.want)
		}
	}
	for _, w := range words() {
		for i := range 8 {
			for b := range 256 {
				bytes := parts(w)
				bytes[i] = b
				if got := With(w, i, b); got != whole(bytes) {
					t.Fatalf("With(%#x, %d, %d): %#x; wanted %#x", w, i, b, got, whole(bytes))
				}
			}
		}
	}
}

// P2.1: With is w where there is no such byte, or b is no byte's number.
func TestWithNone(t *testing.T) {
	for _, w := range words() {
		for _, i := range edgeNumbers() {
			for _, b := range edgeNumbers() {
				there := i >= 0 && i <= 7 && isNumberOfByte(b)
				if got := With(w, i, b); !there && got != w {
					t.Fatalf("With(%#x, %d, %d): %#x; wanted w", w, i, b, got)
				}
			}
		}
	}
}

// P2.2: Places are those of the bytes that are b, rising, and Count is how many.
func TestPlacesAndCount(t *testing.T) {
	for _, w := range words() {
		bytes := parts(w)
		for _, b := range append(edgeNumbers(), bytes...) {
			want := placesOf(bytes, b)
			if got := slices.Collect(Places(w, b)); !slices.Equal(got, want) {
				t.Errorf("Places(%#x, %d): %v; wanted %v", w, b, got, want)
			}
			if got := Count(w, b); got != len(want) {
				t.Errorf("Count(%#x, %d): %d; wanted %d", w, b, got, len(want))
			}
		}
	}
}

// P2.2: of the example's word.
func TestExample(t *testing.T) {
	const w = 0x80008080
	if got := slices.Collect(Places(w, 128)); !slices.Equal(got, []int{0, 1, 3}) {
		t.Errorf("Places of 128: %v", got)
	}
	if got := Count(w, 0); got != 5 {
		t.Errorf("Count of 0: %d", got)
	}
	if got := First(w, 2, 128); got != 3 {
		t.Errorf("First from 2 on of 128: %d", got)
	}
}

// P2.2: a sequence of places may be left at any of them, and gone over again; it is never nil.
func TestPlacesLeft(t *testing.T) {
	for _, b := range edgeNumbers() {
		if Places(0, b) == nil || Places(math.MaxUint64, b) == nil {
			t.Fatalf("Places of %d: a nil sequence", b)
		}
	}
	for most := 1; most <= 8; most++ {
		places := Places(0x4242424242424242, 0x42)
		for range 2 {
			var got []int
			for i := range places {
				got = append(got, i)
				if len(got) == most {
					break
				}
			}
			if !slices.Equal(got, []int{0, 1, 2, 3, 4, 5, 6, 7}[:most]) {
				t.Errorf("the first %d places: %v", most, got)
			}
		}
	}
}

// P2.2: a sequence that is left asks for nothing more.
func TestPlacesEnd(t *testing.T) {
	for _, w := range []uint64{0, 0x8000000000000000, 0x0100000000000001} {
		asked := 0
		Places(w, 0)(func(int) bool { asked++; return false })
		if asked != 1 {
			t.Errorf("Places(%#x, 0), left at once: %d places", w, asked)
		}
	}
}

// firstOf: First, place by place.
func firstOf(bytes []int, at int, any []int) int {
	for i, b := range bytes {
		if i >= at && slices.Contains(any, b) {
			return i
		}
	}
	return 8
}

// P2.2: First is the least place from at on of a byte that is one of any, whatever their order.
func TestFirst(t *testing.T) {
	for _, w := range words() {
		bytes := parts(w)
		lists := [][]int{
			nil, {}, {0}, {255}, {-1}, {256}, {-1, 256, math.MinInt, math.MaxInt}, {0, 0, 0}, {1, 128, 255}, {255, 128, 1},
			{bytes[7]}, {bytes[0]}, {bytes[7], bytes[0]}, {bytes[5], bytes[2]}, {bytes[2], bytes[5]},
			{300, bytes[6], -1, bytes[3]}, {bytes[0] + 256, bytes[1] - 256}, bytes,
		}
		for _, any := range lists {
			for _, at := range append(edgeNumbers(), 3, 4, 5) {
				want := firstOf(bytes, at, any)
				if got := First(w, at, any...); got != want {
					t.Fatalf("First(%#x, %d, %v): %d; wanted %d", w, at, any, got, want)
				}
			}
		}
	}
}

// P2.2: First at the edges of where it may look.
func TestFirstEdges(t *testing.T) {
	const w = 0x1100000000000011
	for _, c := range []struct{ at, want int }{
		{math.MinInt, 0}, {-1, 0}, {0, 0}, {1, 7}, {6, 7}, {7, 7}, {8, 8}, {9, 8}, {math.MaxInt, 8},
	} {
		if got := First(w, c.at, 0x11); got != c.want {
			t.Errorf("First from %d on: %d; wanted %d", c.at, got, c.want)
		}
		if got := First(w, c.at); got != 8 {
			t.Errorf("First from %d on of nothing: %d; wanted 8", c.at, got)
		}
	}
}

// P2.2: what is looked for is not changed, its spare room neither.
func TestFirstKeepsNothing(t *testing.T) {
	room := []int{3, 1, 2, 9, 9}
	First(0x030201, 0, room[:3]...)
	if !slices.Equal(room, []int{3, 1, 2, 9, 9}) {
		t.Errorf("what was looked for has become %v", room)
	}
}

// P2.2: Fill lays to where from was, and leaves w if to is no byte's number.
func TestFill(t *testing.T) {
	for _, w := range words() {
		bytes := parts(w)
		for _, from := range append(edgeNumbers(), bytes...) {
			for _, to := range append(edgeNumbers(), bytes[0], bytes[7]) {
				want := parts(w)
				for _, i := range placesOf(bytes, from) {
					if isNumberOfByte(to) {
						want[i] = to
					}
				}
				if got := Fill(w, from, to); got != whole(want) {
					t.Fatalf("Fill(%#x, %d, %d): %#x; wanted %#x", w, from, to, got, whole(want))
				}
			}
		}
	}
}

// P2.3: a word is that of its eight bytes, laid into any other word.
func TestWordOfItsBytes(t *testing.T) {
	for _, start := range []uint64{0, math.MaxUint64, 0x123456789abcdef0} {
		for _, w := range words() {
			made := start
			for i := range 8 {
				made = With(made, i, Byte(w, i))
			}
			if made != w {
				t.Errorf("of the bytes of %#x: %#x", w, made)
			}
		}
	}
}

// P2.3: behind With byte i is b, and no other one has changed.
func TestBehindWith(t *testing.T) {
	for _, w := range words() {
		for i := range 8 {
			for _, b := range []int{0, 1, 127, 128, 254, 255} {
				laid := With(w, i, b)
				for j := range 8 {
					want := Byte(w, j)
					if j == i {
						want = b
					}
					if got := Byte(laid, j); got != want {
						t.Fatalf("With(%#x, %d, %d): byte %d is %d; wanted %d", w, i, b, j, got, want)
					}
				}
			}
		}
	}
}

// P2.3: behind Fill no byte is from, unless to is; and those that were from are to.
func TestBehindFill(t *testing.T) {
	for _, w := range words() {
		for _, from := range parts(w) {
			for _, to := range []int{0, 1, 127, 128, 255, from} {
				filled := Fill(w, from, to)
				if n := Count(filled, from); from != to && n != 0 {
					t.Fatalf("behind Fill(%#x, %d, %d): %d bytes are from", w, from, to, n)
				}
				if from == to && filled != w {
					t.Fatalf("Fill(%#x, %d, %d): %#x; wanted w", w, from, to, filled)
				}
				if n := Count(filled, to); from != to && n != Count(w, from)+Count(w, to) {
					t.Fatalf("behind Fill(%#x, %d, %d): %d bytes are to", w, from, to, n)
				}
			}
		}
	}
}
