package mix

import (
	"math"
	"math/big"
	"math/bits"
	"strings"
	"testing"
)

// seeds: the least and the greatest words, words of few bits, and scattered ones.
func seeds() []uint64 {
	out := []uint64{
		0, 1, 2, 3, 127, 128, 255, 256, 1<<31 - 1, 1 << 31, 1<<32 - 1, 1 << 32, 1<<57 - 1, 1 << 57,
		math.MaxInt64, 1 << 63, math.MaxUint64 - 1, math.MaxUint64, 0x0123456789abcdef, 1099511628211,
	}
	return append(out, scattered(20)...)
}

func scattered(n int) []uint64 {
	var out []uint64
	w := uint64(0x9e3779b97f4a7c15)
	for range n {
		w = w*6364136223846793005 + 1442695040888963407
		out = append(out, w^w>>33)
	}
	return out
}

// texts: empty, with the edges of bytes, runes of one to four bytes, and bytes that are no text in UTF-8.
func texts() []string {
	return []string{
		"", "\x00", "\x01", "\x7f", "\x80", "\xff", "\x00\x00", "\x00\x7f\x80\xff", "\xff\x80\x7f\x00", "a", "ab", "ba", "key",
		"\u00e9", "\u20ac", "\U0001f600", "\ufffd", "x\u00e9y\u20acz\U0001f600", "\xc3", "\xc3\x28", "\xc0\x80", "\xed\xa0\x80",
		"\xe2\x82", "\xf0\x9f\x98", "\xf5\xf6\xf7", "\xfe\xff\xfd", "0123456789abcdef", allBytes(), strings.Repeat("\x00", 17),
		strings.Repeat("\xff", 100), strings.Repeat("long ", 1000),
	}
}

func allBytes() string {
	var raw []byte
	for b := range 256 {
		raw = append(raw, byte(b))
	}
	return string(raw)
}

// hashOf: the hash, in numbers without bound of which the rest by 2^64 is taken.
func hashOf(seed uint64, raw []byte) uint64 {
	round := new(big.Int).Lsh(big.NewInt(1), 64)
	h := new(big.Int).SetUint64(seed)
	for _, b := range raw {
		h.Xor(h, big.NewInt(int64(b)))
		h.Mul(h, big.NewInt(1099511628211)).Mod(h, round)
	}
	h.Xor(h, new(big.Int).Rsh(h, 32))
	h.Mul(h, new(big.Int).SetUint64(11400714819323198485)).Mod(h, round)
	h.Xor(h, new(big.Int).Rsh(h, 29))
	return h.Uint64()
}

// P3.1: hashes that were worked out elsewhere.
func TestHash(t *testing.T) {
	for _, c := range []struct {
		seed uint64
		s    string
		want uint64
	}{
		{0, "", 0}, {1, "", 0x9e3779bd8ef1b1de}, {math.MaxUint64, "", 0x80b583ef05ac1f58},
		{0, "\x00", 0}, {1, "\x00", 0xeb4631b35b254f0f}, {1, "\x00\x00", 0xc488bb27b53c1151},
		{0, "\x7f", 0xddca013bef6244f}, {0, "\x80", 0xa318da0592a78784}, {0, "\xff", 0x29188bdf3f8ee6a2},
		{5, "\x00\x7f\x80\xff", 0xed4ee1bed1c9daff}, {0, "a", 0x516907dab0a8508e}, {7, "key", 0xca44c66da9dcb7d3},
		{2, "ab", 0x8c6b92ffba6d90eb}, {2, "ba", 0x12ac4176bd4f30de}, {14695981039346656037, "hello", 0x28327e02056e6b4b},
		{math.MaxUint64, "\xff\xfe\xfd", 0xbe3d0d3dd1457817}, {1 << 63, "\u00e9\u20ac\U0001f600", 0xcf1566fe38ee7285},
		{3, "\xed\xa0\x80\xc0\x80\xf5", 0xedcd3b46f945b526}, {123456789, allBytes(), 0xa538cfe4d5b41dd6},
		{42, "The quick brown fox jumps over the lazy dog", 0xc5ace367636f1fa3},
	} {
		if got := Hash(c.seed, c.s); got != c.want {
			t.Errorf("Hash(%#x, %q): %#x; wanted %#x", c.seed, c.s, got, c.want)
		}
	}
}

// P3.1: the hash is of each byte, in order, whatever bytes they are, and it is the same each time.
func TestHashOfEachByte(t *testing.T) {
	for _, seed := range seeds() {
		for _, s := range texts() {
			want := hashOf(seed, []byte(s))
			for range 2 {
				if got := Hash(seed, s); got != want {
					t.Errorf("Hash(%#x, %q): %#x; wanted %#x", seed, s, got, want)
				}
			}
		}
	}
}

// P3.1: of every single byte.
func TestHashOfOneByte(t *testing.T) {
	for b := range 256 {
		raw := []byte{byte(b)}
		if got, want := Hash(77, string(raw)), hashOf(77, raw); got != want {
			t.Errorf("Hash of the byte %d: %#x; wanted %#x", b, got, want)
		}
	}
}

// P3.2: Start is h divided by 128, Claim 128 and what is left of h.
func TestStartAndClaim(t *testing.T) {
	for _, c := range []struct {
		h, start uint64
		claim    int
	}{
		{0, 0, 128}, {1, 0, 129}, {5, 0, 133}, {127, 0, 255}, {128, 1, 128}, {129, 1, 129}, {255, 1, 255}, {256, 2, 128},
		{1 << 63, 1 << 56, 128}, {math.MaxInt64, 1<<56 - 1, 255}, {math.MaxUint64, 1<<57 - 1, 255},
		{math.MaxUint64 - 127, 1<<57 - 1, 128}, {math.MaxUint64 - 128, 1<<57 - 2, 255},
	} {
		if got := Start(c.h); got != c.start {
			t.Errorf("Start(%#x): %#x; wanted %#x", c.h, got, c.start)
		}
		if got := Claim(c.h); got != c.claim {
			t.Errorf("Claim(%#x): %d; wanted %d", c.h, got, c.claim)
		}
	}
	for _, h := range append(seeds(), scattered(1000)...) {
		if got := Start(h); got != h/128 {
			t.Errorf("Start(%#x): %#x; wanted %#x", h, got, h/128)
		}
		if got := Claim(h); got != 128+int(h%128) {
			t.Errorf("Claim(%#x): %d; wanted %d", h, got, 128+int(h%128))
		}
	}
}

// edgeStarts and edgeClaims: around the bounds of a start and of a claim, and the least and greatest numbers of Go's types.
func edgeStarts() []uint64 {
	return append(seeds(), 1<<57-2, 1<<57+1, 1<<58, 1<<62, 1<<62-1, 1<<56, 1<<56-1)
}

func edgeClaims() []int {
	return []int{
		math.MinInt, math.MinInt + 1, math.MinInt32, math.MinInt16, -384, -256, -255, -129, -128, -127, -1,
		0, 1, 2, 126, 127, 128, 129, 130, 200, 254, 255, 256, 257, 383, 384, 511, 512,
		math.MaxInt16, math.MaxInt32, math.MaxUint32, math.MaxUint32 + 1 + 128, math.MaxInt - 1, math.MaxInt,
	}
}

// P3.2: Whole at the edges of starts and claims.
func TestWholeEdges(t *testing.T) {
	for _, c := range []struct {
		start uint64
		claim int
		want  uint64
	}{
		{0, 128, 0}, {0, 129, 1}, {0, 255, 127}, {1, 128, 128}, {1, 130, 130}, {2, 128, 256},
		{1<<57 - 1, 128, math.MaxUint64 - 127}, {1<<57 - 1, 255, math.MaxUint64}, {1 << 56, 128, 1 << 63},
		{1 << 57, 128, 0}, {1 << 57, 255, 0}, {1<<57 + 1, 129, 0}, {math.MaxUint64, 128, 0}, {math.MaxUint64, 255, 0},
		{1, -1, 0}, {1, 0, 0}, {1, 1, 0}, {1, 127, 0}, {1, 256, 0}, {1, 384, 0}, {1, math.MinInt, 0}, {1, math.MaxInt, 0},
		{0, -1, 0}, {0, 0, 0}, {0, 127, 0}, {0, 256, 0}, {1<<57 - 1, 127, 0}, {1<<57 - 1, 256, 0}, {1 << 57, 256, 0},
	} {
		if got := Whole(c.start, c.claim); got != c.want {
			t.Errorf("Whole(%#x, %d): %#x; wanted %#x", c.start, c.claim, got, c.want)
		}
	}
}

// P3.2: what Whole answers has this start and this claim; if none has them, it is 0.
func TestWhole(t *testing.T) {
	for _, start := range edgeStarts() {
		for _, claim := range edgeClaims() {
			h := Whole(start, claim)
			there := start < 1<<57 && claim >= 128 && claim <= 255
			if there && (h/128 != start || 128+int(h%128) != claim) {
				t.Errorf("Whole(%#x, %d): %#x", start, claim, h)
			}
			if !there && h != 0 {
				t.Errorf("Whole(%#x, %d): %#x; wanted 0", start, claim, h)
			}
		}
	}
}

// P3.3: by unlike seeds a text has unlike hashes.
func TestSeedsApart(t *testing.T) {
	for _, s := range texts() {
		of := map[uint64]uint64{}
		for _, seed := range append(seeds(), scattered(500)[20:]...) {
			h := Hash(seed, s)
			if other, ok := of[h]; ok && other != seed {
				t.Errorf("%q has the hash %#x by the seeds %#x and %#x", s, h, seed, other)
			}
			of[h] = seed
		}
	}
}

// P3.3: even by seeds that differ in one bit.
func TestSeedsOneBitApart(t *testing.T) {
	for _, s := range texts() {
		for _, seed := range seeds() {
			for bit := range 64 {
				if Hash(seed, s) == Hash(seed^1<<bit, s) {
					t.Errorf("%q has one hash by seeds that differ from %#x in bit %d", s, seed, bit)
				}
			}
		}
	}
}

// P3.3: two texts of one length that differ in one byte alone have unlike hashes: in the first, a middle or the last byte.
func TestTextsApart(t *testing.T) {
	for _, seed := range seeds() {
		for _, s := range texts() {
			if s == "" {
				continue
			}
			for _, place := range []int{0, len(s) / 2, len(s) - 1} {
				allApart(t, seed, []byte(s), place)
			}
		}
	}
}

// allApart: the texts that are raw but for one byte, by each byte that may stand there.
func allApart(t *testing.T, seed uint64, raw []byte, place int) {
	t.Helper()
	of := map[uint64]int{}
	for b := range 256 {
		raw[place] = byte(b)
		h := Hash(seed, string(raw))
		if other, ok := of[h]; ok {
			t.Fatalf("by the seed %#x: the bytes %d and %d at place %d of %d have one hash", seed, other, b, place, len(raw))
		}
		of[h] = b
	}
}

// inverse: the number that an odd factor times is 1.
func inverse(factor uint64) uint64 {
	x := factor
	for range 6 {
		x *= 2 - factor*x
	}
	return x
}

// P3.3: a seed comes back of its text and its hash, so no other seed has that hash.
func TestSeedComesBack(t *testing.T) {
	for _, seed := range append(seeds(), scattered(200)...) {
		for _, s := range texts() {
			h := Hash(seed, s)
			h ^= h>>29 ^ h>>58
			h *= inverse(11400714819323198485)
			h ^= h >> 32
			for i := len(s) - 1; i >= 0; i-- {
				h = h*inverse(1099511628211) ^ uint64(s[i])
			}
			if h != seed {
				t.Fatalf("of the hash of %q by %#x: the seed %#x", s, seed, h)
			}
		}
	}
}

// P3.4: a hash is its start and its claim.
func TestHashOfItsParts(t *testing.T) {
	check := func(h uint64) {
		if got := Whole(Start(h), Claim(h)); got != h {
			t.Errorf("of the start and the claim of %#x: %#x", h, got)
		}
	}
	for _, h := range append(seeds(), scattered(1000)...) {
		check(h)
	}
	for bit := range 64 {
		check(1 << bit)
		check(bits.Reverse64(1<<bit - 1))
		check(1<<bit - 1)
	}
	for _, seed := range seeds() {
		for _, s := range texts() {
			check(Hash(seed, s))
		}
	}
}

// P3.4: and a start and a claim are those of their whole.
func TestPartsOfTheWhole(t *testing.T) {
	for _, start := range []uint64{0, 1, 2, 127, 128, 1<<32 - 1, 1 << 32, 1<<56 - 1, 1 << 56, 1<<57 - 2, 1<<57 - 1} {
		for claim := 128; claim <= 255; claim++ {
			h := Whole(start, claim)
			if Start(h) != start || Claim(h) != claim {
				t.Errorf("of Whole(%#x, %d): the start %#x and the claim %d", start, claim, Start(h), Claim(h))
			}
		}
	}
}

// P3.1, P3.2: of the example.
func TestExample(t *testing.T) {
	if h := Hash(0, ""); h != 0 {
		t.Errorf("Hash(0, \"\"): %#x", h)
	}
	if c := Claim(5); c != 133 {
		t.Errorf("Claim(5): %d", c)
	}
	if s := Start(256); s != 2 {
		t.Errorf("Start(256): %d", s)
	}
}
