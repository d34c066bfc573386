package ctrl

import (
	"encoding/binary"
	"math"
	"slices"
	"testing"

	"sprocket/mix"
)

const top = math.MaxUint64

// noClaims: numbers that are no claim: below, beyond, those of other control bytes, and the least and greatest of Go's types.
func noClaims() []int {
	return []int{
		math.MinInt, math.MinInt + 1, math.MinInt + 128, math.MinInt + 129, math.MinInt32, -384, -257, -256, -255, -129, -128, -127, -2, -1,
		0, 1, 2, 3, 64, 126, 127, 256, 257, 258, 383, 384, 385, 511, 512, 1<<32 + 128, 1<<32 + 129,
		math.MaxInt16, math.MaxInt32, math.MaxUint32, math.MaxInt - 127, math.MaxInt - 1, math.MaxInt,
	}
}

// allClaims: every claim from 128 to 255.
func allClaims() []int {
	var out []int
	for c := 128; c <= 255; c++ {
		out = append(out, c)
	}
	return out
}

// fewClaims: few enough to be held against many words.
func fewClaims() []int {
	return append(noClaims(), 128, 129, 130, 133, 191, 192, 254, 255)
}

// noPlaces: numbers that are no place of a word's byte.
func noPlaces() []int {
	return []int{
		math.MinInt, math.MinInt + 1, math.MinInt + 7, math.MinInt32, -257, -256, -64, -9, -8, -7, -2, -1,
		8, 9, 15, 16, 56, 63, 64, 65, 128, 256, 257, 1 << 32, 1<<61 + 1, math.MaxInt32, math.MaxUint32, math.MaxInt - 1, math.MaxInt,
	}
}

// words: with bytes of each kind ahead of, between and behind others, and scattered ones of which many bytes are empty, sealed or claims.
func words() []uint64 {
	out := []uint64{
		0, 1, 2, 0x7f, 0x80, 0x81, 0xff, 0x100, 0x8000000000000000, 0x0101010101010101, 0x8080808080808080, 0x7f7f7f7f7f7f7f7f,
		0x0202020202020202, 0x00_01_85_00_84_02_85_84, 0x80_7f_80_7f_80_7f_80_7f, 0x7f_80_7f_80_7f_80_7f_80, 0x0102030405060708,
		0xff00ff00ff00ff00, 0x00ff00ff00ff00ff, 0x00000000ffffffff, 0xffffffff00000000, 0x8001800180018001, 0x81_00_00_00_00_00_00_81, top - 1, top,
	}
	w := uint64(0x9e3779b97f4a7c15)
	for range 400 {
		w = w*6364136223846793005 + 1442695040888963407
		mixed := w ^ w>>31
		out = append(out, mixed, sparse(mixed), mixed&0x8181818181818181, mixed|0x8080808080808080, mixed&0x7f7f7f7f7f7f7f7f, mixed>>(mixed%64), mixed<<(mixed%64))
	}
	return out
}

// sparse: a word whose bytes are empty, sealed, a few claims and a few that are none of these, as the bytes of w choose.
func sparse(w uint64) uint64 {
	kinds := [...]byte{0, 0, 0, 1, 1, 2, 127, 128, 128, 129, 130, 254, 255}
	var raw []byte
	for _, b := range parts(w) {
		raw = append(raw, kinds[b%len(kinds)])
	}
	return binary.LittleEndian.Uint64(raw)
}

// parts: the bytes of a word, lowest first, by the library.
func parts(w uint64) []int {
	var out []int
	for _, b := range binary.LittleEndian.AppendUint64(nil, w) {
		out = append(out, int(b))
	}
	return out
}

// whole: the word of eight bytes, by the library.
func whole(bytes []int) uint64 {
	var raw []byte
	for _, b := range bytes {
		raw = append(raw, byte(b))
	}
	return binary.LittleEndian.Uint64(raw)
}

// classOf: what a byte is to who has a claim, as the chapter says it.
func classOf(b, claim int) int {
	if b == 0 {
		return 1
	}
	if b == 1 {
		return 2
	}
	if b >= 128 && b <= 255 && claim == b {
		return 3
	}
	return 0
}

// nextOf: Next, byte by byte.
func nextOf(bytes []int, from, claim int) (int, int) {
	for i, b := range bytes {
		if class := classOf(b, claim); i >= from && class != 0 {
			return i, class
		}
	}
	return 8, 0
}

// claimOf: Claim, byte by byte.
func claimOf(w uint64, i, claim int) uint64 {
	bytes := parts(w)
	for j, b := range bytes {
		if j == i && b == 0 && claim >= 128 && claim <= 255 {
			bytes[j] = claim
		}
	}
	return whole(bytes)
}

func holdClass(t *testing.T, w uint64, i, claim, want int) {
	t.Helper()
	if got := Class(w, i, claim); got != want {
		t.Errorf("Class(%#x, %d, %d): %d; wanted %d", w, i, claim, got, want)
	}
}

func holdNext(t *testing.T, w uint64, from, claim, at, class int) {
	t.Helper()
	if gotAt, gotClass := Next(w, from, claim); gotAt != at || gotClass != class {
		t.Errorf("Next(%#x, %d, %d): %d, %d; wanted %d, %d", w, from, claim, gotAt, gotClass, at, class)
	}
}

func holdClaim(t *testing.T, w uint64, i, claim int, want uint64) {
	t.Helper()
	if got := Claim(w, i, claim); got != want {
		t.Errorf("Claim(%#x, %d, %d): %#x; wanted %#x", w, i, claim, got, want)
	}
}

func holdSeal(t *testing.T, w, want uint64) {
	t.Helper()
	if got := Seal(w); got != want {
		t.Errorf("Seal(%#x): %#x; wanted %#x", w, got, want)
	}
}

func holdClaimed(t *testing.T, w uint64, want ...int) {
	t.Helper()
	if got := Claimed(w); !slices.Equal(got, want) {
		t.Errorf("Claimed(%#x): %v; wanted %v", w, got, want)
	}
}

// P12.1: the classes have the chapter's numbers.
func TestClasses(t *testing.T) {
	if got := [...]int{Other, Free, Shut, Own}; got != [...]int{0, 1, 2, 3} {
		t.Errorf("Other, Free, Shut, Own: %v", got)
	}
}

// P12.1: a byte of each kind, to who has its claim, another one, or none.
func TestClass(t *testing.T) {
	const w = 0xff_80_7f_02_01_00_82_81
	for _, c := range []struct{ i, claim, want int }{
		{0, 0x81, Own}, {0, 0x82, Other}, {1, 0x82, Own}, {1, 0x81, Other}, {2, 0x81, Free}, {3, 0x81, Shut},
		{4, 0x81, Other}, {4, 2, Other}, {5, 0x81, Other}, {5, 127, Other}, {6, 128, Own}, {6, 255, Other}, {7, 255, Own}, {7, 128, Other},
		{2, 0, Free}, {3, 1, Shut}, {2, 1, Free}, {3, 0, Shut}, {7, -1, Other}, {7, 511, Other}, {6, -128, Other}, {6, 384, Other},
	} {
		holdClass(t, w, c.i, c.claim, c.want)
	}
}

// P12.1: every byte at every place, for every claim, and for numbers that are none; the bytes beside it do not matter.
func TestClassOfEachByte(t *testing.T) {
	claims := append(allClaims(), noClaims()...)
	for b := range 256 {
		for i := range 8 {
			for _, beside := range []uint64{0, 0x0101010101010101, 0x8585858585858585, top} {
				bytes := parts(beside)
				bytes[i] = b
				w := whole(bytes)
				for _, claim := range claims {
					if got, want := Class(w, i, claim), classOf(b, claim); got != want {
						t.Fatalf("Class(%#x, %d, %d): %d; wanted %d", w, i, claim, got, want)
					}
				}
			}
		}
	}
}

// P12.1: bytes from 2 to 127 are Other, also for a claim that is the same number.
func TestClassOfNone(t *testing.T) {
	for b := 2; b <= 127; b++ {
		for i := range 8 {
			w := uint64(b) << (8 * i)
			holdClass(t, w, i, b, Other)
			holdClass(t, w, i, b+128, Other)
			holdClass(t, w, i, b+256, Other)
		}
	}
}

// P12.1: 0 is Free and 1 is Shut, whatever the claim.
func TestClassWhateverTheClaim(t *testing.T) {
	for _, claim := range append(allClaims(), noClaims()...) {
		for i := range 8 {
			holdClass(t, 0, i, claim, Free)
			holdClass(t, 0x0101010101010101, i, claim, Shut)
			holdClass(t, top&^(0xff<<(8*i)), i, claim, Free)
		}
	}
}

// P12.1: where there is no byte it is Other, whatever the word and the claim, also for a claim of -1.
func TestClassWithoutByte(t *testing.T) {
	for _, w := range []uint64{0, 0x0101010101010101, 0x8080808080808080, 0x8585858585858585, top} {
		for _, i := range noPlaces() {
			for _, claim := range append(allClaims(), noClaims()...) {
				if got := Class(w, i, claim); got != Other {
					t.Fatalf("Class(%#x, %d, %d): %d; wanted Other", w, i, claim, got)
				}
			}
		}
	}
}

// P12.2: what Next comes to first: a place that is Free, Shut or Own; those that are Other are passed.
func TestNext(t *testing.T) {
	const w = 0x00_01_85_00_84_02_85_84
	for _, c := range []struct{ from, claim, at, class int }{
		{0, 0x84, 0, Own}, {1, 0x84, 3, Own}, {2, 0x84, 3, Own}, {4, 0x84, 4, Free}, {5, 0x84, 6, Shut}, {7, 0x84, 7, Free},
		{0, 0x85, 1, Own}, {2, 0x85, 4, Free}, {5, 0x85, 5, Own}, {6, 0x85, 6, Shut},
		{0, 0x86, 4, Free}, {5, 0x86, 6, Shut}, {0, 2, 4, Free}, {2, 2, 4, Free}, {0, 1, 4, Free}, {0, 0, 4, Free}, {0, 300, 4, Free},
	} {
		holdNext(t, w, c.from, c.claim, c.at, c.class)
	}
	holdNext(t, 0x00_81_01_02, 0, 0x81, 1, Shut)
	holdNext(t, 0x01_00_81_02, 0, 0x81, 1, Own)
	holdNext(t, 0x81_01_00_02, 0, 0x81, 1, Free)
}

// P12.2: from below 0 as from 0; from 8 and beyond there is none.
func TestNextFrom(t *testing.T) {
	for _, w := range []uint64{0, 0x0101010101010101, 0x8585858585858585} {
		class := Class(w, 0, 0x85)
		for from := range 8 {
			holdNext(t, w, from, 0x85, from, class)
		}
		for _, from := range noPlaces() {
			if from < 0 {
				holdNext(t, w, from, 0x85, 0, class)
			} else {
				holdNext(t, w, from, 0x85, 8, Other)
			}
		}
	}
	for _, from := range []int{math.MinInt, -1, 0, 1, 6, 7} {
		holdNext(t, 0x85_02_02_02_02_02_02_02, from, 0x85, 7, Own)
	}
	for _, from := range []int{8, 9, math.MaxInt - 1, math.MaxInt} {
		holdNext(t, 0x85_02_02_02_02_02_02_02, from, 0x85, 8, Other)
	}
}

// P12.2: where nothing but Other is there, from the beginning or from from on, it is 8 and Other.
func TestNextNone(t *testing.T) {
	froms := append(noPlaces(), 0, 1, 2, 3, 4, 5, 6, 7)
	for _, from := range froms {
		holdNext(t, 0x8484848484848484, from, 0x85, 8, Other)
		holdNext(t, 0x0202020202020202, from, 2, 8, Other)
		holdNext(t, 0x7f7f7f7f7f7f7f7f, from, 127, 8, Other)
		holdNext(t, top, from, -1, 8, Other)
		holdNext(t, top, from, 511, 8, Other)
		holdNext(t, 0x84_ff_80_7f_02_03_86_87, from, 0x85, 8, Other)
	}
	for from := 3; from <= 8; from++ {
		holdNext(t, 0x84_84_84_84_84_85_01_00, from, 0x85, 8, Other)
	}
}

// P12.2: a single place of each class, at each place, from each place.
func TestNextSingle(t *testing.T) {
	for at := range 8 {
		for b, class := range map[int]int{0: Free, 1: Shut, 0x85: Own} {
			bytes := parts(0x8484848484848484)
			bytes[at] = b
			w := whole(bytes)
			for from := range 8 {
				if from <= at {
					holdNext(t, w, from, 0x85, at, class)
				} else {
					holdNext(t, w, from, 0x85, 8, Other)
				}
			}
		}
	}
}

// P12.1, P12.2: many words, byte by byte.
func TestNextOfManyWords(t *testing.T) {
	froms := append(noPlaces(), 0, 1, 2, 3, 4, 5, 6, 7)
	for _, w := range words() {
		bytes := parts(w)
		for _, claim := range append(fewClaims(), bytes...) {
			for i, b := range bytes {
				if got, want := Class(w, i, claim), classOf(b, claim); got != want {
					t.Fatalf("Class(%#x, %d, %d): %d; wanted %d", w, i, claim, got, want)
				}
			}
			for _, from := range froms {
				at, class := nextOf(bytes, from, claim)
				if gotAt, gotClass := Next(w, from, claim); gotAt != at || gotClass != class {
					t.Fatalf("Next(%#x, %d, %d): %d, %d; wanted %d, %d", w, from, claim, gotAt, gotClass, at, class)
				}
			}
		}
	}
}

// P12.3: an empty place becomes the claim, all else stays.
func TestClaim(t *testing.T) {
	const w = 0x00_01_85_00_84_02_85_84
	holdClaim(t, w, 4, 0x90, 0x00_01_85_90_84_02_85_84)
	holdClaim(t, w, 7, 0x90, 0x90_01_85_00_84_02_85_84)
	holdClaim(t, w, 7, 128, 0x80_01_85_00_84_02_85_84)
	holdClaim(t, w, 7, 255, 0xff_01_85_00_84_02_85_84)
	for i := range 8 {
		for _, claim := range allClaims() {
			holdClaim(t, 0, i, claim, uint64(claim)<<(8*i))
			holdClaim(t, top&^(0xff<<(8*i)), i, claim, top&^(0xff<<(8*i))|uint64(claim)<<(8*i))
		}
	}
}

// P12.3: a place that is not empty stays: sealed, claimed (by the same claim too), or none of these.
func TestClaimOfTaken(t *testing.T) {
	for b := 1; b <= 255; b++ {
		for i := range 8 {
			w := uint64(b) << (8 * i)
			for _, claim := range []int{128, 129, 0x85, 254, 255, b, b | 128} {
				holdClaim(t, w, i, claim, w)
			}
		}
	}
}

// P12.3: of no place, and with what is no claim, the word stays.
func TestClaimOfNone(t *testing.T) {
	for _, w := range []uint64{0, 0x0101010101010101, 0x00_01_85_00_84_02_85_84, top} {
		for _, i := range noPlaces() {
			for _, claim := range fewClaims() {
				holdClaim(t, w, i, claim, w)
			}
		}
		for i := range 8 {
			for _, claim := range noClaims() {
				holdClaim(t, w, i, claim, w)
			}
		}
	}
}

// P12.3: each byte that is 0 becomes 1, wherever it stands; no other one changes.
func TestSeal(t *testing.T) {
	for _, c := range []struct{ w, want uint64 }{
		{0, 0x0101010101010101}, {top, top}, {0x0102030405060708, 0x0102030405060708}, {0x0101010101010101, 0x0101010101010101},
		{0x00_01_85_00_84_02_85_84, 0x01_01_85_01_84_02_85_84}, {0x81, 0x0101010101010181}, {0x81 << 56, 0x8101010101010101},
		{0x8181818181818100, 0x8181818181818101}, {0x0081818181818181, 0x0181818181818181}, {0x8181810081818181, 0x8181810181818181},
		{0x00ff00ff00ff00ff, 0x01ff01ff01ff01ff}, {0xff00ff00ff00ff00, 0xff01ff01ff01ff01}, {0x8000000000000080, 0x8001010101010180},
		{0x0002000000000000, 0x0102010101010101}, {0x8080808080808080, 0x8080808080808080}, {0x0100010001000100, 0x0101010101010101},
	} {
		holdSeal(t, c.w, c.want)
		holdSeal(t, c.want, c.want)
	}
}

// P12.3: the places of bytes from 128 on, rising.
func TestClaimed(t *testing.T) {
	all := []int{0, 1, 2, 3, 4, 5, 6, 7}
	holdClaimed(t, 0)
	holdClaimed(t, top, all...)
	holdClaimed(t, 0x8080808080808080, all...)
	holdClaimed(t, 0x7f7f7f7f7f7f7f7f)
	holdClaimed(t, 0x0101010101010101)
	holdClaimed(t, 0x00_01_85_00_84_02_85_84, 0, 1, 3, 5)
	holdClaimed(t, 0x80_7f_80_7f_80_7f_80_7f, 1, 3, 5, 7)
	holdClaimed(t, 0x7f_80_7f_80_7f_80_7f_80, 0, 2, 4, 6)
	for b := range 256 {
		for i := range 8 {
			if b >= 128 {
				holdClaimed(t, uint64(b)<<(8*i), i)
			} else {
				holdClaimed(t, uint64(b)<<(8*i))
			}
		}
	}
	for i := range 8 {
		holdClaimed(t, 0x7f7f7f7f7f7f7f7f+1<<(8*i), i)
		holdClaimed(t, 0x8080808080808080-1<<(8*i), slices.Delete(slices.Clone(all), i, i+1)...)
	}
}

// P12.3: what Claimed hands out is new memory.
func TestClaimedIsNew(t *testing.T) {
	first := Claimed(top)
	second := Claimed(top)
	for i := range first {
		first[i] = -1
	}
	first = append(first[:0], 9, 9, 9)
	if !slices.Equal(second, []int{0, 1, 2, 3, 4, 5, 6, 7}) || !slices.Equal(Claimed(top), second) {
		t.Errorf("behind a change of %v: %v, %v", first, second, Claimed(top))
	}
}

// P12.3: many words, byte by byte.
func TestChangesOfManyWords(t *testing.T) {
	places := append(noPlaces(), 0, 1, 2, 3, 4, 5, 6, 7)
	for _, w := range words() {
		for _, i := range places {
			for _, claim := range fewClaims() {
				if got, want := Claim(w, i, claim), claimOf(w, i, claim); got != want {
					t.Fatalf("Claim(%#x, %d, %d): %#x; wanted %#x", w, i, claim, got, want)
				}
			}
		}
		sealed := parts(w)
		var claimed []int
		for i, b := range parts(w) {
			if b == 0 {
				sealed[i] = 1
			}
			if b >= 128 {
				claimed = append(claimed, i)
			}
		}
		holdSeal(t, w, whole(sealed))
		holdClaimed(t, w, claimed...)
	}
}

// keeps: has no byte of old but those that are 0 changed?
func keeps(old, changed uint64) bool {
	now := parts(changed)
	for i, b := range parts(old) {
		if b != 0 && now[i] != b {
			return false
		}
	}
	return true
}

// P12.4: Claim and Seal change bytes that are 0 alone, and behind Seal none is 0, so no claim changes it any more.
func TestKeeps(t *testing.T) {
	for _, w := range words() {
		sealed := Seal(w)
		if !keeps(w, sealed) || slices.Contains(parts(sealed), 0) || Seal(sealed) != sealed {
			t.Fatalf("Seal(%#x): %#x", w, sealed)
		}
		for i := -1; i <= 8; i++ {
			for _, claim := range fewClaims() {
				claimed := Claim(w, i, claim)
				if !keeps(w, claimed) || claimed != w && Claim(claimed, i, 0xaa) != claimed {
					t.Fatalf("Claim(%#x, %d, %d): %#x", w, i, claim, claimed)
				}
				if got := Claim(sealed, i, claim); got != sealed {
					t.Fatalf("Claim(%#x, %d, %d), of a sealed word: %#x", sealed, i, claim, got)
				}
				if behind := Seal(claimed); !keeps(claimed, behind) || slices.Contains(parts(behind), 0) {
					t.Fatalf("Seal(%#x): %#x", claimed, behind)
				}
			}
		}
	}
}

// P12.4: a group that is claimed place by place, one claim behind the other, and sealed on the way.
func TestClaimsInTurn(t *testing.T) {
	for ends := range 9 {
		w := uint64(0)
		for n := range ends {
			at, class := Next(w, 0, 128+n)
			if at != n || class != Free {
				t.Fatalf("Next(%#x, 0, %d): %d, %d", w, 128+n, at, class)
			}
			claimed := Claim(w, at, 128+n)
			if !keeps(w, claimed) || claimed != w|uint64(128+n)<<(8*n) {
				t.Fatalf("Claim(%#x, %d, %d): %#x", w, at, 128+n, claimed)
			}
			w = claimed
		}
		holdClaimed(t, w, []int{0, 1, 2, 3, 4, 5, 6, 7}[:ends]...)
		sealed := Seal(w)
		for n := range 8 {
			if n < ends {
				holdNext(t, sealed, 0, 128+n, n, Own)
			} else {
				holdClass(t, sealed, n, 128+n, Shut)
			}
		}
		holdClaimed(t, sealed, Claimed(w)...)
	}
}

// P12.1, P12.3: the claims are those of hashes.
func TestClaimsOfHashes(t *testing.T) {
	for h := range uint64(300) {
		claim := mix.Claim(h)
		w := Claim(0, int(h%8), claim)
		holdClass(t, w, int(h%8), claim, Own)
		holdClaimed(t, w, int(h%8))
	}
}

// The chapter's example.
func TestExample(t *testing.T) {
	holdNext(t, 0x81, 0, 129, 0, Own)
	holdNext(t, 0x81, 0, 130, 1, Free)
}
