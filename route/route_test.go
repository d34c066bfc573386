package route

import (
	"math"
	"math/big"
	"slices"
	"testing"

	"sprocket/api"
	"sprocket/mix"
)

const top = math.MaxUint64

// noLogs: numbers that are no log: around both ends, such that a shift by them would be none or go round, and the least and greatest of Go's types.
func noLogs() []int {
	return []int{
		math.MinInt, math.MinInt + 1, math.MinInt + 9, math.MinInt32, -512, -256, -64, -63, -55, -10, -9, -3, -2, -1,
		10, 11, 12, 16, 19, 31, 32, 33, 62, 63, 64, 65, 73, 128, 256, 265, 512, 1 << 32, 1<<32 + 3,
		math.MaxInt16, math.MaxInt32, math.MaxUint32, math.MaxInt - 9, math.MaxInt - 1, math.MaxInt,
	}
}

// noPlaces: numbers that are no place among many groups: below, beyond, those that have a place's rest, and the least and greatest of Go's types.
func noPlaces(many int) []int {
	return []int{
		math.MinInt, math.MinInt + 1, math.MinInt + many, math.MinInt32, -2*many - 1, -2 * many, -many - 1, -many, -3, -2, -1,
		many, many + 1, many + 7, 2 * many, 2*many + 1, 3 * many, 1024, 1 << 20, 1 << 31, 1 << 32, 1<<32 + 1, 1 << 61, 1 << 62,
		math.MaxInt32, math.MaxUint32, math.MaxInt - many, math.MaxInt - 1, math.MaxInt,
	}
}

// edgeHashes: of Start 0 and 1, the greatest ones, and those whose Start is just below, at and above multiples of each number of groups, with the least and the greatest claim.
func edgeHashes() []uint64 {
	out := []uint64{0, 1, 5, 126, 127, 128, 129, 255, 256, 257, 3*128 + 5, 1<<63 - 1, 1 << 63, top - 128, top - 127, top - 1, top}
	for log := range 10 {
		many := uint64(1) << log
		for _, times := range []uint64{1, 2, 3, 100, 1<<47 - 1} {
			for _, start := range []uint64{times*many - 1, times * many, times*many + 1} {
				out = append(out, start<<7, start<<7|127)
			}
		}
	}
	return out
}

// scatteredHashes: long, short and middling words, without an order.
func scatteredHashes(n int) []uint64 {
	var out []uint64
	w := uint64(0x9e3779b97f4a7c15)
	for i := range n {
		w = w*6364136223846793005 + 1442695040888963407
		out = append(out, w>>33^w, w>>(i%64))
	}
	return out
}

func hashes() []uint64 { return append(edgeHashes(), scatteredHashes(300)...) }

// groupOf: the i-th group, in numbers without bound.
func groupOf(h uint64, log, i int) int {
	start := new(big.Int).Div(new(big.Int).SetUint64(h), big.NewInt(128))
	leaps := new(big.Int).Mul(big.NewInt(int64(i)), big.NewInt(int64(i)+1))
	leaps.Div(leaps, big.NewInt(2))
	many := new(big.Int).Exp(big.NewInt(2), big.NewInt(int64(log)), nil)
	return int(new(big.Int).Mod(start.Add(start, leaps), many).Int64())
}

// wayOf: all groups, in numbers without bound.
func wayOf(h uint64, log int) []int {
	var out []int
	for i := range 1 << log {
		out = append(out, groupOf(h, log, i))
	}
	return out
}

// firsts: the first most groups that All tells, left at the last of them.
func firsts(groups func(func(int) bool), most int) []int {
	var out []int
	for g := range groups {
		out = append(out, g)
		if len(out) == most {
			break
		}
	}
	return out
}

func holdWay(t *testing.T, h uint64, log int, want ...int) {
	t.Helper()
	if got := slices.Collect(All(h, log)); !slices.Equal(got, want) {
		t.Errorf("All(%#x, %d): %v; wanted %v", h, log, got, want)
	}
	for i, g := range want {
		holdGroup(t, h, log, i, g)
	}
	holdGroup(t, h, log, len(want), -1)
	holdGroup(t, h, log, -1, -1)
}

func holdGroup(t *testing.T, h uint64, log, i, want int) {
	t.Helper()
	if got := Group(h, log, i); got != want {
		t.Errorf("Group(%#x, %d, %d): %d; wanted %d", h, log, i, got, want)
	}
}

// P13.1: how many groups there are of each log; the greatest one is api's.
func TestGroups(t *testing.T) {
	for log, want := range []int{1, 2, 4, 8, 16, 32, 64, 128, 256, 512} {
		if got := Groups(log); got != want {
			t.Errorf("Groups(%d): %d; wanted %d", log, got, want)
		}
	}
	if Groups(api.MaxLog) != 512 || Groups(api.MaxLog+1) != 0 {
		t.Errorf("Groups(MaxLog): %d; one beyond: %d", Groups(api.MaxLog), Groups(api.MaxLog+1))
	}
}

// P13.1: of what is no log there are none.
func TestGroupsOfNoLog(t *testing.T) {
	for _, log := range noLogs() {
		if got := Groups(log); got != 0 {
			t.Errorf("Groups(%d): %d; wanted 0", log, got)
		}
	}
}

// P13.1: ways that were worked out by hand.
func TestWays(t *testing.T) {
	holdWay(t, 0, 0, 0)
	holdWay(t, 1<<63, 0, 0)
	holdWay(t, top, 0, 0)
	holdWay(t, 0, 1, 0, 1)
	holdWay(t, 128, 1, 1, 0)
	holdWay(t, 256, 1, 0, 1)
	holdWay(t, 0, 2, 0, 1, 3, 2)
	holdWay(t, 128, 2, 1, 2, 0, 3)
	holdWay(t, 256, 2, 2, 3, 1, 0)
	holdWay(t, 512, 2, 0, 1, 3, 2)
	holdWay(t, 0, 3, 0, 1, 3, 6, 2, 7, 5, 4)
	holdWay(t, 7*128, 3, 7, 0, 2, 5, 1, 6, 4, 3)
	holdWay(t, 8*128, 3, 0, 1, 3, 6, 2, 7, 5, 4)
	holdWay(t, 9*128, 3, 1, 2, 4, 7, 3, 0, 6, 5)
	holdWay(t, top, 3, 7, 0, 2, 5, 1, 6, 4, 3)
	holdWay(t, 0, 4, 0, 1, 3, 6, 10, 15, 5, 12, 4, 13, 7, 2, 14, 11, 9, 8)
}

// P13.1: the last groups of the greatest log, where the sum of the leaps is greatest.
func TestGroupAtTheEnd(t *testing.T) {
	for _, c := range []struct {
		h       uint64
		i, want int
	}{
		{0, 0, 0}, {0, 31, 496}, {0, 32, 16}, {0, 510, 257}, {0, 511, 256},
		{128, 511, 257}, {255 * 128, 511, 511}, {256 * 128, 511, 0}, {511 * 128, 0, 511}, {511 * 128, 1, 0}, {512 * 128, 0, 0},
		{top, 0, 511}, {top, 1, 0}, {top, 510, 256}, {top, 511, 255},
	} {
		holdGroup(t, c.h, 9, c.i, c.want)
	}
}

// P13.1: the hash's claim does not matter; below 128 all have the way of 0.
func TestStartAlone(t *testing.T) {
	for log := range 10 {
		for _, start := range []uint64{0, 1, 2, 511, 512, 513, 1<<57 - 1} {
			way := slices.Collect(All(start<<7, log))
			for low := range uint64(128) {
				h := start<<7 | low
				if got := slices.Collect(All(h, log)); !slices.Equal(got, way) {
					t.Fatalf("All(%#x, %d): %v; wanted %v", h, log, got, way)
				}
			}
		}
	}
}

// P13.1: All and Group against numbers without bound: each place of each log, for many hashes.
func TestWaysOfManyHashes(t *testing.T) {
	for _, h := range hashes() {
		for log := range 10 {
			way := slices.Collect(All(h, log))
			if want := wayOf(h, log); !slices.Equal(way, want) {
				t.Fatalf("All(%#x, %d): %v; wanted %v", h, log, way, want)
			}
		}
	}
	for _, h := range append(edgeHashes()[:60], scatteredHashes(10)...) {
		for log := range 10 {
			for i, want := range wayOf(h, log) {
				if got := Group(h, log, i); got != want {
					t.Fatalf("Group(%#x, %d, %d): %d; wanted %d", h, log, i, got, want)
				}
			}
		}
	}
}

// P13.1: where there is no i-th group it is -1.
func TestGroupWithoutPlace(t *testing.T) {
	for _, h := range append(edgeHashes(), scatteredHashes(20)...) {
		for log := range 10 {
			for _, i := range noPlaces(1 << log) {
				if got := Group(h, log, i); got != -1 {
					t.Fatalf("Group(%#x, %d, %d): %d; wanted -1", h, log, i, got)
				}
			}
		}
	}
}

// P13.1: of what is no log each Group is -1, and All is a sequence that yields nothing.
func TestWayOfNoLog(t *testing.T) {
	places := append(noPlaces(512), 0, 1, 2, 3, 8, 511)
	for _, h := range append(edgeHashes(), scatteredHashes(20)...) {
		for _, log := range noLogs() {
			for _, i := range places {
				if got := Group(h, log, i); got != -1 {
					t.Fatalf("Group(%#x, %d, %d): %d; wanted -1", h, log, i, got)
				}
			}
			groups := All(h, log)
			if groups == nil {
				t.Fatalf("All(%#x, %d): a nil sequence", h, log)
			}
			for g := range groups {
				t.Fatalf("All(%#x, %d) tells %d; wanted nothing", h, log, g)
			}
		}
	}
}

// P13.1: a sequence may be left at any group, and nothing more is asked for then; gone through again, it begins at its beginning.
func TestAllLeft(t *testing.T) {
	for _, h := range []uint64{0, 128, 3*128 + 5, top} {
		for log := range 10 {
			way := wayOf(h, log)
			many := len(way)
			for _, most := range []int{1, 2, many / 2, many - 1, many} {
				if most < 1 || most > many {
					continue
				}
				groups := All(h, log)
				for range 2 {
					if got := firsts(groups, most); !slices.Equal(got, way[:most]) {
						t.Fatalf("All(%#x, %d), left behind %d: %v; wanted %v", h, log, most, got, way[:most])
					}
				}
				if got := slices.Collect(groups); !slices.Equal(got, way) {
					t.Fatalf("All(%#x, %d), behind it was left: %v; wanted %v", h, log, got, way)
				}
			}
		}
	}
}

// P13.1: who leaves is not asked again.
func TestAllEnds(t *testing.T) {
	for log := range 10 {
		for _, most := range []int{1, 1<<log/2 + 1, 1 << log} {
			asked := 0
			All(7<<7, log)(func(int) bool { asked++; return asked < most })
			if asked != most {
				t.Errorf("All of the log %d, left behind %d: %d groups", log, most, asked)
			}
		}
	}
}

// P13.1: a sequence is gone through twice, also the second time while the first one is still on its way.
func TestAllTwice(t *testing.T) {
	for _, log := range []int{0, 1, 4, 9} {
		groups, way := All(top, log), wayOf(top, log)
		for range 2 {
			if got := slices.Collect(groups); !slices.Equal(got, way) {
				t.Fatalf("All of the log %d: %v; wanted %v", log, got, way)
			}
		}
		var outer []int
		for g := range groups {
			outer = append(outer, g)
			if got := slices.Collect(groups); len(outer) < 4 && !slices.Equal(got, way) {
				t.Fatalf("All of the log %d, within itself: %v; wanted %v", log, got, way)
			}
		}
		if !slices.Equal(outer, way) {
			t.Fatalf("All of the log %d, around itself: %v; wanted %v", log, outer, way)
		}
	}
}

// P13.2: each group comes once, and the first one is where the hash starts.
func TestEachOnce(t *testing.T) {
	for _, h := range hashes() {
		for log := range 10 {
			many := 1 << log
			met := make([]int, many)
			first := -1
			for g := range All(h, log) {
				if g < 0 || g >= many {
					t.Fatalf("All(%#x, %d) tells %d", h, log, g)
				}
				if first < 0 {
					first = g
				}
				met[g]++
			}
			if slices.Min(met) != 1 || slices.Max(met) != 1 {
				t.Fatalf("All(%#x, %d): the groups come so often: %v", h, log, met)
			}
			if uint64(first) != mix.Start(h)%uint64(many) {
				t.Fatalf("All(%#x, %d) begins at %d", h, log, first)
			}
		}
	}
}

// P13.2: by Group too, each group comes once.
func TestEachOnceByGroup(t *testing.T) {
	for _, h := range []uint64{0, 127, 128, 3*128 + 5, 511 << 7, 1 << 63, top} {
		for log := range 10 {
			var got, want []int
			for i := range 1 << log {
				got, want = append(got, Group(h, log, i)), append(want, i)
			}
			slices.Sort(got)
			if !slices.Equal(got, want) {
				t.Fatalf("of the hash %#x and the log %d, in order: %v", h, log, got)
			}
		}
	}
}

// P13.1: the ways of texts' hashes begin at their starts.
func TestWaysOfTexts(t *testing.T) {
	for _, s := range []string{"", "a", "key", "\x00\xff", "0123456789abcdef"} {
		for seed := range uint64(20) {
			h := mix.Hash(seed, s)
			for log := range 10 {
				if got := slices.Collect(All(h, log)); !slices.Equal(got, wayOf(h, log)) {
					t.Fatalf("All(%#x, %d): %v", h, log, got)
				}
			}
		}
	}
}

// The chapter's example.
func TestExample(t *testing.T) {
	holdWay(t, mix.Whole(3, 128), 2, 3, 0, 2, 1)
	holdWay(t, mix.Whole(3, 255), 2, 3, 0, 2, 1)
}
