package edit

import (
	"strings"
	"testing"

	"sprocket/api"
	"sprocket/spec"
)

// holdDecide: Decide answers this.
func holdDecide(t *testing.T, o api.Op, lay, w uint64, value string, want api.Reply, next uint64) {
	t.Helper()
	if r, got := Decide(o, lay, w, value); !spec.Same(r, want) || got != next {
		t.Fatalf("Decide of %+v, lay %d, word %d, value %q: %+v %d; wanted %+v %d", o, lay, w, value, r, got, want, next)
	}
}

// holdDecides: Decide answers what the chapter says.
func holdDecides(t *testing.T, o api.Op, lay, w uint64, value string) {
	t.Helper()
	r, next := plainDecide(o, lay, w, value)
	holdDecide(t, o, lay, w, value, r, next)
}

// op: an operation of a kind, of which Old is this.
func op(kind int, old string) api.Op {
	return api.Op{Kind: kind, Key: theKey, Value: "new", Old: old}
}

// P23.1: each kind on a slot that is Live, and one that is Gone, written out.
func TestDecideByHand(t *testing.T) {
	had, did, none, first := api.Reply{Had: true, Value: "v"}, api.Reply{Had: true, Did: true, Value: "v"}, api.Reply{}, api.Reply{Did: true}
	for _, c := range []struct {
		o        api.Op
		live     api.Reply
		liveNext uint64
		gone     api.Reply
		goneNext uint64
	}{
		{op(api.Get, "v"), had, 25, none, 26},
		{op(api.Put, "v"), did, 73, first, 73},
		{op(api.Put, ""), did, 73, first, 73},
		{op(api.PutIfAbsent, "v"), had, 25, first, 73},
		{op(api.PutIfAbsent, ""), had, 25, first, 73},
		{op(api.Replace, "x"), did, 73, none, 26},
		{op(api.Replace, ""), did, 73, none, 26},
		{op(api.CompareAndSwap, "v"), did, 73, none, 26},
		{op(api.CompareAndSwap, "w"), had, 25, none, 26},
		{op(api.CompareAndSwap, "vv"), had, 25, none, 26},
		{op(api.CompareAndSwap, ""), had, 25, none, 26},
		{op(api.CompareAndSwap, "new"), had, 25, none, 26},
		{op(api.Delete, "x"), did, 26, none, 26},
		{op(api.Delete, ""), did, 26, none, 26},
		{op(api.CompareAndDelete, "v"), did, 26, none, 26},
		{op(api.CompareAndDelete, "V"), had, 25, none, 26},
		{op(api.CompareAndDelete, "v\x00"), had, 25, none, 26},
		{op(api.CompareAndDelete, ""), had, 25, none, 26},
	} {
		holdDecide(t, c.o, 9, 25, "v", c.live, c.liveNext)
		holdDecide(t, c.o, 9, 26, "v", c.gone, c.goneNext)
		holdDecide(t, c.o, 9, 26, "", c.gone, c.goneNext)
	}
	// The empty value is one: it is there where the mark is Live, and is not where it is Gone.
	for _, kind := range []int{api.CompareAndSwap, api.CompareAndDelete} {
		next := map[int]uint64{api.CompareAndSwap: 73, api.CompareAndDelete: 26}[kind]
		holdDecide(t, op(kind, ""), 9, 25, "", api.Reply{Had: true, Did: true}, next)
		holdDecide(t, op(kind, ""), 9, 26, "", none, 26)
		holdDecide(t, op(kind, "v"), 9, 25, "", api.Reply{Had: true}, 25)
	}
	// A mark that is neither Live nor Gone: the key has nothing.
	for _, w := range []uint64{0, 24, 27, 28, 29, 30, 31, 5} {
		for _, o := range []api.Op{op(api.Get, "v"), op(api.Replace, "v"), op(api.CompareAndSwap, "v"), op(api.Delete, "v"), op(api.CompareAndDelete, "v")} {
			holdDecide(t, o, 9, w, "v", none, w)
		}
		holdDecide(t, op(api.Put, ""), 9, w, "v", first, 73)
		holdDecide(t, op(api.PutIfAbsent, ""), 9, w, "v", first, 73)
	}
	// A word of no block is looked at by its mark alone; the greatest blocks keep all their bits.
	holdDecide(t, op(api.Delete, ""), 9, 1, "v", did, 2)
	holdDecide(t, op(api.Put, ""), 9, 1, "v", did, 73)
	holdDecide(t, op(api.Delete, ""), 9, top-6, "v", did, top-5)
	holdDecide(t, op(api.Put, ""), 0, 25, "v", did, 1)
	holdDecide(t, op(api.Put, ""), 1<<61-1, 25, "v", did, top-6)
	holdDecide(t, op(api.Put, ""), top, 25, "v", did, top-6)
	holdDecide(t, op(api.Put, ""), 1<<61, 25, "v", did, 1)
}

// values: texts that are empty, short, of one length and different, and longer than any value may be.
func values() []string {
	long := strings.Repeat("v", 300)
	return []string{"", "v", "w", "V", "v\x00", "\x00", "\x00\x00", "vv", text(24, 5), text(24, 6), text(25, 5), long, long[1:], long[1:] + "w"}
}

// P23.1: each kind, with words of each mark and of no block, of small and great ones, lays of all sizes, and values and Old of all kinds; also of kinds that have no key: those do nothing, and the word stays.
func TestDecideEach(t *testing.T) {
	for kind := -1; kind <= 13; kind++ {
		for mark := range uint64(8) {
			for i, block := range edgeBlocks() {
				for k, lay := range edgeWords() {
					for m, value := range values() {
						old := values()[(i+k+m)%len(values())]
						holdDecides(t, op(kind, old), lay, block<<3|mark, value)
						holdDecides(t, op(kind, value), lay, block<<3|mark, value)
					}
				}
			}
		}
	}
	for _, kind := range edgeNumbers() {
		for _, value := range values() {
			for _, old := range values() {
				for _, w := range []uint64{25, 26, 27, 5} {
					holdDecides(t, op(kind, old), 9, w, value)
				}
			}
		}
	}
}

// P23.1: values and Old of each length up to more than the longest, of which the last byte, or the first one, tells them apart.
func TestDecideCompares(t *testing.T) {
	for n := 1; n < 70; n++ {
		value := text(n, n)
		last, first := []byte(value), []byte(value)
		last[n-1] ^= 1
		first[0] ^= 128
		for _, w := range []uint64{25, 26} {
			for kind := 1; kind <= 7; kind++ {
				for _, old := range []string{value, string(last), string(first), value[1:], value[:n-1], value + "\x00", ""} {
					holdDecides(t, op(kind, old), 9, w, value)
				}
			}
		}
		for _, old := range []string{string(last), string(first), value[1:], value[:n-1], value + "\x00"} {
			holdDecide(t, op(api.CompareAndSwap, old), 9, 25, value, api.Reply{Had: true, Value: value}, 25)
			holdDecide(t, op(api.CompareAndDelete, old), 9, 25, value, api.Reply{Had: true, Value: value}, 25)
		}
		holdDecide(t, op(api.CompareAndSwap, value), 9, 25, value, api.Reply{Had: true, Did: true, Value: value}, 73)
		holdDecide(t, op(api.CompareAndDelete, value), 9, 25, value, api.Reply{Had: true, Did: true, Value: value}, 26)
	}
}

// P23.1: how long the operation's key and value are does not matter: nothing is too long, and both may be the value, or Old.
func TestDecideNothingTooLong(t *testing.T) {
	for _, n := range []int{0, 1, 16, 17, 24, 25, 256, 70000} {
		for _, m := range []int{0, 1, 24, 25, 256, 70000} {
			for kind := 1; kind <= 7; kind++ {
				for _, w := range []uint64{25, 26} {
					for _, value := range []string{"v", text(m, 2), text(n, 1)} {
						o := api.Op{Kind: kind, Key: text(n, 1), Value: text(m, 2), Old: value}
						holdDecides(t, o, 9, w, value)
						o.Old += "x"
						holdDecides(t, o, 9, w, value)
					}
				}
			}
		}
	}
}

// P23.1: of all that a map may have and be asked, Decide answers what a map of that key alone answers, and the slot's word has what the map has then.
func TestDecideAsMap(t *testing.T) {
	short := []string{"", "v", "w", "vv", "v\x00", text(24, 5), text(24, 6)}
	for kind := 1; kind <= 7; kind++ {
		for _, value := range short {
			for _, old := range short {
				for _, written := range short {
					for _, key := range []string{"", "k", text(16, 9)} {
						o := api.Op{Kind: kind, Key: key, Value: written, Old: old}
						holdAsMap(t, o, 25, value, []api.Pair{{Key: key, Value: value}})
						holdAsMap(t, o, 26, value, nil)
					}
				}
			}
		}
	}
}

// holdAsMap: Decide of the operation on a slot of this word and value answers what a map that has just that answers.
func holdAsMap(t *testing.T, o api.Op, w uint64, value string, m []api.Pair) {
	t.Helper()
	behind, want := spec.Do(m, o)
	next := w
	if want.Did && len(behind) == 1 {
		next = 73
	} else if want.Did {
		next = 26
	}
	holdDecide(t, o, 9, w, value, want, next)
}

// P23.1: scattered operations, words, values and lays.
func TestDecideScattered(t *testing.T) {
	next := row(231)
	for range 60000 {
		value := text(int(next()>>9%30), int(next()>>9%3))
		old := text(int(next()>>9%30), int(next()>>9%3))
		if next()>>9%2 == 0 {
			old = value
		}
		w := next()
		if next()>>9%2 == 0 {
			w = w&^7 | 1 + next()>>9%2
		}
		o := api.Op{Kind: int(next()>>9%10) - 1, Key: text(int(next()>>9%40), 3), Value: text(int(next()>>9%40), 4), Old: old}
		holdDecides(t, o, next()>>(next()>>9%64), w, value)
	}
}
