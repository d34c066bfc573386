package spec

import (
	"maps"
	"math"
	"slices"
	"strings"
	"testing"

	"sprocket/api"
)

// keyKinds: the kinds that have a key; writeKinds: those of them that write their value; plainKinds: those that have no key; noKinds: numbers that are no kind.
func keyKinds() []int {
	return []int{api.Get, api.Put, api.PutIfAbsent, api.Replace, api.CompareAndSwap, api.Delete, api.CompareAndDelete}
}

func writeKinds() []int {
	return []int{api.Put, api.PutIfAbsent, api.Replace, api.CompareAndSwap}
}

func plainKinds() []int { return []int{api.Len, api.Clear, api.Range, api.Flush} }

func noKinds() []int {
	return []int{0, 12, 13, 100, 1 << 20, -1, -2, -11, 257, 1<<16 + api.Get, math.MaxInt, math.MaxInt - 1, math.MinInt, math.MinInt + api.Get}
}

func allKinds() []int { return slices.Concat(keyKinds(), plainKinds()) }

// strangeKeys, rising: none, beginnings of one another, bytes at the edges, and no text in UTF-8.
func strangeKeys() []string {
	return []string{
		"", "\x00", "\x00\x00", "\x00\xff", "\x01", "a", "a\x00", "aa", "ab", "a\x7f", "a\x80", "a\xff", "b", "\x7f", "\x80", "\xc3\x28",
		"\u00e9", "\ufffd", "\xff", "\xff\x00", "\xff\xff", strings.Repeat("\xff", api.MaxKey),
	}
}

func ofKeys(keys ...string) []api.Pair {
	var m []api.Pair
	for _, key := range keys {
		m = append(m, api.Pair{Key: key, Value: "of " + key})
	}
	return m
}

// pairs: a map of keys and values by turns.
func pairs(texts ...string) []api.Pair {
	var m []api.Pair
	for i := 0; i+1 < len(texts); i += 2 {
		m = append(m, api.Pair{Key: texts[i], Value: texts[i+1]})
	}
	return m
}

// alike: field by field, without Same.
func alike(a, b api.Reply) bool {
	return a.Err == b.Err && a.Had == b.Had && a.Did == b.Did && a.Value == b.Value && a.N == b.N && slices.Equal(a.Pairs, b.Pairs)
}

// holdDo: Do and Allows of m and o tell this map and this answer, and m is as it was.
func holdDo(t *testing.T, m []api.Pair, o api.Op, behind []api.Pair, r api.Reply) {
	t.Helper()
	was := slices.Clone(m)
	n, got := Do(m, o)
	if !slices.Equal(n, behind) {
		t.Errorf("%q, %#v: map %q, not %q", m, o, n, behind)
	}
	if !alike(got, r) {
		t.Errorf("%q, %#v: answer %#v, not %#v", m, o, got, r)
	}
	n, is := Allows(m, o, r)
	if !is || !slices.Equal(n, behind) {
		t.Errorf("%q, %#v: Allows %q, %v, not %q", m, o, n, is, behind)
	}
	if !slices.Equal(m, was) {
		t.Errorf("%q: was changed to %q", was, m)
	}
}

// P7.1: keys rise, or do not.
func TestRight(t *testing.T) {
	right := [][]string{nil, {}, {""}, {"a"}, {"\xff"}, {"", "a"}, {"a", "b"}, {"a", "b", "c"}, {"a", "aa"}, {"a", "a\x00"}, {"", "\x00"}, {"\x00", "\x7f", "\x80", "\xff"}, {"\x7f", "\x80"}, {"B", "a"}, {"10", "9"}, strangeKeys()}
	for _, keys := range right {
		if !Right(ofKeys(keys...)) {
			t.Errorf("%q: not right", keys)
		}
	}
	wrong := [][]string{{"", ""}, {"a", "a"}, {"a", ""}, {"b", "a"}, {"aa", "a"}, {"a\x00", "a"}, {"\x80", "\x7f"}, {"\xff", "\x00"}, {"\xff", "\x80"}, {"\x7f", "\x00"},
		{"a", "b", "b"}, {"a", "a", "b"}, {"b", "a", "c"}, {"a", "c", "b"}, {"a", "b", "a"}, {"a", "b", "c", "d", "c"}, {"c", "b", "a"}, {"9", "10"}, {"a", "B"}}
	for _, keys := range wrong {
		if Right(ofKeys(keys...)) {
			t.Errorf("%q: right", keys)
		}
	}
	if Right(pairs("a", "1", "a", "2")) || Right(pairs("b", "1", "a", "2")) || !Right(pairs("a", "2", "b", "1")) || !Right([]api.Pair{}) {
		t.Error("values count")
	}
	if !Right(make([]api.Pair, 0, 5)) || !Right(ofKeys("a", "b", "a")[:2]) || Right(ofKeys("b", "a", "c")[:2]) {
		t.Error("spare room counts")
	}
}

// P7.1: of strange keys each two are right one way round alone, and one fault is told wherever it stands.
func TestRightOfTwo(t *testing.T) {
	keys := strangeKeys()
	for i, a := range keys {
		for j, b := range keys {
			if Right(ofKeys(a, b)) != (i < j) {
				t.Errorf("%q, %q: %v", a, b, i >= j)
			}
		}
		if i > 0 {
			m := ofKeys(keys...)
			m[i-1], m[i] = m[i], m[i-1]
			if Right(m) {
				t.Errorf("%d and the one ahead of it changed: right", i)
			}
			m = ofKeys(keys...)
			m[i].Key = m[i-1].Key
			if Right(m) {
				t.Errorf("%d as the one ahead of it: right", i)
			}
		}
	}
}

// P7.1: an operation is too long by its key, if it has one, and by its value, if it writes one; bytes are counted.
func TestLong(t *testing.T) {
	keys := map[string]bool{"": false, "k": false, strings.Repeat("k", 15): false, strings.Repeat("k", 16): false, strings.Repeat("k", 17): true, strings.Repeat("k", 1000): true,
		strings.Repeat("\x00", 16): false, strings.Repeat("\x00", 17): true, strings.Repeat("\xff", 16): false, strings.Repeat("\xff", 17): true, strings.Repeat("\u00e9", 8): false, strings.Repeat("\u00e9", 9): true}
	values := map[string]bool{"": false, "v": false, strings.Repeat("v", 17): false, strings.Repeat("v", 23): false, strings.Repeat("v", 24): false, strings.Repeat("v", 25): true, strings.Repeat("v", 1000): true,
		strings.Repeat("\x00", 24): false, strings.Repeat("\x00", 25): true, strings.Repeat("\xff", 25): true, strings.Repeat("\u00e9", 12): false, strings.Repeat("\u00e9", 13): true}
	for _, kind := range slices.Concat(allKinds(), noKinds()) {
		for key, longKey := range keys {
			for value, longValue := range values {
				for _, old := range []string{"", strings.Repeat("o", 25)} {
					want := slices.Contains(keyKinds(), kind) && longKey || slices.Contains(writeKinds(), kind) && longValue
					o := api.Op{Kind: kind, Key: key, Value: value, Old: old}
					if Long(o) != want {
						t.Errorf("%#v: %v", o, !want)
					}
				}
			}
		}
	}
}

// P7.1: answers that differ in one field alone are two, whichever stands first.
func TestSame(t *testing.T) {
	one := func() api.Reply {
		return api.Reply{Err: api.ErrArg, Had: true, Did: true, Value: "v", N: 3, Pairs: pairs("a", "1", "b", "2")}
	}
	changes := map[string]func(r *api.Reply){
		"Err":            func(r *api.Reply) { r.Err = api.ErrNoMem },
		"no Err":         func(r *api.Reply) { r.Err = api.OK },
		"Err of no name": func(r *api.Reply) { r.Err = -1 },
		"Had":            func(r *api.Reply) { r.Had = false },
		"Did":            func(r *api.Reply) { r.Did = false },
		"Value":          func(r *api.Reply) { r.Value = "w" },
		"no Value":       func(r *api.Reply) { r.Value = "" },
		"a longer Value": func(r *api.Reply) { r.Value = "v\x00" },
		"N":              func(r *api.Reply) { r.N = 4 },
		"N below 0":      func(r *api.Reply) { r.N = -3 },
		"the least N":    func(r *api.Reply) { r.N = math.MinInt },
		"a first key":    func(r *api.Reply) { r.Pairs[0].Key = "" },
		"a last key":     func(r *api.Reply) { r.Pairs[1].Key = "c" },
		"a first value":  func(r *api.Reply) { r.Pairs[0].Value = "2" },
		"a last value":   func(r *api.Reply) { r.Pairs[1].Value = "" },
		"their order":    func(r *api.Reply) { slices.Reverse(r.Pairs) },
		"one pair less":  func(r *api.Reply) { r.Pairs = r.Pairs[:1] },
		"without first":  func(r *api.Reply) { r.Pairs = r.Pairs[1:] },
		"one pair more":  func(r *api.Reply) { r.Pairs = append(r.Pairs, api.Pair{}) },
		"one pair twice": func(r *api.Reply) { r.Pairs = append(r.Pairs, r.Pairs[1]) },
		"no pairs":       func(r *api.Reply) { r.Pairs = nil },
		"empty pairs":    func(r *api.Reply) { r.Pairs = []api.Pair{} },
	}
	for what, change := range changes {
		r := one()
		change(&r)
		if Same(one(), r) || Same(r, one()) {
			t.Errorf("%s: same", what)
		}
		if !Same(r, r) {
			t.Errorf("%s: not the same as itself", what)
		}
	}
	if !Same(one(), one()) || !Same(api.Reply{}, api.Reply{}) {
		t.Error("not the same")
	}
	// Set beside nothing at all, each field alone counts too.
	for _, r := range []api.Reply{{Err: api.ErrNoMem}, {Had: true}, {Did: true}, {Value: "\x00"}, {N: 1}, {N: -1}, {Pairs: []api.Pair{{}}}} {
		if Same(r, api.Reply{}) || Same(api.Reply{}, r) || !Same(r, r) {
			t.Errorf("%#v", r)
		}
	}
}

// P7.1: no pairs are one, nil or empty, with spare room or without.
func TestSameOfNoPairs(t *testing.T) {
	none := [][]api.Pair{nil, {}, make([]api.Pair, 0, 4), pairs("a", "1")[:0], pairs("a", "1")[1:]}
	for i, a := range none {
		for j, b := range none {
			if !Same(api.Reply{N: 2, Pairs: a}, api.Reply{N: 2, Pairs: b}) || Same(api.Reply{N: 2, Pairs: a}, api.Reply{Pairs: b}) {
				t.Error(i, j)
			}
		}
	}
	if !Same(api.Reply{Pairs: pairs("a", "1", "b", "2")[:1]}, api.Reply{Pairs: pairs("a", "1", "c", "3")[:1]}) {
		t.Error("spare room counts")
	}
}

// P7.2: each kind on a map that has nothing, on one that has others alone, and on one that has the key.
func TestDo(t *testing.T) {
	others := pairs("a", "1", "c", "3")
	has := pairs("a", "1", "b", "2", "c", "3")
	written := pairs("a", "1", "b", "new", "c", "3")
	had := api.Reply{Had: true, Value: "2"}
	hadDid := api.Reply{Had: true, Did: true, Value: "2"}
	did := api.Reply{Did: true}
	of := func(kind int, old string) api.Op { return api.Op{Kind: kind, Key: "b", Value: "new", Old: old} }
	for _, x := range []struct {
		o                        api.Op
		ofNothing, ofOthers, own []api.Pair
		rNone, rOwn              api.Reply
	}{
		{of(api.Get, "2"), nil, others, has, api.Reply{}, had},
		{of(api.Put, ""), pairs("b", "new"), written, written, did, hadDid},
		{of(api.PutIfAbsent, "2"), pairs("b", "new"), written, has, did, had},
		{of(api.Replace, ""), nil, others, written, api.Reply{}, hadDid},
		{of(api.CompareAndSwap, "2"), nil, others, written, api.Reply{}, hadDid},
		{of(api.CompareAndSwap, "new"), nil, others, has, api.Reply{}, had},
		{of(api.CompareAndSwap, ""), nil, others, has, api.Reply{}, had},
		{of(api.Delete, ""), nil, others, others, api.Reply{}, hadDid},
		{of(api.CompareAndDelete, "2"), nil, others, others, api.Reply{}, hadDid},
		{of(api.CompareAndDelete, "new"), nil, others, has, api.Reply{}, had},
		{of(api.CompareAndDelete, ""), nil, others, has, api.Reply{}, had},
	} {
		holdDo(t, nil, x.o, x.ofNothing, x.rNone)
		holdDo(t, []api.Pair{}, x.o, x.ofNothing, x.rNone)
		holdDo(t, others, x.o, x.ofOthers, x.rNone)
		holdDo(t, has, x.o, x.own, x.rOwn)
	}
	holdDo(t, pairs("a", "1"), api.Op{Kind: api.CompareAndSwap, Key: "a", Old: "2"}, pairs("a", "1"), api.Reply{Had: true, Value: "1"})
}

// P7.2: kinds without a key answer of the whole map, whatever stands in the fields that they do not have.
func TestDoWithoutKey(t *testing.T) {
	long := strings.Repeat("l", 99)
	for _, m := range [][]api.Pair{nil, {}, pairs("", ""), pairs("a", "1"), pairs("a", "1", "b", "2"), ofKeys(strangeKeys()...)} {
		for _, o := range []api.Op{{}, {Key: "a", Value: "9", Old: "1"}, {Key: long, Value: long, Old: long}} {
			o.Kind = api.Len
			holdDo(t, m, o, m, api.Reply{N: len(m)})
			o.Kind = api.Clear
			holdDo(t, m, o, nil, api.Reply{Did: true})
			o.Kind = api.Range
			holdDo(t, m, o, m, api.Reply{Pairs: m})
			o.Kind = api.Flush
			holdDo(t, m, o, m, api.Reply{})
		}
	}
}

// P7.2, P7.4: of no kind ErrArg, too long a key or not; of too long ErrTooLong; nothing changes then.
func TestDoErrors(t *testing.T) {
	long, longValue := strings.Repeat("a", api.MaxKey+1), strings.Repeat("v", api.MaxValue+1)
	some := [][]api.Pair{nil, pairs("a", "1"), pairs("a", "1", "c", "3"), pairs(long, longValue), pairs("a", "1", long, longValue)}
	for _, m := range some {
		for _, kind := range noKinds() {
			for _, o := range []api.Op{{}, {Key: "a", Value: "2", Old: "1"}, {Key: long, Value: "2"}, {Key: "a", Value: longValue}, {Key: long, Value: longValue, Old: longValue}} {
				o.Kind = kind
				holdDo(t, m, o, m, api.Reply{Err: api.ErrArg})
			}
		}
		for _, kind := range keyKinds() {
			holdDo(t, m, api.Op{Kind: kind, Key: long, Value: "2", Old: longValue}, m, api.Reply{Err: api.ErrTooLong})
			holdDo(t, m, api.Op{Kind: kind, Key: long, Value: longValue}, m, api.Reply{Err: api.ErrTooLong})
		}
		for _, kind := range writeKinds() {
			holdDo(t, m, api.Op{Kind: kind, Key: "a", Value: longValue, Old: "1"}, m, api.Reply{Err: api.ErrTooLong})
			holdDo(t, m, api.Op{Kind: kind, Key: "b", Value: longValue}, m, api.Reply{Err: api.ErrTooLong})
		}
	}
}

// P7.2: at the limits all is done still; and what is not written, or held against what is there, may have any length.
func TestDoAtLimits(t *testing.T) {
	key, value, long := strings.Repeat("k", api.MaxKey), strings.Repeat("v", api.MaxValue), strings.Repeat("l", 99)
	holdDo(t, nil, api.Op{Kind: api.Put, Key: key, Value: value}, pairs(key, value), api.Reply{Did: true})
	holdDo(t, nil, api.Op{Kind: api.PutIfAbsent, Key: key, Value: value}, pairs(key, value), api.Reply{Did: true})
	holdDo(t, pairs(key, "1"), api.Op{Kind: api.Replace, Key: key, Value: value}, pairs(key, value), api.Reply{Had: true, Did: true, Value: "1"})
	holdDo(t, pairs(key, "1"), api.Op{Kind: api.CompareAndSwap, Key: key, Value: value, Old: "1"}, pairs(key, value), api.Reply{Had: true, Did: true, Value: "1"})
	had := api.Reply{Had: true, Value: value}
	m := pairs(key, value)
	holdDo(t, m, api.Op{Kind: api.Get, Key: key, Value: long, Old: long}, m, had)
	holdDo(t, m, api.Op{Kind: api.CompareAndSwap, Key: key, Old: long}, m, had)
	holdDo(t, m, api.Op{Kind: api.CompareAndDelete, Key: key, Value: long, Old: long}, m, had)
	had.Did = true
	holdDo(t, m, api.Op{Kind: api.Delete, Key: key, Value: long, Old: long}, nil, had)
	holdDo(t, m, api.Op{Kind: api.CompareAndDelete, Key: key, Value: long, Old: value}, nil, had)
	holdDo(t, pairs(key, long), api.Op{Kind: api.CompareAndSwap, Key: key, Value: "1", Old: long}, pairs(key, "1"), api.Reply{Had: true, Did: true, Value: long})
}

// P7.2: an empty Old is the value of a key that has "", not of one that has none.
func TestDoEmptyOld(t *testing.T) {
	for _, key := range []string{"", "k"} {
		swap := api.Op{Kind: api.CompareAndSwap, Key: key, Value: "n"}
		drop := api.Op{Kind: api.CompareAndDelete, Key: key, Value: "n"}
		for _, o := range []api.Op{swap, drop} {
			holdDo(t, nil, o, nil, api.Reply{})
			holdDo(t, pairs("z", ""), o, pairs("z", ""), api.Reply{})
			holdDo(t, pairs(key, "x"), o, pairs(key, "x"), api.Reply{Had: true, Value: "x"})
			holdDo(t, pairs(key, "\x00"), o, pairs(key, "\x00"), api.Reply{Had: true, Value: "\x00"})
		}
		holdDo(t, pairs(key, "", "z", ""), swap, pairs(key, "n", "z", ""), api.Reply{Had: true, Did: true})
		holdDo(t, pairs(key, "", "z", ""), drop, pairs("z", ""), api.Reply{Had: true, Did: true})
		holdDo(t, pairs(key, ""), api.Op{Kind: api.Get, Key: key}, pairs(key, ""), api.Reply{Had: true})
		holdDo(t, pairs(key, ""), api.Op{Kind: api.Delete, Key: key}, nil, api.Reply{Had: true, Did: true})
		holdDo(t, pairs(key, ""), api.Op{Kind: api.PutIfAbsent, Key: key, Value: "n"}, pairs(key, ""), api.Reply{Had: true})
		holdDo(t, pairs(key, ""), api.Op{Kind: api.Replace, Key: key, Value: "n"}, pairs(key, "n"), api.Reply{Had: true, Did: true})
	}
}

// P7.2: who writes the value that is there did change the key.
func TestDoSameValue(t *testing.T) {
	for _, value := range []string{"", "v"} {
		m := pairs("a", "1", "k", value)
		for _, kind := range []int{api.Put, api.Replace, api.CompareAndSwap} {
			holdDo(t, m, api.Op{Kind: kind, Key: "k", Value: value, Old: value}, m, api.Reply{Had: true, Did: true, Value: value})
		}
		holdDo(t, m, api.Op{Kind: api.PutIfAbsent, Key: "k", Value: value, Old: value}, m, api.Reply{Had: true, Value: value})
	}
}

// P7.2, P7.4: each strange key comes to its place, goes again, and is taken for no other; all others stay.
func TestDoStrangeKeys(t *testing.T) {
	whole := ofKeys(strangeKeys()...)
	for i, p := range whole {
		without := slices.Concat(whole[:i], whole[i+1:])
		had := api.Reply{Had: true, Value: p.Value}
		hadDid := api.Reply{Had: true, Did: true, Value: p.Value}
		holdDo(t, whole, api.Op{Kind: api.Get, Key: p.Key}, whole, had)
		holdDo(t, without, api.Op{Kind: api.Get, Key: p.Key}, without, api.Reply{})
		holdDo(t, whole, api.Op{Kind: api.Delete, Key: p.Key}, without, hadDid)
		holdDo(t, whole, api.Op{Kind: api.CompareAndDelete, Key: p.Key, Old: p.Value}, without, hadDid)
		holdDo(t, without, api.Op{Kind: api.Delete, Key: p.Key}, without, api.Reply{})
		holdDo(t, without, api.Op{Kind: api.Put, Key: p.Key, Value: p.Value}, whole, api.Reply{Did: true})
		holdDo(t, without, api.Op{Kind: api.PutIfAbsent, Key: p.Key, Value: p.Value}, whole, api.Reply{Did: true})
		holdDo(t, without, api.Op{Kind: api.Replace, Key: p.Key, Value: p.Value}, without, api.Reply{})
		holdDo(t, nil, api.Op{Kind: api.Put, Key: p.Key, Value: "\xff\x00"}, pairs(p.Key, "\xff\x00"), api.Reply{Did: true})
		changed := slices.Clone(whole)
		changed[i].Value = "\x80"
		holdDo(t, whole, api.Op{Kind: api.Replace, Key: p.Key, Value: "\x80"}, changed, hadDid)
		holdDo(t, whole, api.Op{Kind: api.CompareAndSwap, Key: p.Key, Value: "\x80", Old: p.Value}, changed, hadDid)
	}
}

// opsOfAllKinds: of each kind, and of none, on keys that are there and are not, done or not, too long and not.
func opsOfAllKinds() []api.Op {
	var out []api.Op
	for _, kind := range slices.Concat(allKinds(), noKinds()) {
		for _, key := range []string{"", "a", "b", "c", "d", strings.Repeat("k", 17)} {
			for _, old := range []string{"", "1", "3"} {
				for _, value := range []string{"", "1", "new", strings.Repeat("v", 25)} {
					out = append(out, api.Op{Kind: kind, Key: key, Value: value, Old: old})
				}
			}
		}
	}
	return out
}

// spoil changes each pair, and the spare room behind them.
func spoil(m []api.Pair) {
	whole := m[:cap(m)]
	for i := range whole {
		whole[i] = api.Pair{Key: "spoilt", Value: "spoilt"}
	}
}

// roomy: a map that stands in a longer list, and that list.
func roomy() (m, whole []api.Pair) {
	whole = pairs("ahead", "0", "a", "1", "c", "3", "spare", "4", "room", "5", "end", "6")
	return whole[1:3], whole
}

// P7.2, P7.3: what comes in, and its room, stays as it was; what is told is new memory, each list of its own.
func TestNewMemory(t *testing.T) {
	for _, o := range opsOfAllKinds() {
		m, whole := roomy()
		was := slices.Clone(whole)
		behind, r := Do(m, o)
		wantBehind, wantPairs := slices.Clone(behind), slices.Clone(r.Pairs)
		spoil(r.Pairs)
		if !slices.Equal(behind, wantBehind) || !slices.Equal(whole, was) {
			t.Errorf("%#v: the pairs are not new memory", o)
		}
		behind, r = Do(m, o)
		spoil(behind)
		if !slices.Equal(r.Pairs, wantPairs) || !slices.Equal(whole, was) {
			t.Errorf("%#v: the map is not new memory", o)
		}
		behind, r = Do(m, o)
		spoil(whole)
		if !slices.Equal(behind, wantBehind) || !slices.Equal(r.Pairs, wantPairs) {
			t.Errorf("%#v: the map that came in was kept", o)
		}
	}
}

// P7.3: the same of Allows, whether it allows the answer, allows that there was no room, or does not.
func TestAllowsNewMemory(t *testing.T) {
	for _, o := range opsOfAllKinds() {
		for part := range 3 {
			m, whole := roomy()
			was := slices.Clone(whole)
			_, done := Do(m, o)
			r := []api.Reply{done, {Err: api.ErrNoMem}, {N: -1}}[part]
			room := slices.Clone(r.Pairs)
			r.Pairs = append(slices.Clone(r.Pairs), api.Pair{Key: "room"})[:len(room)]
			behind, _ := Allows(m, o, r)
			want := slices.Clone(behind)
			spoil(behind)
			if !slices.Equal(whole, was) || !slices.Equal(r.Pairs, room) || r.Pairs[:len(room)+1][len(room)].Key != "room" {
				t.Errorf("%#v, %#v: what came in was changed", o, r)
			}
			behind, _ = Allows(m, o, r)
			spoil(whole)
			spoil(r.Pairs)
			if !slices.Equal(behind, want) {
				t.Errorf("%#v, %#v: what came in was kept", o, r)
			}
		}
	}
}

// otherReplies: answers that differ from r in one field.
func otherReplies(r api.Reply) []api.Reply {
	var out []api.Reply
	change := func(f func(r *api.Reply)) {
		other := r
		other.Pairs = slices.Clone(r.Pairs)
		f(&other)
		out = append(out, other)
	}
	for _, err := range []api.Errno{api.OK, api.ErrArg, api.ErrForm, api.ErrLong, api.ErrTooLong, api.ErrState, -1, math.MaxInt, math.MinInt} {
		if err != r.Err {
			change(func(r *api.Reply) { r.Err = err })
		}
	}
	change(func(r *api.Reply) { r.Had = !r.Had })
	change(func(r *api.Reply) { r.Did = !r.Did })
	change(func(r *api.Reply) { r.Value += "x" })
	change(func(r *api.Reply) { r.N++ })
	change(func(r *api.Reply) { r.N = math.MinInt })
	change(func(r *api.Reply) { r.Pairs = append(r.Pairs, api.Pair{Key: "z", Value: "z"}) })
	for i := range r.Pairs {
		change(func(r *api.Reply) { r.Pairs[i].Value += "x" })
		change(func(r *api.Reply) { r.Pairs = slices.Delete(r.Pairs, i, i+1) })
	}
	return out
}

// holdRefused: such an answer is not allowed, and m is told.
func holdRefused(t *testing.T, m []api.Pair, o api.Op, r api.Reply) {
	t.Helper()
	if n, is := Allows(m, o, r); is || !slices.Equal(n, m) {
		t.Errorf("%q, %#v, %#v: %q, %v", m, o, r, n, is)
	}
}

// P7.3: Do's answer with Do's map; else, in whichever field it differs, m and false.
func TestAllows(t *testing.T) {
	for _, m := range [][]api.Pair{nil, {}, pairs("a", "1"), pairs("a", "1", "c", "3"), ofKeys(strangeKeys()...)} {
		for _, o := range opsOfAllKinds() {
			behind, r := Do(m, o)
			if n, is := Allows(m, o, r); !is || !slices.Equal(n, behind) {
				t.Errorf("%q, %#v, %#v: %q, %v", m, o, r, n, is)
			}
			for _, other := range otherReplies(r) {
				holdRefused(t, m, o, other)
			}
		}
	}
	m := pairs("a", "1", "b", "2")
	holdRefused(t, m, api.Op{Kind: api.Range}, api.Reply{Pairs: pairs("b", "2", "a", "1")})
	if n, is := Allows(nil, api.Op{Kind: api.Range}, api.Reply{Pairs: []api.Pair{}}); !is || len(n) != 0 {
		t.Error("empty pairs of nil:", n, is)
	}
	if n, is := Allows([]api.Pair{}, api.Op{Kind: api.Flush}, api.Reply{Pairs: []api.Pair{}}); !is || len(n) != 0 {
		t.Error("empty pairs of Flush:", n, is)
	}
}

// P7.3, P7.4: ErrNoMem alone changes nothing; with anything beside it, or of what cannot run out, it is not allowed.
func TestAllowsNoRoom(t *testing.T) {
	beside := []api.Reply{{Had: true}, {Did: true}, {Value: "1"}, {Value: "\x00"}, {N: 2}, {N: -1}, {Pairs: []api.Pair{{}}}, {Pairs: pairs("a", "1", "c", "3")}, {Had: true, Value: "1"}}
	for _, m := range [][]api.Pair{nil, pairs("a", "1"), pairs("a", "1", "c", "3")} {
		for _, o := range opsOfAllKinds() {
			want := slices.Contains(allKinds(), o.Kind) && o.Kind != api.Flush && !Long(o)
			for _, none := range [][]api.Pair{nil, {}} {
				if n, is := Allows(m, o, api.Reply{Err: api.ErrNoMem, Pairs: none}); is != want || !slices.Equal(n, m) {
					t.Errorf("%q, %#v: %q, %v", m, o, n, is)
				}
			}
			for _, r := range beside {
				r.Err = api.ErrNoMem
				holdRefused(t, m, o, r)
			}
			_, r := Do(m, o)
			r.Err = api.ErrNoMem
			if !alike(r, api.Reply{Err: api.ErrNoMem}) {
				holdRefused(t, m, o, r)
			}
		}
	}
}

// P7.4: all but Clear change no key but their own, and what has an Err changes nothing.
func TestKeeps(t *testing.T) {
	for _, m := range [][]api.Pair{nil, pairs("a", "1"), pairs("", "", "a", "1", "b", "3"), pairs("a", "1", "c", "3"), ofKeys(strangeKeys()...)} {
		for _, o := range opsOfAllKinds() {
			behind, r := Do(m, o)
			if !Right(behind) {
				t.Errorf("%q, %#v: %q does not rise", m, o, behind)
			}
			if o.Kind == api.Clear {
				continue
			}
			own := slices.Contains(keyKinds(), o.Kind)
			others := func(m []api.Pair) []api.Pair {
				return slices.DeleteFunc(slices.Clone(m), func(p api.Pair) bool { return own && p.Key == o.Key })
			}
			if !slices.Equal(others(m), others(behind)) {
				t.Errorf("%q, %#v: %q", m, o, behind)
			}
			if (r.Err != api.OK || !r.Did) && !slices.Equal(m, behind) {
				t.Errorf("%q, %#v, %#v: changed to %q", m, o, r, behind)
			}
		}
	}
}

// P7.2, P7.3: of pairs whose keys do not rise both end.
func TestNotRight(t *testing.T) {
	many := strangeKeys()
	slices.Reverse(many)
	for _, keys := range [][]string{{"a", "a"}, {"b", "a"}, {"", "", ""}, {"a", "b", "a"}, {"c", "a", "b", "a", "c"}, many, slices.Concat(many, many)} {
		m := ofKeys(keys...)
		was := slices.Clone(m)
		for _, o := range opsOfAllKinds() {
			behind, r := Do(m, o)
			spoil(behind)
			spoil(r.Pairs)
			for _, r := range []api.Reply{{}, r, {Err: api.ErrNoMem}} {
				behind, _ = Allows(m, o, r)
				spoil(behind)
			}
			if !slices.Equal(m, was) {
				t.Fatalf("%q, %#v: was changed to %q", was, o, m)
			}
		}
	}
}

// plainDo is Do on a map of the language's own, said once more by what each kind leaves in it.
func plainDo(m map[string]string, o api.Op) api.Reply {
	value, had := m[o.Key]
	r := api.Reply{Had: had, Value: value}
	same := had && value == o.Old
	switch {
	case o.Kind == api.Len:
		return api.Reply{N: len(m)}
	case o.Kind == api.Clear:
		clear(m)
		return api.Reply{Did: true}
	case o.Kind == api.Range:
		return api.Reply{Pairs: pairsOfPlain(m)}
	case o.Kind == api.Flush:
		return api.Reply{}
	case o.Kind < api.Get || o.Kind > api.Flush:
		return api.Reply{Err: api.ErrArg}
	case len(o.Key) > 16 || len(o.Value) > 24 && slices.Contains(writeKinds(), o.Kind):
		return api.Reply{Err: api.ErrTooLong}
	case o.Kind == api.Put, o.Kind == api.PutIfAbsent && !had, o.Kind == api.Replace && had, o.Kind == api.CompareAndSwap && same:
		m[o.Key] = o.Value
		r.Did = true
	case o.Kind == api.Delete && had, o.Kind == api.CompareAndDelete && same:
		delete(m, o.Key)
		r.Did = true
	}
	return r
}

func pairsOfPlain(m map[string]string) []api.Pair {
	var out []api.Pair
	for _, key := range slices.Sorted(maps.Keys(m)) {
		out = append(out, api.Pair{Key: key, Value: m[key]})
	}
	return out
}

// scatter hands out numbers that look like chance, the same for the same seed.
func scatter(seed uint64) func(n int) int {
	w := seed*0x9e3779b97f4a7c15 + 1
	return func(n int) int {
		w = w*6364136223846793005 + 1442695040888963407
		return int(w >> 33 % uint64(n))
	}
}

// scatteredOp: an operation of any kind; Clear, which would leave little to do, and what is none come seldom.
func scatteredOp(next func(int) int) api.Op {
	keys, values := append(strangeKeys(), strings.Repeat("k", 17)), []string{"", "1", "2", "\xff", strings.Repeat("v", 24), strings.Repeat("v", 25)}
	o := api.Op{Kind: keyKinds()[next(7)], Key: keys[next(len(keys))], Value: values[next(len(values))], Old: values[next(len(values))]}
	if next(4) == 0 {
		o.Kind = allKinds()[7+next(4)]
	}
	if o.Kind == api.Clear && next(8) > 0 {
		o.Kind = api.Put
	}
	if next(40) == 0 {
		o.Kind = noKinds()[next(len(noKinds()))]
	}
	return o
}

// P7.1 to P7.4: long rows of operations, held against a plain map; now and then there is no room.
func TestLongRows(t *testing.T) {
	for seed := range uint64(20) {
		next := scatter(seed)
		var m []api.Pair
		plain := map[string]string{}
		for step := range 2000 {
			o := scatteredOp(next)
			if next(10) == 0 {
				n, is := Allows(m, o, api.Reply{Err: api.ErrNoMem})
				_, r := Do(m, o)
				if is != (r.Err == api.OK && o.Kind != api.Flush) || !slices.Equal(n, m) {
					t.Fatalf("seed %d, step %d, %#v: no room: %q, %v", seed, step, o, n, is)
				}
				m = n
				continue
			}
			want := plainDo(plain, o)
			n, r := Do(m, o)
			p, is := Allows(m, o, want)
			if !alike(r, want) || !is || !slices.Equal(n, p) || !slices.Equal(n, pairsOfPlain(plain)) || !Right(n) {
				t.Fatalf("seed %d, step %d, %#v: %q, %#v, not %q, %#v", seed, step, o, n, r, pairsOfPlain(plain), want)
			}
			m = n
		}
	}
}

// P7.2: a map of many keys, come in all orders.
func TestManyKeys(t *testing.T) {
	next := scatter(7)
	var m []api.Pair
	plain := map[string]string{}
	for range 1500 {
		key := strings.Repeat(string([]byte{byte(next(256))}), 1+next(3)) + string([]byte{byte(next(256))})
		o := api.Op{Kind: []int{api.Put, api.Put, api.PutIfAbsent, api.Delete}[next(4)], Key: key, Value: key}
		want := plainDo(plain, o)
		n, r := Do(m, o)
		if !alike(r, want) {
			t.Fatalf("%#v: %#v, not %#v", o, r, want)
		}
		m = n
	}
	if !slices.Equal(m, pairsOfPlain(plain)) || len(m) < 500 {
		t.Errorf("%d pairs, not %d", len(m), len(plain))
	}
}
