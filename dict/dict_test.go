package dict

import (
	"maps"
	"slices"
	"strings"
	"testing"
)

// risingKeys: by rising keys, written out: none, beginnings of one another, last bytes that differ, bytes at the edges, and no UTF-8.
func risingKeys() []string {
	return []string{
		"", "\x00", "\x00\x00", "\x00\x01", "\x00\xff", "\x01", "A", "Z", "a", "a\x00", "a\x00b",
		"aa", "aaa", "aab", "ab", "abc", "abd", "a\x7f", "a\x80", "a\xff", "b", "ba", "key 1", "key 10", "key 2", "\x7f", "\x7f\xff", "\x80", "\x80\x00",
		"\xc2", "\xc3\x28", "\u00e9", "\u00ea", "\ufffd", "\U0001f600", "\xfe", "\xff", "\xff\x00", "\xff\xfe", "\xff\xff",
		"\xff\xff\x00",
	}
}

func mixed(keys []string) []string {
	out := slices.Clone(keys)
	w := uint64(0x9e3779b97f4a7c15)
	for i := len(out) - 1; i > 0; i-- {
		w = w*6364136223846793005 + 1442695040888963407
		j := int(w >> 33 % uint64(i+1))
		out[i], out[j] = out[j], out[i]
	}
	return out
}

func falling(keys []string) []string {
	out := slices.Clone(keys)
	slices.Reverse(out)
	return out
}

func keysOf[V any](m *Map[V]) []string {
	var out []string
	for key := range m.All() {
		out = append(out, key)
	}
	return out
}

// mapOf: each key has its place in keys, and one more, as its value.
func mapOf(keys ...string) *Map[int] {
	m := New[int]()
	for i, key := range keys {
		m.Put(key, i+1)
	}
	return m
}

// hold: m has just what want has, whichever call is asked.
func hold[V comparable](t *testing.T, what string, m *Map[V], want map[string]V) {
	t.Helper()
	keys := slices.Sorted(maps.Keys(want))
	if n := m.Len(); n != len(keys) {
		t.Errorf("%q: Len %d, not %d", what, n, len(keys))
	}
	i := 0
	for key, value := range m.All() {
		if i >= len(keys) || key != keys[i] || value != want[key] {
			t.Errorf("%q: All tells %q with %v as pair %d", what, key, value, i)
		}
		i++
	}
	if i != len(keys) {
		t.Errorf("%q: All tells %d pairs, not %d", what, i, len(keys))
	}
	for _, key := range slices.Concat(keys, risingKeys()) {
		value, has := want[key]
		if v, is := m.Get(key); v != value || is != has {
			t.Errorf("%q: Get of %q is %v, %v, not %v, %v", what, key, v, is, value, has)
		}
	}
}

// P6.1: a map of New's has nothing, and each key answers so.
func TestNothingYet(t *testing.T) {
	m := New[int]()
	hold(t, "new", m, nil)
	for _, key := range risingKeys() {
		if v, is := m.Delete(key); v != 0 || is {
			t.Errorf("Delete of %q: %d, %v", key, v, is)
		}
	}
	hold(t, "behind Delete", m, nil)
	New[int]().Put("a", 1)
	hold(t, "behind Put to another one", m, nil)
}

// P6.1: Put tells what the key had ahead of it, however often it is put, and no other key changes.
func TestPut(t *testing.T) {
	m := New[int]()
	want := map[string]int{}
	for round := range 3 {
		for i, key := range mixed(risingKeys()) {
			was, had := want[key]
			if v, is := m.Put(key, 100*round+i); v != was || is != had {
				t.Errorf("round %d: Put of %q: %d, %v, not %d, %v", round, key, v, is, was, had)
			}
			want[key] = 100*round + i
			hold(t, "behind Put of "+key, m, want)
		}
	}
}

// P6.1: Delete takes out its key alone, tells what it had, and a second time that it has none.
func TestDelete(t *testing.T) {
	for _, key := range risingKeys() {
		m := New[int]()
		want := map[string]int{}
		for i, k := range risingKeys() {
			m.Put(k, i+1)
			want[k] = i + 1
		}
		if v, is := m.Delete(key); v != want[key] || !is {
			t.Errorf("Delete of %q: %d, %v", key, v, is)
		}
		delete(want, key)
		hold(t, "without "+key, m, want)
		if v, is := m.Delete(key); v != 0 || is {
			t.Errorf("Delete of %q again: %d, %v", key, v, is)
		}
		hold(t, "still without "+key, m, want)
		if v, is := m.Put(key, -1); v != 0 || is {
			t.Errorf("Put of %q behind its Delete: %d, %v", key, v, is)
		}
		want[key] = -1
		hold(t, "again with "+key, m, want)
	}
}

// P6.1: the only key goes, and comes again; so does each key of many, from the first on and from the last on.
func TestDeleteToNothing(t *testing.T) {
	for _, key := range risingKeys() {
		m := mapOf(key)
		m.Delete(key)
		hold(t, "without its only key", m, nil)
		m.Put(key, 7)
		hold(t, "with it again", m, map[string]int{key: 7})
	}
	for _, keys := range [][]string{risingKeys(), falling(risingKeys()), mixed(risingKeys())} {
		m := mapOf(risingKeys()...)
		for i, key := range keys {
			if v, is := m.Delete(key); v != slices.Index(risingKeys(), key)+1 || !is {
				t.Errorf("Delete of %q: %d, %v", key, v, is)
			}
			if n := m.Len(); n != len(keys)-i-1 {
				t.Errorf("behind Delete of %q: Len %d", key, n)
			}
		}
		hold(t, "without any", m, nil)
	}
}

// P6.1: keys that are not there answer none, though others begin like them, or they like others.
func TestKeysBeside(t *testing.T) {
	for _, key := range risingKeys() {
		m := mapOf(key)
		for _, other := range []string{key + "\x00", key + "\xff", key + key + "x", "\x00" + key + "\x00", strings.ToUpper(key) + "!"} {
			if v, is := m.Get(other); v != 0 || is {
				t.Errorf("of %q Get of %q: %d, %v", key, other, v, is)
			}
			if v, is := m.Delete(other); v != 0 || is {
				t.Errorf("of %q Delete of %q: %d, %v", key, other, v, is)
			}
		}
		for n := range len(key) {
			if v, is := m.Get(key[:n]); v != 0 || is {
				t.Errorf("of %q Get of %q: %d, %v", key, key[:n], v, is)
			}
		}
		hold(t, "of one key", m, map[string]int{key: 1})
	}
}

type point struct {
	x, y int
	name string
}

// P6.1: a zero value that was put is there; one of a key that has none is not.
func zeroIsAValue[V comparable](t *testing.T, what string, some V) {
	t.Helper()
	var zero V
	m := New[V]()
	if v, is := m.Put("z", zero); v != zero || is {
		t.Error(what, "put first:", v, is)
	}
	if v, is := m.Get("z"); v != zero || !is || m.Len() != 1 {
		t.Error(what, "got:", v, is)
	}
	if v, is := m.Put("z", some); v != zero || !is {
		t.Error(what, "put behind zero:", v, is)
	}
	if v, is := m.Put("z", zero); v != some || !is {
		t.Error(what, "put zero behind it:", v, is)
	}
	m.Put("y", some)
	hold(t, what, m, map[string]V{"z": zero, "y": some})
	hold(t, what+" copied", m.Copy(), map[string]V{"z": zero, "y": some})
	if v, is := m.Delete("z"); v != zero || !is {
		t.Error(what, "deleted:", v, is)
	}
	if v, is := m.Delete("y"); v != some || !is {
		t.Error(what, "deleted:", v, is)
	}
	hold(t, what+" without any", m, nil)
}

// P6.1: values of several types.
func TestValuesOfTypes(t *testing.T) {
	zeroIsAValue(t, "int", -5)
	zeroIsAValue(t, "uint64", ^uint64(0))
	zeroIsAValue(t, "string", "text")
	zeroIsAValue(t, "bool", true)
	zeroIsAValue(t, "array", [3]byte{0, 0, 1})
	zeroIsAValue(t, "struct", point{1, 2, "p"})
	zeroIsAValue(t, "pointer", &point{})
	zeroIsAValue[any](t, "interface", 3)
	m := New[[]int]()
	m.Put("none", nil)
	m.Put("some", []int{1, 2})
	if v, is := m.Get("none"); v != nil || !is {
		t.Error("nil list:", v, is)
	}
	if v, is := m.Delete("some"); !slices.Equal(v, []int{1, 2}) || !is {
		t.Error("list:", v, is)
	}
	inner := New[*Map[int]]()
	inner.Put("m", mapOf("a", "b"))
	if v, is := inner.Get("m"); !is || v.Len() != 2 {
		t.Error("map of maps:", is)
	}
	empty := New[struct{}]()
	empty.Put("b", struct{}{})
	empty.Put("a", struct{}{})
	hold(t, "no bytes", empty, map[string]struct{}{"a": {}, "b": {}})
}

// P6.2: Len counts keys, not what was put.
func TestLen(t *testing.T) {
	m := New[string]()
	for i, key := range mixed(risingKeys()) {
		for range 3 {
			m.Put(key, "v")
			if n := m.Len(); n != i+1 {
				t.Errorf("behind Put of %q: %d, not %d", key, n, i+1)
			}
		}
	}
}

// P6.2: All of none, of one, of many; as often as it is gone through, and as the map then is.
func TestAll(t *testing.T) {
	m := New[int]()
	all := m.All()
	told := func() string {
		text := ""
		for key, value := range all {
			text += key + strings.Repeat(".", value)
		}
		return text
	}
	steps := []struct {
		do   func()
		want string
	}{
		{func() {}, ""},
		{func() { m.Put("b", 1) }, "b."},
		{func() { m.Put("a", 2) }, "a..b."},
		{func() { m.Put("c", 3) }, "a..b.c..."},
		{func() { m.Put("b", 4) }, "a..b....c..."},
		{func() { m.Delete("a") }, "b....c..."},
		{func() { m.Delete("c") }, "b...."},
		{func() { m.Delete("b") }, ""},
		{func() { m.Put("", 1) }, "."},
	}
	for i, step := range steps {
		step.do()
		for range 2 {
			if text := told(); text != step.want {
				t.Errorf("step %d: %q, not %q", i, text, step.want)
			}
		}
		if keys := keysOf(m); strings.Join(keys, "") != strings.ReplaceAll(step.want, ".", "") {
			t.Errorf("step %d: %q", i, keys)
		}
	}
}

// P6.2: All ends where it is left, at the first pair or a later one, and begins anew then.
func TestAllLeft(t *testing.T) {
	m := mapOf(risingKeys()...)
	all := m.All()
	for many := 1; many <= m.Len(); many++ {
		var keys []string
		for key := range all {
			keys = append(keys, key)
			if len(keys) == many {
				break
			}
		}
		if !slices.Equal(keys, risingKeys()[:many]) {
			t.Errorf("left behind %d: %q", many, keys)
		}
		asked := 0
		all(func(string, int) bool {
			asked++
			return asked < many
		})
		if asked != many {
			t.Errorf("left behind %d, asked %d times", many, asked)
		}
	}
	if !slices.Equal(keysOf(m), risingKeys()) {
		t.Error("behind all that")
	}
}

// P6.2: All gone through within itself tells each pair of pairs.
func TestAllWithinAll(t *testing.T) {
	m := mapOf("c", "a", "b")
	text := ""
	for x := range m.All() {
		for y := range m.All() {
			text += x + y + " "
		}
	}
	if text != "aa ab ac ba bb bc ca cb cc " {
		t.Error(text)
	}
}

// P6.2, P6.3: who changes the map while All is gone through is told each key that it had once, in order; and All ends.
func TestAllWhileChanged(t *testing.T) {
	changes := map[string]func(m *Map[int], key string){
		"delete it":      func(m *Map[int], key string) { m.Delete(key) },
		"delete all":     func(m *Map[int], key string) { clearOut(m) },
		"put it":         func(m *Map[int], key string) { m.Put(key, -1) },
		"put one ahead":  func(m *Map[int], key string) { m.Put("", 0) },
		"put one behind": func(m *Map[int], key string) { m.Put(key+"\x00", 0) },
		"put others": func(m *Map[int], key string) {
			for _, k := range risingKeys() {
				m.Put(k, -2)
			}
		},
	}
	for what, change := range changes {
		m := mapOf("b", "c", "a", "d")
		var keys []string
		for key := range m.All() {
			keys = append(keys, key)
			change(m, key)
		}
		if !slices.Equal(keys, []string{"a", "b", "c", "d"}) {
			t.Errorf("%s: %q", what, keys)
		}
		if keys := keysOf(m); !slices.IsSorted(keys) || len(keys) != m.Len() {
			t.Errorf("%s: behind it %q", what, keys)
		}
	}
}

func clearOut(m *Map[int]) {
	for _, key := range keysOf(m) {
		m.Delete(key)
	}
}

// P6.3: whatever order keys came in, each is told once, in order, with what was put last.
func TestOrder(t *testing.T) {
	rising := risingKeys()
	rows := [][]string{rising, falling(rising), mixed(rising), mixed(falling(rising)),
		slices.Concat(rising, rising), slices.Concat(rising, falling(rising)), slices.Concat(falling(rising), mixed(rising), rising)}
	for i, row := range rows {
		m := New[int]()
		want := map[string]int{}
		for n, key := range row {
			m.Put(key, n)
			want[key] = n
		}
		hold(t, "row", m, want)
		if keys := keysOf(m); !slices.Equal(keys, rising) {
			t.Errorf("row %d: %q", i, keys)
		}
	}
	if keys := keysOf(mapOf("b", "a")); !slices.Equal(keys, []string{"a", "b"}) {
		t.Errorf("the chapter's example: %q", keys)
	}
}

// orders: each order of the keys.
func orders(keys []string) [][]string {
	if len(keys) == 0 {
		return [][]string{nil}
	}
	var out [][]string
	for i := range keys {
		rest := slices.Delete(slices.Clone(keys), i, i+1)
		for _, o := range orders(rest) {
			out = append(out, append(o, keys[i]))
		}
	}
	return out
}

// P6.3: each order of six keys, in which they are put, and in which they are deleted.
func TestEveryOrder(t *testing.T) {
	rising := []string{"", "\x00", "a", "a\x00", "ab", "\xff"}
	for _, order := range orders(rising) {
		m := mapOf(order...)
		if keys := keysOf(m); !slices.Equal(keys, rising) {
			t.Fatalf("put as %q: %q", order, keys)
		}
		left := slices.Clone(rising)
		for _, key := range order {
			m.Delete(key)
			left = slices.DeleteFunc(left, func(k string) bool { return k == key })
			if keys := keysOf(m); !slices.Equal(keys, left) {
				t.Fatalf("deleted as %q: %q, not %q", order, keys, left)
			}
		}
	}
}

// P6.2, P6.3: a copy has the same, and what is done to either changes nothing of the other.
func TestCopy(t *testing.T) {
	one := map[string]int{"a": 1, "b": 2, "c": 3}
	changes := map[string]func(m *Map[int]){
		"put a new key first": func(m *Map[int]) { m.Put("", 9) },
		"put a new key":       func(m *Map[int]) { m.Put("bb", 9) },
		"put a new key last":  func(m *Map[int]) { m.Put("d", 9) },
		"put a key":           func(m *Map[int]) { m.Put("b", 9) },
		"delete the first":    func(m *Map[int]) { m.Delete("a") },
		"delete the last":     func(m *Map[int]) { m.Delete("c") },
		"delete all":          clearOut,
		"delete and put":      func(m *Map[int]) { m.Delete("c"); m.Put("d", 9) },
	}
	for what, change := range changes {
		m := mapOf("a", "b", "c")
		c := m.Copy()
		hold(t, "copy", c, one)
		change(c)
		hold(t, what+" of the copy: the map", m, one)
		m = mapOf("a", "b", "c")
		c = m.Copy()
		change(m)
		hold(t, what+" of the map: the copy", c, one)
		change(c)
		if !slices.Equal(keysOf(c), keysOf(m)) {
			t.Errorf("%s of both: %q, %q", what, keysOf(c), keysOf(m))
		}
	}
}

// P6.2, P6.3: both grow out of one map, wherever its spare room ends.
func TestCopyGrows(t *testing.T) {
	for many := range 40 {
		m := mapOf(risingKeys()[:many]...)
		c := m.Copy()
		m.Put("~m", -1)
		c.Put("~c", -2)
		c2 := c.Copy()
		c2.Put("~d", -3)
		c.Delete("~c")
		want := map[string]int{}
		for i, key := range risingKeys()[:many] {
			want[key] = i + 1
		}
		hold(t, "copy without its own", c, want)
		want["~m"] = -1
		hold(t, "map", m, want)
		delete(want, "~m")
		want["~c"], want["~d"] = -2, -3
		hold(t, "copy of the copy", c2, want)
	}
}

// P6.2: a copy of a map that has nothing, and copies of copies, take keys of their own.
func TestCopyOfNothing(t *testing.T) {
	m := New[int]()
	c := m.Copy()
	cc := c.Copy()
	if c == nil || cc == nil || c == m || cc == c {
		t.Fatal("no map of its own")
	}
	c.Put("c", 1)
	cc.Put("cc", 2)
	hold(t, "map", m, nil)
	hold(t, "copy", c, map[string]int{"c": 1})
	hold(t, "copy of the copy", cc, map[string]int{"cc": 2})
	m.Put("m", 3)
	hold(t, "copy", c, map[string]int{"c": 1})
	emptied := mapOf("a", "b")
	clearOut(emptied)
	e := emptied.Copy()
	e.Put("e", 4)
	hold(t, "emptied", emptied, nil)
	hold(t, "its copy", e, map[string]int{"e": 4})
}

// P6.2: a sequence of the map tells nothing of its copy, and stays the map's.
func TestAllOfCopy(t *testing.T) {
	m := mapOf("a", "b")
	all := m.All()
	c := m.Copy()
	c.Put("c", 3)
	m.Delete("a")
	text := ""
	for key := range all {
		text += key
	}
	if text != "b" || !slices.Equal(keysOf(c), []string{"a", "b", "c"}) {
		t.Error(text, keysOf(c))
	}
}

// P6.1, P6.2, wrong inputs: a nil map, and one that New did not make: zero values, false, 0, nothing; Put does nothing.
func TestNobodyMade(t *testing.T) {
	var none *Map[point]
	for what, m := range map[string]*Map[point]{"nil": none, "plain": {}, "new": new(Map[point]), "copy of nil": none.Copy(), "copy of plain": (&Map[point]{}).Copy()} {
		for range 2 {
			if m.All() == nil {
				t.Fatal(what, "has no sequence")
			}
			hold(t, what, m, nil)
			for _, key := range risingKeys() {
				if v, is := m.Put(key, point{1, 2, "p"}); v != (point{}) || is {
					t.Error(what, "Put:", v, is)
				}
				if v, is := m.Get(key); v != (point{}) || is {
					t.Error(what, "Get:", v, is)
				}
				if v, is := m.Delete(key); v != (point{}) || is {
					t.Error(what, "Delete:", v, is)
				}
			}
		}
		if c := m.Copy(); c != nil {
			t.Error(what, "has a copy")
		}
	}
}

// P6.1 to P6.3: long rows of calls in a mixed order against a map of the language's own, sorted.
func TestLongRows(t *testing.T) {
	keys := risingKeys()
	w := uint64(1)
	next := func(n int) int {
		w = w*6364136223846793005 + 1442695040888963407
		return int(w >> 33 % uint64(n))
	}
	for row := range 60 {
		m := New[int]()
		want := map[string]int{}
		few := 1 + next(len(keys))
		for n := range 400 {
			key := keys[next(few)]
			was, had := want[key]
			v, is := was, had
			switch next(4) {
			case 0, 1:
				v, is = m.Put(key, n)
				want[key] = n
			case 2:
				v, is = m.Delete(key)
				delete(want, key)
			default:
				v, is = m.Get(key)
			}
			if v != was || is != had {
				t.Fatalf("row %d, call %d of %q: %d, %v, not %d, %v", row, n, key, v, is, was, had)
			}
			if next(20) == 0 {
				old := m
				m = m.Copy()
				old.Put("old", -1)
				clearOut(old)
			}
			if next(10) == 0 {
				hold(t, "row", m, want)
			}
		}
		hold(t, "row's end", m, want)
	}
}

// P6.3: many keys, of many lengths.
func TestManyKeys(t *testing.T) {
	m := New[int]()
	want := map[string]int{}
	w := uint64(3)
	for n := range 20000 {
		w = w*6364136223846793005 + 1442695040888963407
		raw := make([]byte, w>>60)
		for i := range raw {
			raw[i] = byte(w >> (8 * (i % 7)) * uint64(i+1))
		}
		key := string(raw)
		was, had := want[key]
		if v, is := m.Put(key, n); v != was || is != had {
			t.Fatalf("%q: %d, %v", key, v, is)
		}
		want[key] = n
	}
	hold(t, "many", m, want)
	hold(t, "many copied", m.Copy(), want)
}

// P6.1: a key of many bytes, and ones that differ from it in their last byte, or end ahead of it.
func TestLongKeys(t *testing.T) {
	long := strings.Repeat("\xff\x00", 1<<19)
	m := mapOf(long+"b", long, long+"a", long[1:])
	want := map[string]int{long + "b": 1, long: 2, long + "a": 3, long[1:]: 4}
	hold(t, "long", m, want)
	if !slices.Equal(keysOf(m), []string{long[1:], long, long + "a", long + "b"}) {
		t.Error("order")
	}
}

// The key that is put may be made of bytes that are used again; the map's stays.
func TestKeyStays(t *testing.T) {
	raw := []byte("abc")
	m := New[int]()
	m.Put(string(raw), 1)
	raw[0] = 'z'
	hold(t, "key", m, map[string]int{"abc": 1})
}
