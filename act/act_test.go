package act

import (
	"maps"
	"math"
	"slices"
	"strings"
	"testing"

	"sprocket/api"
	"sprocket/arena"
)

const top = math.MaxUint64

// most18: the greatest number of 18 digits.
const most18 = 999999999999999999

// form: a kind, what its text begins with, and which fields it has.
type form struct {
	kind                   int
	name                   string
	block, cell, old, next bool
}

func forms() []form {
	return []form{
		{kind: 0, name: "none"},
		{kind: 1, name: "load", block: true, cell: true},
		{kind: 2, name: "store", block: true, cell: true, next: true},
		{kind: 3, name: "cas", block: true, cell: true, old: true, next: true},
		{kind: 4, name: "add", block: true, cell: true, next: true},
		{kind: 5, name: "alloc", cell: true},
		{kind: 6, name: "free", block: true},
	}
}

// noKinds: numbers of kinds that there are none of.
func noKinds() []int {
	return []int{-1, -2, -3, -6, 7, 8, 255, 256, 257, 1<<32 + 1, 1<<32 + 5, math.MaxInt, math.MaxInt - 1, math.MinInt, math.MinInt + 1}
}

// wordText: a word, and its text.
type wordText struct {
	w    uint64
	text string
}

func wordTexts() []wordText {
	return []wordText{
		{0, "0"}, {1, "1"}, {7, "7"}, {10, "10"}, {65536, "65536"}, {1 << 32, "4294967296"},
		{most18, "999999999999999999"}, {most18 + 1, "1000000000000000000"},
		{1<<63 - 1, "9223372036854775807"}, {1 << 63, "9223372036854775808"},
		{top - 1, "18446744073709551614"}, {top, "18446744073709551615"},
	}
}

// cellText: a cell, its text, and whether that has so few digits that it is read.
type cellText struct {
	cell int
	text string
	read bool
}

func cellTexts() []cellText {
	return []cellText{
		{0, "0", true}, {1, "1", true}, {8, "8", true}, {10, "10", true}, {65536, "65536", true}, {1 << 32, "4294967296", true},
		{most18 - 1, "999999999999999998", true}, {most18, "999999999999999999", true},
		{most18 + 1, "1000000000000000000", false}, {math.MaxInt - 1, "9223372036854775806", false}, {math.MaxInt, "9223372036854775807", false},
	}
}

func badCells() []int {
	return []int{-1, -2, -65536, math.MinInt32, math.MinInt, math.MinInt + 1, -most18}
}

// told: an act that may be, its text, and whether that is read.
type told struct {
	x    api.Act
	text string
	read bool
}

// allTold: acts that may be of every kind, with each of the words and cells above in each of their fields.
func allTold() []told {
	var out []told
	for _, f := range forms() {
		rows := []told{{api.Act{Kind: f.kind}, f.name, true}}
		if f.block {
			rows = spread(rows, func(r told) []told { return withWords(r, func(x *api.Act, w uint64) { x.Block = w }) })
		}
		if f.cell {
			rows = spread(rows, func(r told) []told { return withCells(r) })
		}
		if f.old {
			rows = spread(rows, func(r told) []told { return withWords(r, func(x *api.Act, w uint64) { x.Old = w }) })
		}
		if f.next {
			rows = spread(rows, func(r told) []told { return withWords(r, func(x *api.Act, w uint64) { x.New = w }) })
		}
		out = append(out, rows...)
	}
	return out
}

func spread(rows []told, with func(told) []told) []told {
	var out []told
	for _, r := range rows {
		out = append(out, with(r)...)
	}
	return out
}

func withWords(r told, put func(*api.Act, uint64)) []told {
	var out []told
	for _, w := range wordTexts() {
		one := told{r.x, r.text + " " + w.text, r.read}
		put(&one.x, w.w)
		out = append(out, one)
	}
	return out
}

func withCells(r told) []told {
	var out []told
	for _, c := range cellTexts() {
		if r.x.Kind == api.Alloc && c.cell == 0 {
			continue
		}
		one := told{r.x, r.text + " " + c.text, r.read && c.read}
		one.x.Cell = c.cell
		out = append(out, one)
	}
	return out
}

// wrong: acts that may not be: of no kind, with a field that the kind has not, with a cell below 0, of no cells.
func wrong() []api.Act {
	var out []api.Act
	for _, k := range noKinds() {
		out = append(out, api.Act{Kind: k}, api.Act{Kind: k, Block: 1}, api.Act{Kind: k, Cell: 1}, api.Act{Kind: k, Block: 1, Cell: 1, Old: 1, New: 1})
	}
	for _, f := range forms() {
		base := api.Act{Kind: f.kind}
		if f.kind == api.Alloc {
			base.Cell = 1
		}
		out = append(out, wrongOf(f, base)...)
		full := base
		if f.block {
			full.Block = 1
		}
		if f.cell {
			full.Cell = 1
		}
		if f.next {
			full.New = 9
		}
		out = append(out, wrongOf(f, full)...)
	}
	return append(out, api.Act{Kind: api.Alloc})
}

// wrongOf: base, which may be, with one field more that its kind has not, or with a cell below 0.
func wrongOf(f form, base api.Act) []api.Act {
	var out []api.Act
	for _, w := range []uint64{1, 2, 1 << 32, 1 << 63, top} {
		x := base
		if x.Block = w; !f.block {
			out = append(out, x)
		}
		x = base
		if x.Old = w; !f.old {
			out = append(out, x)
		}
		x = base
		if x.New = w; !f.next {
			out = append(out, x)
		}
	}
	for _, c := range append(badCells(), 1, 2, 65536, math.MaxInt) {
		x := base
		if x.Cell = c; !f.cell || c < 0 {
			out = append(out, x)
		}
	}
	return out
}

// state: all that can be asked of an arena without changing it.
type state struct {
	used, faults int
	blocks       []uint64
	cells        map[uint64][]uint64
}

func stateOf(t *testing.T, a *arena.Arena) state {
	t.Helper()
	s := state{used: a.Used(), faults: a.Faults(), blocks: a.Blocks(), cells: map[uint64][]uint64{}}
	for _, b := range s.blocks {
		words := make([]uint64, a.Size(b))
		for i := range words {
			w, err := a.Load(b, i)
			if err != api.OK {
				t.Fatalf("Load(%d, %d) of %d cells: %v", b, i, len(words), err)
			}
			words[i] = w
		}
		s.cells[b] = words
	}
	return s
}

func sameState(a, b state) bool {
	return a.used == b.used && a.faults == b.faults && slices.Equal(a.blocks, b.blocks) && maps.EqualFunc(a.cells, b.cells, slices.Equal)
}

// holdState: just these cells are there, by their blocks, and so many faults were counted.
func holdState(t *testing.T, a *arena.Arena, faults int, cells map[uint64][]uint64) {
	t.Helper()
	want := state{faults: faults, blocks: slices.Sorted(maps.Keys(cells)), cells: cells}
	for _, words := range cells {
		want.used += len(words)
	}
	if got := stateOf(t, a); !sameState(got, want) {
		t.Errorf("%+v, not %+v", got, want)
	}
}

func holdDo(t *testing.T, a *arena.Arena, x api.Act, want uint64) {
	t.Helper()
	if got := Do(a, x); got != want {
		t.Errorf("Do of %+v: %d, not %d", x, got, want)
	}
}

func holdRead(t *testing.T, s string, want api.Act) {
	t.Helper()
	if x, err := Read(s); x != want || err != api.OK {
		t.Errorf("Read(%q): %+v, %v, not %+v", s, x, err, want)
	}
}

func holdNotRead(t *testing.T, s string) {
	t.Helper()
	if x, err := Read(s); x != (api.Act{}) || err != api.ErrForm {
		t.Errorf("Read(%.60q): %+v, %v, not ErrForm", s, x, err)
	}
}

// filled: an arena of 12 cells with the blocks 2 (3 cells), 4 (1) and 5 (2); 1 and 3 were freed, 6 cells are left.
func filled(t *testing.T) *arena.Arena {
	t.Helper()
	a := arena.New(12)
	for _, n := range []int{2, 3, 4, 1, 2} {
		a.Alloc(n)
	}
	a.Free(1)
	a.Free(3)
	for i, v := range []uint64{20, 21, top} {
		a.Store(2, i, v)
	}
	a.Store(4, 0, 40)
	a.Store(5, 1, 51)
	holdState(t, a, 0, filledCells())
	return a
}

func filledCells() map[uint64][]uint64 {
	return map[uint64][]uint64{2: {20, 21, top}, 4: {40}, 5: {0, 51}}
}

// P9.1: acts of each kind may be, whatever their fields have; and each has its kind's number.
func TestRight(t *testing.T) {
	for _, c := range allTold() {
		if !Right(c.x) {
			t.Errorf("%+v may not be", c.x)
		}
	}
	for _, x := range []api.Act{
		{}, {Kind: api.NoAct}, {Kind: api.Load}, {Kind: api.Store}, {Kind: api.Cas}, {Kind: api.Add}, {Kind: api.Alloc, Cell: 1}, {Kind: api.Free},
		{Kind: api.Cas, Block: top, Cell: math.MaxInt, Old: top, New: top}, {Kind: api.Cas, Old: 5, New: 5},
	} {
		if !Right(x) {
			t.Errorf("%+v may not be", x)
		}
	}
}

// P9.1: of no kind, with a field too many, with a cell below 0, and of no cells none may be; it doesn't write.
func TestNotRight(t *testing.T) {
	for _, x := range wrong() {
		if Right(x) {
			t.Errorf("%+v may be", x)
		}
		if Writes(x) {
			t.Errorf("%+v writes", x)
		}
	}
}

// P9.1: Store, Cas and Add write, even if they change nothing, and no others.
func TestWrites(t *testing.T) {
	for _, c := range allTold() {
		want := c.x.Kind == 2 || c.x.Kind == 3 || c.x.Kind == 4
		if Writes(c.x) != want {
			t.Errorf("%+v writes: %v", c.x, !want)
		}
	}
	for _, x := range []api.Act{{Kind: api.Store}, {Kind: api.Cas}, {Kind: api.Add}} {
		if !Writes(x) {
			t.Errorf("%+v doesn't write", x)
		}
		x.Cell = -1
		if Writes(x) {
			t.Errorf("%+v writes", x)
		}
	}
	for _, x := range []api.Act{{Kind: api.Store, Old: 1}, {Kind: api.Add, Old: 1}, {Kind: api.Store, Block: 1, Old: top, New: 1}} {
		if Writes(x) {
			t.Errorf("%+v writes", x)
		}
	}
}

// P9.1: Load answers the cell's word, and changes nothing.
func TestDoLoad(t *testing.T) {
	a := filled(t)
	for b, cells := range filledCells() {
		for i, w := range cells {
			holdDo(t, a, api.Act{Kind: api.Load, Block: b, Cell: i}, w)
		}
	}
	holdState(t, a, 0, filledCells())
}

// P9.1: Store answers 0, and the cell has New; no other one changes.
func TestDoStore(t *testing.T) {
	a, want := filled(t), filledCells()
	for _, b := range []uint64{2, 4, 5} {
		for i := range want[b] {
			for _, w := range []uint64{1, 0, top, 77} {
				holdDo(t, a, api.Act{Kind: api.Store, Block: b, Cell: i, New: w}, 0)
				want[b][i] = w
				holdState(t, a, 0, want)
			}
		}
	}
}

// P9.1: Cas answers the word that the cell had; New is there then, if that was Old.
func TestDoCas(t *testing.T) {
	a, want := filled(t), filledCells()
	for _, b := range []uint64{2, 4, 5} {
		for i := range want[b] {
			was := want[b][i]
			for _, old := range []uint64{was + 1, was - 1, ^was, was ^ 1<<63} {
				holdDo(t, a, api.Act{Kind: api.Cas, Block: b, Cell: i, Old: old, New: 5}, was)
				holdDo(t, a, api.Act{Kind: api.Cas, Block: b, Cell: i, Old: old, New: old}, was)
				holdDo(t, a, api.Act{Kind: api.Cas, Block: b, Cell: i, Old: old, New: was}, was)
				holdState(t, a, 0, want)
			}
			holdDo(t, a, api.Act{Kind: api.Cas, Block: b, Cell: i, Old: was, New: was}, was)
			holdState(t, a, 0, want)
			for _, w := range []uint64{5, 0, top} {
				holdDo(t, a, api.Act{Kind: api.Cas, Block: b, Cell: i, Old: want[b][i], New: w}, want[b][i])
				want[b][i] = w
				holdState(t, a, 0, want)
			}
		}
	}
}

// P9.1: Add answers the word that the cell had; it has New more, going round at 2^64.
func TestDoAdd(t *testing.T) {
	a, want := filled(t), filledCells()
	for _, b := range []uint64{2, 4, 5} {
		for i := range want[b] {
			for _, d := range []uint64{1, 0, top, 1 << 63, 1 << 63, 2} {
				holdDo(t, a, api.Act{Kind: api.Add, Block: b, Cell: i, New: d}, want[b][i])
				want[b][i] += d
				holdState(t, a, 0, want)
			}
		}
	}
}

// P9.1: Alloc answers the number of a new block of Cell cells; without room 0, nothing is done, and it is no fault.
func TestDoAlloc(t *testing.T) {
	a, want := filled(t), filledCells()
	for _, n := range []int{7, 8, 12, 65536, 65537, math.MaxInt - 1, math.MaxInt} {
		holdDo(t, a, api.Act{Kind: api.Alloc, Cell: n}, 0)
		holdState(t, a, 0, want)
	}
	for i, n := range []int{1, 3, 2} {
		b := uint64(6 + i)
		holdDo(t, a, api.Act{Kind: api.Alloc, Cell: n}, b)
		want[b] = make([]uint64, n)
		holdState(t, a, 0, want)
	}
	holdDo(t, a, api.Act{Kind: api.Alloc, Cell: 1}, 0)
	holdState(t, a, 0, want)
}

// P9.1: Free answers 0, and takes the block away; a second time it is a fault.
func TestDoFree(t *testing.T) {
	a, want := filled(t), filledCells()
	for i, b := range []uint64{4, 2, 5} {
		holdDo(t, a, api.Act{Kind: api.Free, Block: b}, 0)
		delete(want, b)
		holdState(t, a, i, want)
		holdDo(t, a, api.Act{Kind: api.Free, Block: b}, 0)
		holdState(t, a, i+1, want)
	}
	holdDo(t, a, api.Act{Kind: api.Alloc, Cell: 12}, 6)
}

// P9.1, P9.3: where the block is not there, or has no such cell, the answer is 0; a fault is counted, nothing else.
func TestDoFaults(t *testing.T) {
	a := filled(t)
	faults := 0
	hold := func(x api.Act) {
		t.Helper()
		holdDo(t, a, x, 0)
		faults++
		holdState(t, a, faults, filledCells())
	}
	holdCell := func(b uint64, i int) {
		t.Helper()
		hold(api.Act{Kind: api.Load, Block: b, Cell: i})
		hold(api.Act{Kind: api.Store, Block: b, Cell: i, New: 7})
		hold(api.Act{Kind: api.Cas, Block: b, Cell: i, New: 7})
		hold(api.Act{Kind: api.Cas, Block: b, Cell: i, Old: 20, New: 7})
		hold(api.Act{Kind: api.Add, Block: b, Cell: i, New: 7})
	}
	for _, b := range []uint64{0, 1, 3, 6, 1<<32 + 2, 1 << 63, top} {
		hold(api.Act{Kind: api.Free, Block: b})
		for _, i := range []int{0, 1, math.MaxInt} {
			holdCell(b, i)
		}
	}
	for _, b := range []uint64{2, 4, 5} {
		for _, i := range []int{a.Size(b), a.Size(b) + 1, 65536, math.MaxInt - 1, math.MaxInt} {
			holdCell(b, i)
		}
	}
	holdDo(t, a, api.Act{Kind: api.Alloc, Cell: 6}, 6)
}

// P9.1, P9.3: what may not be, and NoAct, does nothing, and is no fault.
func TestDoNothing(t *testing.T) {
	a := filled(t)
	acts := append(wrong(), api.Act{},
		api.Act{Kind: api.Store, Block: 2, Cell: 1, Old: 21, New: 7},
		api.Act{Kind: api.Load, Block: 2, Cell: 1, New: 7},
		api.Act{Kind: api.Add, Block: 4, Old: 40, New: 7},
		api.Act{Kind: api.Cas, Block: 2, Cell: -1, Old: 20, New: 7},
		api.Act{Kind: api.Load, Block: 9, Cell: -1},
		api.Act{Kind: api.Alloc, Block: 2, Cell: 1},
		api.Act{Kind: api.Alloc, Cell: 1, New: 1},
		api.Act{Kind: api.Free, Block: 4, Cell: 1},
		api.Act{Kind: api.Free, Block: 4, New: 1},
		api.Act{Kind: api.Free, Block: 9, Old: 1},
		api.Act{Kind: 7, Block: 4}, api.Act{Kind: -1, Block: 4}, api.Act{Block: 4},
	)
	for _, x := range acts {
		holdDo(t, a, x, 0)
		holdState(t, a, 0, filledCells())
	}
	holdDo(t, a, api.Act{Kind: api.Alloc, Cell: 6}, 6)
}

// P9.1: without an arena, nil or a plain one, nothing is done, and the answer is 0.
func TestDoWithoutArena(t *testing.T) {
	for _, a := range []*arena.Arena{nil, {}, arena.New(0)} {
		for _, c := range allTold() {
			holdDo(t, a, c.x, 0)
		}
		for _, x := range wrong() {
			holdDo(t, a, x, 0)
		}
		if a.Faults() != 0 || a.Used() != 0 || len(a.Blocks()) != 0 {
			t.Error(a.Faults(), a.Used(), a.Blocks())
		}
	}
}

// P9.2: the text of acts of each kind, at all edges of their numbers; Read tells the act again, unless its cell has more than 18 digits.
func TestTextRead(t *testing.T) {
	for _, c := range allTold() {
		if s := Text(c.x); s != c.text {
			t.Errorf("Text of %+v: %q, not %q", c.x, s, c.text)
		}
		if c.read {
			holdRead(t, c.text, c.x)
		} else {
			holdNotRead(t, c.text)
		}
	}
	for _, c := range []struct {
		text string
		x    api.Act
	}{
		{"none", api.Act{}},
		{"load 11 12", api.Act{Kind: api.Load, Block: 11, Cell: 12}},
		{"store 11 12 14", api.Act{Kind: api.Store, Block: 11, Cell: 12, New: 14}},
		{"cas 11 12 13 14", api.Act{Kind: api.Cas, Block: 11, Cell: 12, Old: 13, New: 14}},
		{"add 11 12 14", api.Act{Kind: api.Add, Block: 11, Cell: 12, New: 14}},
		{"alloc 12", api.Act{Kind: api.Alloc, Cell: 12}},
		{"free 11", api.Act{Kind: api.Free, Block: 11}},
	} {
		if s := Text(c.x); s != c.text {
			t.Errorf("Text of %+v: %q, not %q", c.x, s, c.text)
		}
		holdRead(t, c.text, c.x)
	}
}

// P9.2: what may not be has no text.
func TestTextNone(t *testing.T) {
	for _, x := range wrong() {
		if s := Text(x); s != "" {
			t.Errorf("Text of %+v: %q", x, s)
		}
	}
}

// P9.2: a word that is no kind's begins no text.
func TestReadNoKind(t *testing.T) {
	for _, s := range []string{"", " ", "  ", "1", "0", "1 2", "swap 1 2 3", "no", "nothing", "non", "nonex", "Load 1 2", "LOAD 1 2", "loa 1 2", "loads 1 2", "\x00load 1 2", "load\x00 1 2", "NoAct", "1 1 2", "free0", "alloc1", "storé 1 2 3", "\xff 1", "free,1", "-", "faa 1 2 3"} {
		holdNotRead(t, s)
		for _, more := range []string{" 1", " 1 2", " 1 2 3", " 1 2 3 4"} {
			holdNotRead(t, s+more)
		}
	}
}

// P9.2: each kind has just so many numbers.
func TestReadHowMany(t *testing.T) {
	many := map[string]int{"none": 0, "load": 2, "store": 3, "cas": 4, "add": 3, "alloc": 1, "free": 1}
	for name, n := range many {
		s := name
		for k := range 8 {
			if _, err := Read(s); (err == api.OK) != (k == n) {
				t.Errorf("Read(%q): %v", s, err)
			}
			if k != n {
				holdNotRead(t, s)
			}
			holdNotRead(t, s+" ")
			s += " 1"
		}
	}
}

// P9.2: one blank stands between, none ahead and none behind, and nothing else in its place.
func TestReadBlanks(t *testing.T) {
	for _, f := range forms() {
		x := api.Act{Kind: f.kind}
		if f.kind == api.Alloc {
			x.Cell = 12
		}
		s := Text(x)
		holdRead(t, s, x)
		for _, odd := range []string{" ", "  ", "\t", "\n", "\r\n", "\x00", "0", "\u00a0", "\xff", ",", ";"} {
			holdNotRead(t, odd+s)
			if odd != "0" || f.kind == api.NoAct {
				holdNotRead(t, s+odd)
			}
		}
		for place := range s {
			if s[place] != ' ' {
				continue
			}
			for _, between := range []string{"", "  ", "   ", "\t", "\n", "\r", "\v", "\x00", ",", "_", "\u00a0", "\u2003", "\xa0", " \t", "\t ", " +", " -"} {
				holdNotRead(t, s[:place]+between+s[place+1:])
			}
		}
	}
	holdNotRead(t, "free 3 ")
	holdNotRead(t, "free 3\n")
	holdNotRead(t, "alloc 3 ")
	holdNotRead(t, "load 1 2 ")
	holdNotRead(t, "none ")
	holdNotRead(t, "none\n")
}

// P9.2: in each number's place what is no number's text is ErrForm: signs, zeros ahead, no digit, and beyond the greatest word.
func TestReadNumbers(t *testing.T) {
	odd := []string{
		"", "-", "+", "-0", "+0", "-1", "+1", "--1", "00", "01", "007", "0x1", "1x", "x1", "a", "1a", "1.0", "1e3", "1_000", "1,000", "٣", "½", "\x00", "1\x00", "\xff", "'1'", "0b1", "1 ", " 1",
		"18446744073709551616", "18446744073709551617", "18446744073709551620", "20000000000000000000", "99999999999999999999", "100000000000000000000", "018446744073709551615",
		strings.Repeat("9", 400), strings.Repeat("0", 400), "1" + strings.Repeat("0", 64),
	}
	for _, f := range forms() {
		for field := range strings.Fields(Text(full(f)))[1:] {
			for _, s := range odd {
				words := strings.Split(Text(full(f)), " ")
				words[field+1] = s
				holdNotRead(t, strings.Join(words, " "))
			}
		}
	}
}

// full: an act of that kind, all its fields other than 0.
func full(f form) api.Act {
	x := api.Act{Kind: f.kind}
	if f.block {
		x.Block = 3
	}
	if f.cell {
		x.Cell = 4
	}
	if f.old {
		x.Old = 5
	}
	if f.next {
		x.New = 6
	}
	return x
}

// P9.2: a cell of 18 digits is read, one of 19 never is, even where it is the cell of an act that may be; other numbers have up to 20 digits.
func TestReadCellDigits(t *testing.T) {
	holdRead(t, "load 1 999999999999999999", api.Act{Kind: api.Load, Block: 1, Cell: most18})
	holdRead(t, "alloc 999999999999999999", api.Act{Kind: api.Alloc, Cell: most18})
	holdRead(t, "alloc 100000000000000000", api.Act{Kind: api.Alloc, Cell: 100000000000000000})
	for _, s := range []string{"1000000000000000000", "9223372036854775807", "9223372036854775808", "9999999999999999999", "18446744073709551615", "0999999999999999999"} {
		holdNotRead(t, "load 1 "+s)
		holdNotRead(t, "store 1 "+s+" 2")
		holdNotRead(t, "cas 1 "+s+" 2 3")
		holdNotRead(t, "add 1 "+s+" 2")
		holdNotRead(t, "alloc "+s)
	}
	holdRead(t, "cas 18446744073709551615 999999999999999999 18446744073709551615 18446744073709551615", api.Act{Kind: api.Cas, Block: top, Cell: most18, Old: top, New: top})
}

// P9.2: an Alloc of no cells may not be, so there is no text of it.
func TestReadAllocNone(t *testing.T) {
	for _, s := range []string{"alloc 0", "alloc -1", "alloc 00", "alloc -0", "alloc"} {
		holdNotRead(t, s)
	}
	holdRead(t, "alloc 1", api.Act{Kind: api.Alloc, Cell: 1})
}

// P9.2: long texts, of digits, of blanks and of numbers, are no act's.
func TestReadLong(t *testing.T) {
	for _, s := range []string{"free ", "none ", "load 1 ", "cas 1 2 3 ", "", "free"} {
		for _, part := range []string{"1", " ", " 1", "1 ", "none", "free 1"} {
			holdNotRead(t, s+strings.Repeat(part, 100000))
		}
	}
}

// P9.2: of texts that differ in one byte from an act's, just those are read that an act has.
func TestReadOneByteOff(t *testing.T) {
	for _, f := range forms() {
		s := Text(full(f))
		for place := range len(s) + 1 {
			for b := range 256 {
				holdBack(t, s[:place]+string([]byte{byte(b)})+s[place:])
				if place < len(s) {
					holdBack(t, s[:place]+string([]byte{byte(b)})+s[place+1:])
				}
			}
			if place < len(s) {
				holdBack(t, s[:place]+s[place+1:])
			}
		}
	}
}

// holdBack: if s is read, it is the text of what Read tells, which may be; else that is all 0, and ErrForm.
func holdBack(t *testing.T, s string) {
	t.Helper()
	x, err := Read(s)
	if err != api.OK {
		if x != (api.Act{}) || err != api.ErrForm {
			t.Errorf("Read(%q): %+v, %v", s, x, err)
		}
		return
	}
	if !Right(x) || Text(x) != s {
		t.Errorf("Read(%q): %+v, of which the text is %q", s, x, Text(x))
	}
}

// The chapter's example.
func TestExample(t *testing.T) {
	holdRead(t, "cas 2 1 0 7", api.Act{Kind: api.Cas, Block: 2, Cell: 1, Old: 0, New: 7})
	holdNotRead(t, "load 2")
}

// scatter hands out numbers that look like chance, the same for the same seed.
func scatter(seed uint64) func(n int) int {
	w := seed*0x9e3779b97f4a7c15 + 1
	return func(n int) int {
		w = w*6364136223846793005 + 1442695040888963407
		return int(w >> 33 % uint64(n))
	}
}

// scatteredAct: of all kinds, mostly of one of the blocks up to last; now and then one that may not be.
func scatteredAct(last uint64, next func(int) int) api.Act {
	f := forms()[next(7)]
	x := api.Act{Kind: f.kind}
	if f.block {
		x.Block = max(uint64(next(8)), last) - uint64(next(8))
	}
	if f.cell {
		x.Cell = next(6)
	}
	if f.old {
		x.Old = uint64(next(4)) - 1
	}
	if f.next {
		x.New = uint64(next(4)) - 1
	}
	switch next(40) {
	case 0:
		x.Kind = []int{-1, 7, 8, math.MaxInt, math.MinInt}[next(5)]
	case 1:
		x.Block++
	case 2:
		x.Cell = []int{-1, math.MaxInt, math.MinInt, 1}[next(4)]
	case 3:
		x.Old = top
	case 4:
		x.New = 1
	}
	return x
}

// mayBe: may x be, asked field by field.
func mayBe(x api.Act) bool {
	for _, f := range forms() {
		if f.kind == x.Kind {
			return x.Cell >= 0 && (f.block || x.Block == 0) && (f.cell || x.Cell == 0) && (f.old || x.Old == 0) && (f.next || x.New == 0) && (f.kind != 5 || x.Cell > 0)
		}
	}
	return false
}

// call makes the call of the arena that x stands for: its answer without the error.
func call(a *arena.Arena, x api.Act) uint64 {
	var w uint64
	if !mayBe(x) {
		return 0
	}
	switch x.Kind {
	case 1:
		w, _ = a.Load(x.Block, x.Cell)
	case 2:
		a.Store(x.Block, x.Cell, x.New)
	case 3:
		w, _ = a.Cas(x.Block, x.Cell, x.Old, x.New)
	case 4:
		w, _ = a.Add(x.Block, x.Cell, x.New)
	case 5:
		w = a.Alloc(x.Cell)
	case 6:
		a.Free(x.Block)
	}
	return w
}

// changed: how many cells of blocks that are in both differ, and how many blocks are in one alone.
func changed(a, b state) (cells, blocks int) {
	for n, words := range a.cells {
		others, both := b.cells[n]
		if !both {
			blocks++
			continue
		}
		for i, w := range words {
			if w != others[i] {
				cells++
			}
		}
	}
	for n := range b.cells {
		if _, both := a.cells[n]; !both {
			blocks++
		}
	}
	return cells, blocks
}

// P9.1, P9.3: long rows of acts of all kinds on one arena, held against the same calls on another one; one cell changes at most, or which one block is there.
func TestLongRows(t *testing.T) {
	for seed := range uint64(30) {
		next := scatter(seed)
		room := []int{1, 5, 20, 60, 65536}[seed%5]
		a, b := arena.New(room), arena.New(room)
		last, was := uint64(0), stateOf(t, a)
		for step := range 1000 {
			x := scatteredAct(last, next)
			want := call(b, x)
			holdDo(t, a, x, want)
			if x.Kind == api.Alloc && want != 0 {
				last = want
			}
			is := stateOf(t, a)
			if !sameState(is, stateOf(t, b)) {
				t.Errorf("%+v: %+v, not %+v", x, is, stateOf(t, b))
			}
			holdOne(t, x, was, is)
			was = is
			if t.Failed() {
				t.Fatalf("seed %d, step %d", seed, step)
			}
		}
	}
}

// holdOne: from was to is just what x may change has changed.
func holdOne(t *testing.T, x api.Act, was, is state) {
	t.Helper()
	cells, blocks := changed(was, is)
	if cells+blocks > 1 {
		t.Errorf("%+v: %d cells, %d blocks changed", x, cells, blocks)
	}
	if cells > 0 && !Writes(x) {
		t.Errorf("%+v doesn't write, and a cell has changed", x)
	}
	if blocks > 0 && x.Kind != api.Alloc && x.Kind != api.Free {
		t.Errorf("%+v changed which blocks are there", x)
	}
	if !mayBe(x) && (cells+blocks > 0 || was.faults != is.faults) {
		t.Errorf("%+v may not be: %d cells, %d blocks, %d faults", x, cells, blocks, is.faults-was.faults)
	}
}

// P9.1, P9.2: acts of scattered fields: which may be, and their texts back and forth.
func TestScattered(t *testing.T) {
	next := scatter(99)
	words := []uint64{0, 0, 0, 1, 7, most18 + 1, top}
	cells := []int{0, 0, 1, 5, most18, -1, most18 + 1, math.MinInt, math.MaxInt}
	for range 200000 {
		x := api.Act{Kind: next(9) - 1, Block: words[next(7)], Cell: cells[next(9)], Old: words[next(7)], New: words[next(7)]}
		if Right(x) != mayBe(x) || (Text(x) != "") != mayBe(x) || Writes(x) != (mayBe(x) && 2 <= x.Kind && x.Kind <= 4) {
			t.Fatalf("%+v: %v, %q, %v", x, Right(x), Text(x), Writes(x))
		}
		if mayBe(x) && x.Cell <= most18 {
			holdRead(t, Text(x), x)
		} else {
			holdNotRead(t, Text(x))
		}
	}
}
