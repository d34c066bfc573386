package table

import (
	"math"
	"math/big"
	"testing"

	"sprocket/api"
)

// noLogs: numbers that are no log: around both ends, such that a shift by them would be none or go round, and the least and greatest of Go's types.
func noLogs() []int {
	return []int{
		math.MinInt, math.MinInt + 1, math.MinInt + 9, math.MinInt32, -512, -256, -64, -63, -55, -10, -9, -3, -2, -1,
		10, 11, 12, 16, 19, 31, 32, 33, 62, 63, 64, 65, 73, 128, 256, 265, 512, 1 << 32, 1<<32 + 3,
		math.MaxInt16, math.MaxInt32, math.MaxUint32, math.MaxInt - 9, math.MaxInt - 1, math.MaxInt,
	}
}

// farNumbers: the least and the greatest numbers of Go's types, those around them, and those of which a sum or a product with a small number leaves its type, or goes round to a small one.
func farNumbers() []int {
	out := []int{
		math.MinInt, math.MinInt32, math.MinInt32 + 1, math.MinInt16, math.MinInt8, -1 << 16, -1 << 31, -1 << 32, -1<<32 + 1, -4615, -519, -512, -256, -64,
		256, 257, 511, 512, 513, 518, 519, 520, 4096, 4614, 4615, 4616, 1 << 16, 1<<16 + 1, 1 << 31, 1<<31 + 1, 1 << 32, 1<<32 + 1, 1<<32 + 7,
		math.MaxInt8, math.MaxInt16, math.MaxInt32, math.MaxUint32, math.MaxInt,
	}
	for near := range 20 {
		out = append(out, math.MinInt+near, math.MaxInt-near)
		// Eight times these go round to eight times near, or lie just below.
		for _, eighth := range []int{1 << 60, 1 << 61, 3 << 60, 1 << 62} {
			out = append(out, eighth+near, eighth-near, -eighth+near, -eighth-near)
		}
	}
	for n := -40; n <= 80; n++ {
		out = append(out, n)
	}
	return out
}

// words: the next one of a row of words without an order that matters, each time.
func words(w uint64) func() uint64 {
	return func() uint64 {
		w = w*6364136223846793005 + 1442695040888963407
		return w>>33 ^ w
	}
}

// scattered: numbers of each length, without an order that matters.
func scattered(n int) []int {
	next := words(15)
	var out []int
	for i := range n {
		out = append(out, int(next())>>(i%64), -(int(next()) >> (i % 64)))
	}
	return out
}

// places: what each cell of a table of log is, in the chapter's order.
func places(log int) []Place {
	var out []Place
	for range 7 {
		out = append(out, Place{Part: Head})
	}
	for group := range 1 << log {
		out = append(out, Place{Part: Group, Group: group})
	}
	for group := range 1 << log {
		for slot := range 8 {
			out = append(out, Place{Part: Slot, Group: group, Slot: slot})
		}
	}
	return out
}

func isLog(log int) bool { return log >= 0 && log <= 9 }

// groupCell, slotCell: the chapter's words, in plain arithmetic, where there is such a place.
func groupCell(log, group int) int {
	if !isLog(log) || group < 0 || group >= 1<<log {
		return -1
	}
	return 7 + group
}

func slotCell(log, group, slot int) int {
	if groupCell(log, group) < 0 || slot < 0 || slot > 7 {
		return -1
	}
	return 7 + 1<<log + 8*group + slot
}

// stripe: the chapter's words, in numbers without bound.
func stripe(thread int) int {
	rest := new(big.Int).Mod(big.NewInt(int64(thread)), big.NewInt(4))
	return 3 + int(rest.Int64())
}

func holdRight(t *testing.T, block uint64, log int, want bool) {
	t.Helper()
	if got := Right(api.Table{Block: block, Log: log}); got != want {
		t.Errorf("Right of the block %d and the log %d: %v; wanted %v", block, log, got, want)
	}
}

func holdGroup(t *testing.T, log, group, want int) {
	t.Helper()
	if got := GroupCell(log, group); got != want {
		t.Fatalf("GroupCell(%d, %d): %d; wanted %d", log, group, got, want)
	}
}

func holdSlot(t *testing.T, log, group, slot, want int) {
	t.Helper()
	if got := SlotCell(log, group, slot); got != want {
		t.Fatalf("SlotCell(%d, %d, %d): %d; wanted %d", log, group, slot, got, want)
	}
}

func holdWhere(t *testing.T, log, cell int, want Place) {
	t.Helper()
	if got := Where(log, cell); got != want {
		t.Fatalf("Where(%d, %d): %+v; wanted %+v", log, cell, got, want)
	}
}

// Example 1: of the log 0.
func TestExample(t *testing.T) {
	if Size(0) != 16 {
		t.Errorf("Size(0): %d", Size(0))
	}
	holdGroup(t, 0, 0, 7)
	holdWhere(t, 0, 7, Place{Part: Group})
	for slot := range 8 {
		holdSlot(t, 0, 0, slot, 8+slot)
		holdWhere(t, 0, 8+slot, Place{Part: Slot, Slot: slot})
	}
}

// P15.1, P15.2: the numbers of the first cells and of the parts.
func TestConstants(t *testing.T) {
	if Log != 0 || Next != 1 || Claim != 2 {
		t.Errorf("Log %d, Next %d, Claim %d", Log, Next, Claim)
	}
	if Head != 1 || Group != 2 || Slot != 3 {
		t.Errorf("Head %d, Group %d, Slot %d", Head, Group, Slot)
	}
}

// P15.1: a table's block may be each but 0.
func TestRightBlock(t *testing.T) {
	for log := range 10 {
		holdRight(t, 0, log, false)
		for _, block := range []uint64{1, 2, 7, 8, 1 << 31, 1 << 32, 1 << 61, 1<<63 - 1, 1 << 63, math.MaxUint64 - 1, math.MaxUint64} {
			holdRight(t, block, log, true)
		}
	}
}

// P15.1: a table's log is one.
func TestRightLog(t *testing.T) {
	for _, block := range []uint64{0, 1, 2, 1 << 63, math.MaxUint64} {
		for _, log := range append(noLogs(), append(farNumbers(), scattered(200)...)...) {
			holdRight(t, block, log, block != 0 && isLog(log))
		}
		holdRight(t, block, -1, false)
		holdRight(t, block, 0, block != 0)
		holdRight(t, block, api.MaxLog, block != 0)
		holdRight(t, block, api.MaxLog+1, false)
		holdRight(t, block, math.MaxInt, false)
		holdRight(t, block, math.MinInt, false)
	}
	if Right(api.Table{}) {
		t.Error("a table of zeros may be")
	}
}

// P15.1: how many cells there are, and how many claims are the limit, of each log.
func TestSizeAndLimit(t *testing.T) {
	for log, want := range []struct{ size, limit int }{
		{16, 7}, {25, 14}, {43, 28}, {79, 56}, {151, 112}, {295, 224}, {583, 448}, {1159, 896}, {2311, 1792}, {4615, 3584},
	} {
		if Size(log) != want.size || Limit(log) != want.limit {
			t.Errorf("of the log %d: %d cells, the limit %d; wanted %+v", log, Size(log), Limit(log), want)
		}
	}
}

// P15.1: of what is no log both are 0.
func TestSizeAndLimitOfNoLog(t *testing.T) {
	for _, log := range append(noLogs(), append(farNumbers(), scattered(500)...)...) {
		if !isLog(log) && (Size(log) != 0 || Limit(log) != 0) {
			t.Errorf("of the log %d: %d cells, the limit %d; wanted 0 and 0", log, Size(log), Limit(log))
		}
	}
}

// P15.2: the stripes of threads, worked out by hand.
func TestStripe(t *testing.T) {
	for _, c := range []struct{ thread, want int }{
		{0, 3}, {1, 4}, {2, 5}, {3, 6}, {4, 3}, {5, 4}, {6, 5}, {7, 6}, {8, 3}, {62, 5}, {63, 6}, {64, 3},
		{-1, 6}, {-2, 5}, {-3, 4}, {-4, 3}, {-5, 6}, {-6, 5}, {-7, 4}, {-8, 3},
		{math.MaxInt, 6}, {math.MaxInt - 1, 5}, {math.MinInt, 3}, {math.MinInt + 1, 4},
	} {
		if got := Stripe(c.thread); got != c.want {
			t.Errorf("Stripe(%d): %d; wanted %d", c.thread, got, c.want)
		}
	}
}

// P15.2: the stripes of many threads, against numbers without bound.
func TestStripeOfManyThreads(t *testing.T) {
	for _, thread := range append(noLogs(), append(farNumbers(), scattered(2000)...)...) {
		if got, want := Stripe(thread), stripe(thread); got != want {
			t.Errorf("Stripe(%d): %d; wanted %d", thread, got, want)
		}
	}
}

// P15.2: the four stripes stand behind Claim and ahead of the first control word, of each log.
func TestStripesStand(t *testing.T) {
	for log := range 10 {
		for thread := range 4 {
			if Stripe(thread) != Claim+1+thread || Stripe(thread) >= GroupCell(log, 0) {
				t.Errorf("of the log %d, the stripe of %d is %d, the first control word %d", log, thread, Stripe(thread), GroupCell(log, 0))
			}
			holdWhere(t, log, Stripe(thread), Place{Part: Head})
		}
	}
}

// P15.2: cells worked out by hand.
func TestCellsByHand(t *testing.T) {
	holdGroup(t, 1, 1, 8)
	holdGroup(t, 1, 2, -1)
	holdGroup(t, 9, 0, 7)
	holdGroup(t, 9, 511, 518)
	holdGroup(t, 9, 512, -1)
	holdGroup(t, 10, 0, -1)
	holdSlot(t, 1, 0, 0, 9)
	holdSlot(t, 1, 0, 7, 16)
	holdSlot(t, 1, 1, 0, 17)
	holdSlot(t, 1, 1, 7, 24)
	holdSlot(t, 2, 3, 5, 40)
	holdSlot(t, 9, 0, 0, 519)
	holdSlot(t, 9, 511, 7, 4614)
	holdSlot(t, 9, 512, 0, -1)
	holdSlot(t, 10, 0, 0, -1)
}

// P15.2: each group of each log, and numbers that are none.
func TestGroupCell(t *testing.T) {
	far := append(farNumbers(), scattered(300)...)
	for log := range 10 {
		many := 1 << log
		for group := range many {
			holdGroup(t, log, group, 7+group)
		}
		for _, group := range append([]int{-1, many, many + 1, math.MaxInt, math.MinInt, -many, -many - 1, -7 - many, 9 * many}, far...) {
			holdGroup(t, log, group, groupCell(log, group))
		}
		holdGroup(t, log, -1, -1)
		holdGroup(t, log, many, -1)
		holdGroup(t, log, many+1, -1)
		holdGroup(t, log, math.MaxInt, -1)
		holdGroup(t, log, math.MinInt, -1)
	}
}

// P15.2: each slot of each group of each log, and slots beside them, among these such that another group's, or a control word's cell comes of their sum.
func TestSlotCell(t *testing.T) {
	for log := range 10 {
		many := 1 << log
		for group := range many {
			for slot := range 8 {
				holdSlot(t, log, group, slot, 7+many+8*group+slot)
			}
			for _, slot := range []int{-1, 8, 9, 15, 16, -7, -8, -9, -8 * group, -8*group - 1, -8*group - many, -8*group - many - 1, 8*many - 8*group - 1, math.MaxInt, math.MinInt, math.MaxInt32, math.MinInt32} {
				holdSlot(t, log, group, slot, slotCell(log, group, slot))
			}
			holdSlot(t, log, group, -1, -1)
			holdSlot(t, log, group, 8, -1)
			holdSlot(t, log, group, math.MaxInt, -1)
			holdSlot(t, log, group, math.MinInt, -1)
		}
	}
}

// P15.2: groups that there are not, with each slot; sums of these go round to cells of other places.
func TestSlotCellOfNoGroup(t *testing.T) {
	far := farNumbers()
	for log := range 10 {
		many := 1 << log
		for slot := range 8 {
			for _, group := range []int{-1, -2, many, many + 1, math.MaxInt, math.MinInt, 1 << 61, 1<<61 + many - 1, -1 << 61, 1 << 62, 1 << 60} {
				holdSlot(t, log, group, slot, -1)
			}
		}
		for _, group := range far {
			for _, slot := range far {
				holdSlot(t, log, group, slot, slotCell(log, group, slot))
			}
		}
		for group := -5; group <= 5; group++ {
			for times := -5; times <= 5; times++ {
				holdSlot(t, log, group, 8*times, slotCell(log, group, 8*times))
			}
		}
	}
}

// P15.2: what is no log has no cell.
func TestCellsOfNoLog(t *testing.T) {
	far := append(farNumbers(), 4, 5, 6, 7, 8)
	for _, log := range noLogs() {
		for _, n := range far {
			holdGroup(t, log, n, -1)
			holdWhere(t, log, n, Place{})
			for slot := -1; slot <= 8; slot++ {
				holdSlot(t, log, n, slot, -1)
				holdSlot(t, log, 0, n, -1)
			}
		}
	}
}

// P15.2: what each cell of each log is, in order, and what is no cell.
func TestWhere(t *testing.T) {
	far := append(farNumbers(), scattered(300)...)
	for log := range 10 {
		list := places(log)
		for cell, want := range list {
			holdWhere(t, log, cell, want)
		}
		for _, cell := range []int{-1, -2, -7, -8, -len(list), len(list), len(list) + 1, 2 * len(list), math.MaxInt, math.MinInt, math.MaxInt - 7, math.MinInt + 7} {
			holdWhere(t, log, cell, Place{})
		}
		for _, cell := range far {
			want := Place{}
			if cell >= 0 && cell < len(list) {
				want = list[cell]
			}
			holdWhere(t, log, cell, want)
		}
	}
}

// P15.2: places worked out by hand, on both sides of where the parts meet.
func TestWhereByHand(t *testing.T) {
	for _, c := range []struct {
		log, cell int
		want      Place
	}{
		{0, 0, Place{Head, 0, 0}}, {0, 6, Place{Head, 0, 0}}, {0, 7, Place{Group, 0, 0}}, {0, 8, Place{Slot, 0, 0}}, {0, 15, Place{Slot, 0, 7}}, {0, 16, Place{}},
		{1, 6, Place{Head, 0, 0}}, {1, 7, Place{Group, 0, 0}}, {1, 8, Place{Group, 1, 0}}, {1, 9, Place{Slot, 0, 0}}, {1, 16, Place{Slot, 0, 7}}, {1, 17, Place{Slot, 1, 0}}, {1, 24, Place{Slot, 1, 7}}, {1, 25, Place{}},
		{9, Log, Place{Head, 0, 0}}, {9, Next, Place{Head, 0, 0}}, {9, Claim, Place{Head, 0, 0}}, {9, 518, Place{Group, 511, 0}}, {9, 519, Place{Slot, 0, 0}}, {9, 4614, Place{Slot, 511, 7}}, {9, 4615, Place{}}, {9, 4616, Place{}},
		{0, -1, Place{}}, {9, math.MaxInt, Place{}}, {9, math.MinInt, Place{}}, {10, 0, Place{}}, {-1, 0, Place{}}, {math.MaxInt, 7, Place{}}, {math.MinInt, 7, Place{}},
	} {
		holdWhere(t, c.log, c.cell, c.want)
	}
}

// P15.3: Where of a group's cell tells that group, and of a slot's cell that slot.
func TestThereAndBack(t *testing.T) {
	for log := range 10 {
		for group := range 1 << log {
			holdWhere(t, log, GroupCell(log, group), Place{Part: Group, Group: group})
			for slot := range 8 {
				holdWhere(t, log, SlotCell(log, group, slot), Place{Part: Slot, Group: group, Slot: slot})
			}
		}
	}
}

// P15.3: each cell of a table is of just one part, and of just one place there: no cell is given twice, and none is left out.
func TestApart(t *testing.T) {
	for log := range 10 {
		given := make([]int, Size(log))
		give := func(cell int) {
			if cell < 0 || cell >= len(given) {
				t.Fatalf("of the log %d, a cell is %d; a table has %d", log, cell, len(given))
			}
			given[cell]++
		}
		for _, cell := range []int{Log, Next, Claim, Stripe(0), Stripe(1), Stripe(2), Stripe(3)} {
			give(cell)
			holdWhere(t, log, cell, Place{Part: Head})
		}
		for group := range 1 << log {
			give(GroupCell(log, group))
			for slot := range 8 {
				give(SlotCell(log, group, slot))
			}
		}
		for cell, many := range given {
			if many != 1 {
				t.Errorf("of the log %d, the cell %d is given %d times", log, cell, many)
			}
		}
	}
}

// P15.3: each cell that Where tells of leads back to itself; a head has no group and no slot, a group no slot.
func TestEachCellHasAPart(t *testing.T) {
	for log := range 10 {
		met := [4]int{}
		for cell := range Size(log) {
			p := Where(log, cell)
			back := -1
			switch p.Part {
			case Head:
				back = cell
			case Group:
				back = GroupCell(log, p.Group)
			case Slot:
				back = SlotCell(log, p.Group, p.Slot)
			}
			if back != cell || p.Part != Slot && p.Slot != 0 || p.Part == Head && p.Group != 0 {
				t.Fatalf("of the log %d, the cell %d is %+v, whose cell is %d", log, cell, p, back)
			}
			met[p.Part]++
		}
		if met != [4]int{0, 7, 1 << log, 8 << log} {
			t.Errorf("of the log %d, the parts have so many cells: %v", log, met)
		}
	}
}

// P15.1 to P15.3: scattered tables, groups, slots and cells, most of them near a table's bounds, against plain arithmetic.
func TestScattered(t *testing.T) {
	next := words(151)
	near := func(most int) int {
		if next()%16 == 0 {
			return int(next()) >> (next() % 64)
		}
		return int(next()%uint64(most+4)) - 2
	}
	slots := 0
	for range 300000 {
		log := near(10)
		groups := 0
		if isLog(log) {
			groups = 1 << log
		}
		group, slot, cell := near(groups), near(8), near(9*groups+7)
		holdGroup(t, log, group, groupCell(log, group))
		holdSlot(t, log, group, slot, slotCell(log, group, slot))
		if SlotCell(log, group, slot) >= 0 {
			slots++
		}
		p := Where(log, cell)
		there := isLog(log) && cell >= 0 && cell < 7+9*groups
		switch {
		case !there:
			holdWhere(t, log, cell, Place{})
		case cell < 7:
			holdWhere(t, log, cell, Place{Part: Head})
		case cell < 7+groups:
			holdWhere(t, log, cell, Place{Part: Group, Group: cell - 7})
		default:
			rest := cell - 7 - groups
			holdWhere(t, log, cell, Place{Part: Slot, Group: rest / 8, Slot: rest % 8})
		}
		if there != (p != Place{}) {
			t.Fatalf("Where(%d, %d): %+v", log, cell, p)
		}
	}
	if slots == 0 {
		t.Error("no slot that there is was among them")
	}
}
