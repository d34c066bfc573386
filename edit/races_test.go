package edit

import (
	"encoding/binary"
	"testing"

	"sprocket/act"
	"sprocket/api"
	"sprocket/arena"
	"sprocket/drive"
	"sprocket/spec"
)

// run: several edits of one slot on one arena, all that was answered to each so far, and how many changes of somebody else were done.
type run struct {
	a       *arena.Arena
	got     [][]uint64
	changed int
}

// racesCell: the slot of the races.
const racesCell = 9

// name: what tells a run from all others.
func (r run) name(t *testing.T) string {
	out := []byte{byte(r.changed)}
	for _, l := range r.got {
		out = append(out, byte(len(l)))
		for _, w := range l {
			out = binary.AppendUvarint(out, w)
		}
	}
	return string(binary.AppendUvarint(out, cellOf(t, r.a, tableBlock, racesCell)))
}

// done: the run behind one more act of the edit at that place.
func (r run) done(who int, x api.Act) run {
	a := r.a.Copy()
	got := append([][]uint64(nil), r.got...)
	got[who] = append(append([]uint64(nil), got[who]...), act.Do(a, x))
	return run{a, got, r.changed}
}

// after: an edit of the job, to which these were answered.
func (j job) after(got []uint64) *Edit {
	x := j.edit()
	for _, w := range got {
		x.Take(w)
	}
	return x
}

// explore goes through all that may come of edits of these jobs on the arena, in each order of their acts, and of the changes of the slot that somebody else does; each of them is where the chapter says at each time. What they came to is handed to look, with the arena, where all have ended; how often that is is told.
func explore(t *testing.T, a *arena.Arena, jobs []job, changes []uint64, look func(a *arena.Arena, came []Outcome)) int {
	t.Helper()
	ends := 0
	first := run{a: a, got: make([][]uint64, len(jobs))}
	seen := map[string]bool{first.name(t): true}
	todo := []run{first}
	for len(todo) > 0 {
		r := todo[len(todo)-1]
		todo = todo[:len(todo)-1]
		var next []run
		var came []Outcome
		for who, j := range jobs {
			x, o, end := j.behind(r.got[who])
			if !end {
				holdAct(t, j.after(r.got[who]), x)
				next = append(next, r.done(who, x))
				continue
			}
			if got, done := j.after(r.got[who]).Result(); !same(got, o) || !done {
				t.Fatalf("Result: %+v %v; wanted %+v", got, done, o)
			}
			came = append(came, o)
		}
		if r.changed < len(changes) {
			b := r.a.Copy()
			put(t, b, tableBlock, racesCell, changes[r.changed])
			next = append(next, run{b, r.got, r.changed + 1})
		}
		if len(next) == 0 {
			ends++
			look(r.a, came)
		}
		for _, y := range next {
			if name := y.name(t); !seen[name] {
				seen[name] = true
				todo = append(todo, y)
			}
		}
	}
	return ends
}

// race: a slot that has a box of the value "v", Live or not, and those who edit it, each for a thread of its own, with a box of its own.
type race struct {
	a    *arena.Arena
	jobs []job
	// box is the block of the slot's first box.
	box uint64
}

// kind: what one of a race does: an operation's kind, the value it writes, and Old.
type kind struct {
	kind       int
	value, old string
}

// raceOf: a race of those who do these, of whom each read the slot ahead of all.
func raceOf(t *testing.T, live bool, kinds ...kind) race {
	t.Helper()
	a := newArena(t, 8, 0)
	b := made(t, a, "k", "v")
	w := b<<3 | 2
	if live {
		w--
	}
	put(t, a, tableBlock, racesCell, w)
	r := race{a: a, box: b}
	for who, k := range kinds {
		o := api.Op{Kind: k.kind, Key: "k", Value: k.value, Old: k.old}
		lay := uint64(0)
		if writes(k.kind) {
			lay = made(t, a, "k", k.value)
		}
		r.jobs = append(r.jobs, arenaJob(who, 8, 0, racesCell, o, lay, w, "v"))
	}
	return r
}

// begin: what the slot has ahead of a race.
func (r race) begin() []api.Pair {
	if r.jobs[0].at.Word&7 == 2 {
		return nil
	}
	return []api.Pair{{Key: "k", Value: "v"}}
}

// ordered: whether these jobs have an order, but for those that are done, in which a map that has m answers each so, and has at last what the slot has.
func (r race) ordered(m []api.Pair, came []Outcome, done int, last []api.Pair) bool {
	if done == 1<<len(came)-1 {
		return spec.Same(api.Reply{Pairs: m}, api.Reply{Pairs: last})
	}
	for who, o := range came {
		if done>>who&1 == 1 {
			continue
		}
		behind, reply := spec.Do(m, r.jobs[who].op)
		if spec.Same(reply, o.Reply) && r.ordered(behind, came, done|1<<who, last) {
			return true
		}
	}
	return false
}

// hold: of a race that has ended: the answers have an order in which a map answers each so; each box that was laid is in the slot, or was taken out by just one, and so was the first one.
func (r race) hold(t *testing.T, a *arena.Arena, came []Outcome) {
	t.Helper()
	w := cellOf(t, a, tableBlock, racesCell)
	where := map[uint64]int{w >> 3: 1}
	laid := 1
	for who, o := range came {
		if o.Again || o.Laid != (o.Reply.Did && writes(r.jobs[who].op.Kind)) || o.Laid != (o.Out != 0) {
			t.Fatalf("%d: %+v", who, o)
		}
		if o.Laid {
			where[o.Out]++
			laid++
		}
	}
	for who, o := range came {
		if o.Laid && where[r.jobs[who].lay] != 1 {
			t.Fatalf("the box %d is in %d places: %+v", r.jobs[who].lay, where[r.jobs[who].lay], came)
		}
	}
	if where[r.box] != 1 || len(where) != laid {
		t.Fatalf("%d boxes: %v", laid, where)
	}
	if last := slotPairs(t, a, racesCell); !r.ordered(r.begin(), came, 0, last) {
		t.Fatalf("no order: %+v, and the slot has %q", came, last)
	}
}

// did: how many of them did, and who did last.
func did(came []Outcome) (many, who int) {
	for i, o := range came {
		if o.Reply.Did {
			many, who = many+1, i
		}
	}
	return many, who
}

// holdEachOrder: in each order of their acts, what comes of those who do these to a slot is right; just so many of them do, if that is told. How many of them are the last one who does, in some order, is told.
func holdEachOrder(t *testing.T, live bool, many int, kinds ...kind) int {
	t.Helper()
	r := raceOf(t, live, kinds...)
	who := map[int]bool{}
	explore(t, r.a, r.jobs, nil, func(a *arena.Arena, came []Outcome) {
		t.Helper()
		r.hold(t, a, came)
		n, last := did(came)
		if many >= 0 && n != many {
			t.Fatalf("%d of %+v did; wanted %d: %+v", n, kinds, many, came)
		}
		if n > 0 {
			who[last] = true
		}
	})
	return len(who)
}

// holdJustOne: in each order of their acts just one of those who do these to a slot that is Live does, and each of them is that one in some order; of a slot that is Gone, none does.
func holdJustOne(t *testing.T, kinds ...kind) {
	t.Helper()
	if who := holdEachOrder(t, true, 1, kinds...); who != len(kinds) {
		t.Fatalf("of %+v just %d did in some order", kinds, who)
	}
	holdEachOrder(t, false, 0, kinds...)
}

// deletes, checks, swaps: so many who delete, who compare and delete, and who compare and swap "v" to a value of their own.
func deletes(many int) []kind {
	var out []kind
	for range many {
		out = append(out, kind{api.Delete, "", ""})
	}
	return out
}

func checks(many int) []kind {
	var out []kind
	for range many {
		out = append(out, kind{api.CompareAndDelete, "", "v"})
	}
	return out
}

func swaps(many int) []kind {
	var out []kind
	for i := range many {
		out = append(out, kind{api.CompareAndSwap, string(rune('a' + i)), "v"})
	}
	return out
}

// mixed: who does each kind, with values and Old that others write, or that nobody does.
func mixed() []kind {
	return []kind{
		{api.Get, "", ""}, {api.Put, "p", ""}, {api.Put, "v", ""}, {api.PutIfAbsent, "i", ""}, {api.Replace, "r", ""}, {api.CompareAndSwap, "a", "v"}, {api.CompareAndSwap, "v", "p"},
		{api.CompareAndSwap, "v", "v"}, {api.Delete, "", ""}, {api.CompareAndDelete, "", "v"}, {api.CompareAndDelete, "", "a"},
	}
}

// P23.4: those who delete, who compare and delete, or who compare and swap from one value to others, in each order of their acts: just one does, and each of them is that one in some order; of a slot that is Gone, none does.
func TestJustOneDoes(t *testing.T) {
	for many := 1; many <= 3; many++ {
		holdJustOne(t, deletes(many)...)
		holdJustOne(t, checks(many)...)
		holdJustOne(t, swaps(many)...)
	}
	holdJustOne(t, append(deletes(1), checks(2)...)...)
	holdJustOne(t, append(deletes(2), checks(1)...)...)
	holdJustOne(t, append(checks(1), swaps(2)...)...)
	holdJustOne(t, append(checks(2), swaps(1)...)...)
}

// P23.4: those who compare another value than the slot has, and those who compare and swap to the very value they compare.
func TestSwapsOfOtherValues(t *testing.T) {
	w, v := kind{api.CompareAndSwap, "x", "w"}, kind{api.CompareAndSwap, "v", "v"}
	holdEachOrder(t, true, 0, w, w)
	holdEachOrder(t, true, 1, w, kind{api.CompareAndSwap, "y", "v"}, w)
	holdEachOrder(t, true, 2, v, v)
	holdEachOrder(t, true, 3, v, v, v)
	holdEachOrder(t, true, -1, kind{api.CompareAndSwap, "w", "v"}, w)
	holdEachOrder(t, false, 0, v, w, v)
}

// P23.3, P23.4: two of all kinds, in each order of their acts, on a slot that is Live and one that is Gone.
func TestEachTwo(t *testing.T) {
	for _, x := range mixed() {
		for _, y := range mixed() {
			holdEachOrder(t, true, -1, x, y)
			holdEachOrder(t, false, -1, x, y)
		}
	}
}

// P23.3, P23.4: three of all kinds, in each order of their acts.
func TestEachThree(t *testing.T) {
	for i, x := range mixed() {
		for k, y := range mixed()[i:] {
			for m, z := range mixed()[i+k:] {
				if (i+k+m)%3 == 0 {
					holdEachOrder(t, (i+k)%2 == 0, -1, x, y, z)
				}
			}
		}
	}
	holdEachOrder(t, true, -1, append(deletes(2), kind{api.Put, "p", ""})...)
	holdEachOrder(t, false, -1, append(deletes(2), kind{api.PutIfAbsent, "p", ""})...)
}

// P23.2, P23.4: two edits, and somebody who lays, deletes or freezes meanwhile, in each order of their acts: all goes as the chapter says; behind a slot that was frozen nobody does.
func TestTwoDisturbed(t *testing.T) {
	for _, kinds := range [][]kind{deletes(2), checks(2), swaps(2), {mixed()[1], mixed()[4]}, {mixed()[1], mixed()[8]}, {mixed()[3], mixed()[8]}, {mixed()[5], mixed()[2]}} {
		for _, live := range []bool{true, false} {
			r := raceOf(t, live, kinds...)
			v, w := made(t, r.a, "k", "v"), made(t, r.a, "k", "w")
			for _, changes := range [][]uint64{
				{r.box<<3 | 3}, {r.box<<3 | 4}, {5}, {0}, {v<<3 | 1}, {w<<3 | 1, v<<3 | 1}, {r.box<<3 | 1}, {r.box<<3 | 2}, {r.box<<3 | 2, v<<3 | 1, v<<3 | 2}, {v<<3 | 1, w<<3 | 3}, {w<<3 | 2, 5},
			} {
				if ends := explore(t, r.a, r.jobs, changes, func(*arena.Arena, []Outcome) {}); ends == 0 {
					t.Fatal("no end")
				}
			}
		}
	}
}

// P23.2: in each order of the acts of those who edit a slot, and of somebody who freezes it once, all come to an end, and who comes too late is told Again.
func TestFrozenMeanwhile(t *testing.T) {
	for _, kinds := range [][]kind{deletes(2), swaps(2), {mixed()[1], mixed()[4]}} {
		for _, word := range []uint64{5, 3, 4} {
			r := raceOf(t, true, kinds...)
			frozen := word
			if word != 5 {
				frozen = r.box<<3 | word
			}
			told := map[int]bool{}
			explore(t, r.a, r.jobs, []uint64{frozen}, func(a *arena.Arena, came []Outcome) {
				again := 0
				for _, o := range came {
					if o.Again {
						again++
					}
				}
				told[again] = true
				if many, _ := did(came); many+again > 2 || cellOf(t, a, tableBlock, racesCell) != frozen {
					t.Fatalf("%+v", came)
				}
			})
			if !told[0] || !told[1] || !told[2] {
				t.Fatalf("%+v: %v", kinds, told)
			}
		}
	}
}

// P23.4: one is stopped for good behind any number of its acts: of the others just one does, or none, if the one that was stopped did.
func TestStopped(t *testing.T) {
	for _, kinds := range [][]kind{deletes(3), checks(3), swaps(3), append(checks(2), swaps(1)...)} {
		for acts := range 3 {
			r := raceOf(t, true, kinds...)
			stopped := r.jobs[0].edit()
			drive.Alone(r.a, stopped, acts)
			want := 1
			if acts > 0 {
				want = 0
			}
			explore(t, r.a, r.jobs[1:], nil, func(a *arena.Arena, came []Outcome) {
				t.Helper()
				if many, _ := did(came); many != want {
					t.Fatalf("%+v: %d did", came, many)
				}
			})
		}
	}
}

// runScattered: edits of these jobs are done on the arena, picked without an order that matters, each act as the chapter says; what they come to is told.
func runScattered(t *testing.T, a *arena.Arena, jobs []job, next func() uint64) []Outcome {
	t.Helper()
	var edits []api.Routine
	got := make([][]uint64, len(jobs))
	for _, j := range jobs {
		edits = append(edits, j.edit())
	}
	picks := make([]int, 120)
	for i := range picks {
		// One goes on for a while, or each in turn.
		if picks[i] = int(next() >> 9 % uint64(len(jobs))); i > 0 && next()>>9%2 == 0 {
			picks[i] = picks[i-1]
		}
	}
	for who := range jobs {
		for range 100 {
			picks = append(picks, who)
		}
	}
	for _, y := range drive.Run(a, edits, picks) {
		if want, _, end := jobs[y.Who].behind(got[y.Who]); end || y.Act != want {
			t.Fatalf("%d: %+v; wanted %+v %v", y.Who, y.Act, want, end)
		}
		got[y.Who] = append(got[y.Who], y.Got)
	}
	var came []Outcome
	for who, j := range jobs {
		_, o, end := j.behind(got[who])
		if !end {
			t.Fatalf("%d has not ended", who)
		}
		holdEnd(t, edits[who].(*Edit), o)
		came = append(came, o)
	}
	return came
}

// P23.3, P23.4: up to eight, who delete, compare and delete, compare and swap, or do all kinds, picked without an order that matters: just one of those does of which the chapter says so, and all answers have an order in which a map answers each so.
func TestUpToEight(t *testing.T) {
	next := row(236)
	for range 4000 {
		many := 2 + int(next()>>9%7)
		kinds := [][]kind{deletes(many), checks(many), swaps(many), append(checks(many/2), deletes(many-many/2)...)}[next()>>9%4]
		want := 1
		if next()>>9%2 == 0 {
			want = -1
			for i := range kinds {
				kinds[i] = mixed()[next()>>9%uint64(len(mixed()))]
			}
		}
		r := raceOf(t, want == 1 || next()>>9%2 == 0, kinds...)
		came := runScattered(t, r.a, r.jobs, next)
		r.hold(t, r.a, came)
		if n, _ := did(came); want >= 0 && n != want {
			t.Fatalf("%d of %+v did: %+v", n, kinds, came)
		}
	}
}
