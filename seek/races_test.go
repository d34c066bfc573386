package seek

import (
	"encoding/binary"
	"testing"

	"sprocket/act"
	"sprocket/api"
	"sprocket/arena"
	"sprocket/drive"
)

// run: several seeks on one arena, all that was answered to each so far, and how many changes of somebody else were done.
type run struct {
	a       *arena.Arena
	got     [][]uint64
	changed int
}

// name: what tells a run from all others.
func (r run) name(t *testing.T) string {
	out := []byte{byte(r.changed)}
	for _, l := range r.got {
		out = append(out, byte(len(l)))
		for _, w := range l {
			out = binary.AppendUvarint(out, w)
		}
	}
	for _, b := range []uint64{deskBlock, tableBlock} {
		for i := range r.a.Size(b) {
			out = binary.AppendUvarint(out, cellOf(t, r.a, b, i))
		}
	}
	return string(out)
}

// done: the run behind one more act of the seek at that place.
func (r run) done(who int, x api.Act) run {
	a := r.a.Copy()
	got := append([][]uint64(nil), r.got...)
	got[who] = append(append([]uint64(nil), got[who]...), act.Do(a, x))
	return run{a, got, r.changed}
}

// after: a seek of the job, to which these were answered.
func (j job) after(got []uint64) *Seek {
	x := j.seek()
	for _, w := range got {
		x.Take(w)
	}
	return x
}

// explore goes through all that may come of seeks of these jobs on the arena, in each order of their acts, and of the changes that somebody else does; each of them is where the chapter says at each time. Each run is handed to look, with what was found, if all have ended; how many those are is told.
func explore(t *testing.T, a *arena.Arena, jobs []job, changes []change, look func(a *arena.Arena, ended bool, found []Found)) int {
	t.Helper()
	ends := 0
	first := run{a: a, got: make([][]uint64, len(jobs))}
	seen := map[string]bool{first.name(t): true}
	todo := []run{first}
	for len(todo) > 0 {
		r := todo[len(todo)-1]
		todo = todo[:len(todo)-1]
		var next []run
		var found []Found
		for who, j := range jobs {
			x, f, end := j.behind(r.got[who])
			if !end {
				holdAct(t, j.after(r.got[who]), x)
				next = append(next, r.done(who, x))
				continue
			}
			if got, done := j.after(r.got[who]).Result(); got != f || !done {
				t.Fatalf("Result: %+v %v; wanted %+v", got, done, f)
			}
			found = append(found, f)
		}
		if r.changed < len(changes) {
			b := r.a.Copy()
			put(t, b, tableBlock, changes[r.changed].cell, changes[r.changed].w)
			next = append(next, run{b, r.got, r.changed + 1})
		}
		if len(next) == 0 {
			ends++
		}
		look(r.a, len(next) == 0, found)
		for _, y := range next {
			if name := y.name(t); !seen[name] {
				seen[name] = true
				todo = append(todo, y)
			}
		}
	}
	return ends
}

// slots: the cells of the table's slots that have a box of each key, by words alone, and how many slots and control bytes are taken.
func slots(t *testing.T, a *arena.Arena, log int) (cells map[string][]int, taken, claims int) {
	t.Helper()
	cells = map[string][]int{}
	n := 1 << log
	for i := range 8 * n {
		cell := 7 + n + i
		if cellOf(t, a, tableBlock, 7+i/8)>>(i%8*8)&255 > 1 {
			claims++
		}
		w := cellOf(t, a, tableBlock, cell)
		if w == 0 {
			continue
		}
		if !fresh(w) {
			t.Fatalf("cell %d: %d", cell, w)
		}
		key, _ := plainRead(func(x api.Act) uint64 { return act.Do(a, x) }, w>>3)
		cells[key] = append(cells[key], cell)
		taken++
	}
	return cells, taken, claims
}

// holdAtMostOnce: no key has two slots.
func holdAtMostOnce(t *testing.T, a *arena.Arena, log int) {
	t.Helper()
	cells, _, _ := slots(t, a, log)
	for key, l := range cells {
		if len(l) > 1 {
			t.Fatalf("%q has the slots %d", key, l)
		}
	}
}

// holdOnce: of these seeks, which have all ended, each key that was laid has one slot; one of those who laid it tells Laid, with its own box, and all others Here, with the same cell, word, and value; where the key was there ahead of them all tell Here.
func holdOnce(t *testing.T, a *arena.Arena, jobs []job, found []Found, there map[string]Found) {
	t.Helper()
	holdAtMostOnce(t, a, jobs[0].of.Log)
	have := map[string]Found{}
	for key, f := range there {
		have[key] = f
	}
	for who, f := range found {
		j := jobs[who]
		if f.Kind != Laid {
			continue
		}
		if had, twice := have[j.key]; twice {
			t.Fatalf("%q is laid beside %+v: %+v", j.key, had, f)
		}
		_, value := plainRead(func(x api.Act) uint64 { return act.Do(a, x) }, j.lay)
		have[j.key] = Found{Kind: Here, Cell: f.Cell, Word: j.lay<<3 | 1, Value: value}
		if f != (Found{Kind: Laid, Cell: f.Cell, Word: j.lay<<3 | 1}) {
			t.Fatalf("%q: %+v", j.key, f)
		}
	}
	for who, f := range found {
		if f.Kind == Laid || f.Kind == Absent && jobs[who].lay == 0 {
			continue
		}
		if want, has := have[jobs[who].key]; !has || f != want {
			t.Fatalf("%q: %+v; wanted %+v", jobs[who].key, f, want)
		}
	}
	holdTable(t, a, jobs[0].of.Log, have)
}

// holdTable: the table has just these, each place that is claimed is taken, and as many claims were noted.
func holdTable(t *testing.T, a *arena.Arena, log int, have map[string]Found) {
	t.Helper()
	cells, taken, claims := slots(t, a, log)
	for key, f := range have {
		if len(cells[key]) != 1 || cells[key][0] != f.Cell || cellOf(t, a, tableBlock, f.Cell) != f.Word {
			t.Fatalf("%q has the slots %d; wanted %+v", key, cells[key], f)
		}
	}
	noted := uint64(0)
	for i := range 4 {
		noted += cellOf(t, a, tableBlock, 3+i)
	}
	if taken != len(have) || claims != taken || noted != uint64(taken) {
		t.Fatalf("%d slots are taken, %d claimed, %d noted; wanted %d", taken, claims, noted, len(have))
	}
}

// lays: who lays each of these keys on the arena, each with a box of its own, for a thread of its own.
func lays(t *testing.T, a *arena.Arena, log int, seed uint64, check bool, keys ...string) []job {
	t.Helper()
	var out []job
	for i, key := range keys {
		out = append(out, arenaJob(i, 6, log, seed, key, made(t, a, key, string(rune('a'+i))), check))
	}
	return out
}

// before: these keys were laid ahead of all others, by the last thread.
func before(t *testing.T, a *arena.Arena, log int, seed uint64, keys ...string) map[string]Found {
	t.Helper()
	out := map[string]Found{}
	for _, key := range keys {
		x := arenaJob(5, 6, log, seed, key, made(t, a, key, "before"), false).seek()
		drive.Alone(a, x, 10000)
		f, _ := x.Result()
		if f.Kind != Laid {
			t.Fatalf("%q: %+v", key, f)
		}
		out[key] = Found{Kind: Here, Cell: f.Cell, Word: f.Word, Value: "before"}
	}
	return out
}

// holdEachOrder: in each order of their acts those who lay these keys lay each of them once, and who looks afterwards finds just those.
func holdEachOrder(t *testing.T, log int, seed uint64, check bool, there []string, keys ...string) {
	t.Helper()
	a := newArena(t, 6, log)
	have := before(t, a, log, seed, there...)
	jobs := lays(t, a, log, seed, check, keys...)
	laid := map[int]bool{}
	ends := explore(t, a, jobs, nil, func(b *arena.Arena, ended bool, found []Found) {
		t.Helper()
		if !ended {
			holdAtMostOnce(t, b, log)
			return
		}
		holdOnce(t, b, jobs, found, have)
		for who, f := range found {
			if f.Kind == Laid {
				laid[who] = true
			}
		}
		holdLooksAfter(t, b, log, seed, jobs, found, have, append(there, keysOf(seed, 3, true)...))
	})
	// Each one of them comes first in some order, if nobody came ahead of all.
	for who, key := range keys {
		if _, has := have[key]; laid[who] == has {
			t.Fatalf("%q of %d: laid %v, and there ahead of all %v; %d ends", key, who, laid[who], has, ends)
		}
	}
}

// holdLooksAfter: who looks alone behind all others finds what was found by them, or was there, and Absent of these keys, if neither is so.
func holdLooksAfter(t *testing.T, a *arena.Arena, log int, seed uint64, jobs []job, found []Found, there map[string]Found, more []string) {
	t.Helper()
	have := map[string]Found{}
	for key, f := range there {
		have[key] = f
	}
	keys := append([]string{"", "nobody's"}, more...)
	for who, f := range found {
		j := jobs[who]
		keys = append(keys, j.key)
		if f.Kind == Laid {
			have[j.key] = Found{Kind: Here, Cell: f.Cell, Word: f.Word, Value: string(rune('a' + who))}
		}
	}
	holdLooks(t, a.Copy(), arenaJob(4, 6, log, seed, "", 0, false), keys, have)
}

// Two keys of one claim, and one of another claim, by the seed of the races.
const racesSeed = 11

func racesKeys() (alike []string, other string) {
	return keysOf(racesSeed, 4, true), keysOf(racesSeed, 1, false)[0]
}

// P22.3: two who lay, in each order of their acts: one key, two of one claim, two of unlike claims; in a table without a claim, and in one that has some, of their claim or not, or their very key.
func TestTwoWhoLay(t *testing.T) {
	alike, other := racesKeys()
	k, l := alike[0], alike[1]
	for _, check := range []bool{false, true} {
		for log := range 3 {
			for _, there := range [][]string{nil, {alike[2]}, {alike[3], alike[2]}, {k}, {alike[2], l}, {other}} {
				holdEachOrder(t, log, racesSeed, check, there, k, k)
				holdEachOrder(t, log, racesSeed, check, there, k, l)
				holdEachOrder(t, log, racesSeed, check, there, k, other)
			}
		}
	}
}

// P22.3: two who lay, in each order of their acts, of which the group that they come to first has one place left, or none.
func TestTwoWhoLayGoOn(t *testing.T) {
	many := keysOf(racesSeed, 12, true)
	group := func(key string) int { return arenaJob(0, 6, 1, racesSeed, key, 0, false).group(0) }
	for _, full := range []int{6, 7, 8} {
		var first []string
		for _, key := range keysOf(racesSeed, 60, true) {
			if group(key) == group(many[0]) && len(first) < full+2 {
				first = append(first, key)
			}
		}
		there, rest := first[:full], first[full:]
		holdEachOrder(t, 1, racesSeed, false, there, rest[0], rest[0])
		holdEachOrder(t, 1, racesSeed, false, there, rest[0], rest[1])
		holdEachOrder(t, 1, racesSeed, false, there, rest[0], there[full-1])
	}
}

// P22.3: three who lay, in each order of their acts.
func TestThreeWhoLay(t *testing.T) {
	alike, other := racesKeys()
	k, l, m := alike[0], alike[1], alike[2]
	for _, keys := range [][]string{{k, k, k}, {k, k, l}, {k, l, m}, {k, k, other}, {k, l, other}} {
		holdEachOrder(t, 0, racesSeed, false, nil, keys...)
	}
	holdEachOrder(t, 0, racesSeed, false, []string{m}, k, l, k)
	holdEachOrder(t, 0, racesSeed, false, []string{k}, k, l, k)
}

// P22.3: one who lays is stopped for good behind any number of his acts: the others lay each key once all the same, each one in his own acts alone.
func TestStopped(t *testing.T) {
	alike, other := racesKeys()
	for _, keys := range [][]string{{alike[0], alike[0], alike[0]}, {alike[0], alike[1], alike[0]}, {alike[0], alike[1], other}, {alike[0], alike[1], alike[1]}} {
		for acts := range 12 {
			a := newArena(t, 6, 0)
			jobs := lays(t, a, 0, racesSeed, false, keys...)
			stopped := jobs[0].seek()
			drive.Alone(a, stopped, acts)
			ends := explore(t, a, jobs[1:], nil, func(b *arena.Arena, ended bool, found []Found) {
				t.Helper()
				holdAtMostOnce(t, b, 0)
				if !ended {
					return
				}
				// Whoever was stopped goes on at last, and so all have ended.
				got, c := []uint64(nil), b.Copy()
				last := jobs[0]
				f := last.plain(func(x api.Act) uint64 {
					if len(got) < acts {
						// Done ahead of all others: what was answered then stands in no cell, but each of these acts found an empty table.
						got = append(got, firstAnswer(x))
						return got[len(got)-1]
					}
					return act.Do(c, x)
				})
				holdOnce(t, c, jobs, append([]Found{f}, found...), nil)
			})
			if ends == 0 {
				t.Fatal("no end")
			}
		}
	}
}

// firstAnswer: what is answered to an act of one who lays alone, in a table without a claim.
func firstAnswer(x api.Act) uint64 {
	if x.Kind == api.Cas {
		return x.Old
	}
	return 0
}

// P22.1: two who claimed one place at once: one claim alone stands, the first who goes on lays his box, and the other one finds that.
func TestStoppedBehindFirstClaim(t *testing.T) {
	for _, picks := range [][]int{{0, 0, 1, 1, 1}, {1, 1, 1, 0, 0}} {
		a := newArena(t, 6, 0)
		jobs := lays(t, a, 0, 3, false, "k", "k")
		x, y := jobs[0].seek(), jobs[1].seek()
		r := []api.Routine{x, y}
		// Both load the empty word, both try to claim: the second one is lost.
		drive.Run(a, r, []int{0, 1, 0, 1})
		if w := cellOf(t, a, tableBlock, 7); w != jobs[0].claim() {
			t.Fatalf("%x", w)
		}
		drive.Run(a, r, picks)
		drive.Run(a, r, []int{0, 1, 0, 1, 0, 1, 0, 1, 0, 1, 0, 1, 0, 1, 0, 1})
		f, _ := x.Result()
		g, _ := y.Result()
		holdOnce(t, a, jobs, []Found{f, g}, nil)
		if first := picks[0] == 0; first != (f.Kind == Laid) || first != (g.Kind == Here) {
			t.Fatalf("%+v %+v", f, g)
		}
	}
}

// P22.3, P22.4: one who looks between two who lay, in each order of their acts, finds a box that was laid, or is told Absent.
func TestLooksBetween(t *testing.T) {
	alike, other := racesKeys()
	for _, keys := range [][]string{{alike[0], alike[0], alike[0]}, {alike[0], alike[1], alike[0]}, {alike[0], alike[1], alike[1]}, {alike[0], other, alike[0]}, {alike[0], alike[1], alike[2]}} {
		a := newArena(t, 6, 0)
		jobs := lays(t, a, 0, racesSeed, false, keys...)
		jobs[2].lay = 0
		told := map[int]bool{}
		explore(t, a, jobs, nil, func(b *arena.Arena, ended bool, found []Found) {
			t.Helper()
			holdAtMostOnce(t, b, 0)
			if ended {
				holdOnce(t, b, jobs, found, nil)
				told[found[2].Kind] = true
			}
		})
		if may := keys[2] == keys[0] || keys[2] == keys[1]; !told[Absent] || told[Here] != may || len(told) > 2 {
			t.Fatalf("%q: %v", keys, told)
		}
	}
}

// P22.1, P22.2: two seeks and somebody who freezes, lays or takes out meanwhile, in each order of their acts: all goes as the chapter says.
func TestTwoDisturbed(t *testing.T) {
	alike, other := racesKeys()
	for _, keys := range [][]string{{alike[0], alike[0]}, {alike[0], alike[1]}, {alike[0], other}} {
		for _, second := range []bool{false, true} {
			a := newArena(t, 6, 0)
			have := before(t, a, 0, racesSeed, alike[2])
			jobs := lays(t, a, 0, racesSeed, false, keys...)
			if second {
				jobs[1].lay = 0
			}
			b := made(t, a, alike[0], "else")
			c := jobs[0].claim()
			was := have[alike[2]].Word
			for _, changes := range [][]change{
				{{7, 0x0101010101010100 | c}}, {{8, was + 1}, {8, b<<3 | 1}}, {{8, was + 2}, {8, was + 3}}, {{8, 5}}, {{9, b<<3 | 1}}, {{9, 5}},
				{{7, c | c<<8}, {9, b<<3 | 2}}, {{7, 0x8100 | c}, {7, 0x010101010101c100 | c}}, {{10, 5}, {9, b<<3 | 4}},
			} {
				if ends := explore(t, a, jobs, changes, func(*arena.Arena, bool, []Found) {}); ends == 0 {
					t.Fatal("no end")
				}
			}
		}
	}
}

// P22.3: up to six who lay, with keys that are all different, all the same, and of one claim, picked without an order that matters, in tables that have room for all: each key has one slot, and who looks afterwards finds just those.
func TestUpToSixWhoLay(t *testing.T) {
	next := row(224)
	for range 6000 {
		log := int(next() >> 9 % 4)
		seed := next() >> 9 % 20
		many := 2 + int(next()>>9%5)
		from := [][]string{keysOf(seed, 7, true), keysOf(seed, 7, false), append(keysOf(seed, 3, true), keysOf(seed, 2, false)...), keysOf(seed, 1, true)}[next()>>9%4]
		keys := make([]string, many)
		for i := range keys {
			keys[i] = from[(uint64(i)+next()>>9%2*(next()>>9%3))%uint64(len(from))]
		}
		a := newArena(t, 6, log)
		var there []string
		if next()>>9%3 == 0 {
			there = []string{from[len(from)-1]}
		}
		have := before(t, a, log, seed, there...)
		jobs := lays(t, a, log, seed, next()>>9%2 == 0 && log > 0, keys...)
		found := runScattered(t, a, jobs, next)
		holdOnce(t, a, jobs, found, have)
		holdLooksAfter(t, a, log, seed, jobs, found, have, from)
	}
}

// runScattered: seeks of these jobs are done on the arena, picked without an order that matters, each act as the chapter says; what they find is told.
func runScattered(t *testing.T, a *arena.Arena, jobs []job, next func() uint64) []Found {
	t.Helper()
	var seeks []api.Routine
	got := make([][]uint64, len(jobs))
	for _, j := range jobs {
		seeks = append(seeks, j.seek())
	}
	picks := make([]int, 200)
	for i := range picks {
		// One goes on for a while, or each in turn.
		if picks[i] = int(next() >> 9 % uint64(len(jobs))); i > 0 && next()>>9%2 == 0 {
			picks[i] = picks[i-1]
		}
	}
	for who := range jobs {
		for range 200 {
			picks = append(picks, who)
		}
	}
	for _, y := range drive.Run(a, seeks, picks) {
		if want, _, end := jobs[y.Who].behind(got[y.Who]); end || y.Act != want {
			t.Fatalf("%d: %+v; wanted %+v %v", y.Who, y.Act, want, end)
		}
		got[y.Who] = append(got[y.Who], y.Got)
	}
	var found []Found
	for who, j := range jobs {
		_, f, end := j.behind(got[who])
		if !end {
			t.Fatalf("%d has not ended", who)
		}
		holdEnd(t, seeks[who].(*Seek), f)
		found = append(found, f)
	}
	return found
}
