package tests

import (
	"fmt"
	"math/rand"
	"slices"
	"testing"

	"loop.example/tether/impl"
)

// rider is where a train truly is: the leash that it goes by, and the sections under it, its tail's first.
type rider struct {
	leash impl.Grant
	under []int
}

// yard is what a test knows of a world by itself: the ledger, and the riders by the sections that they are on.
type yard struct {
	ledger *ledger
	riders []rider
}

func newYard(sections int, at []int) *yard {
	y := &yard{ledger: newLedger(sections, len(at))}
	for i, s := range at {
		y.ledger.trains[i].cells = []cell{{section: s}}
		y.ledger.trains[i].leashes[0].Cells = 1
		y.riders = append(y.riders, rider{impl.Grant{Cells: 1}, []int{s}})
	}
	return y
}

func (y *yard) copied() *yard {
	out := &yard{ledger: y.ledger.copied()}
	for _, r := range y.riders {
		out.riders = append(out.riders, rider{r.leash, slices.Clone(r.under)})
	}
	return out
}

// front is how many cells the train has been on, from where it began.
func (y *yard) front(train int) int {
	return y.ledger.trains[train].passed + len(y.riders[train].under)
}

func (y *yard) send(e impl.Event) int {
	most := impl.MaxCells
	if e.Op == impl.TAdd {
		most = y.ledger.sections - 1
	}
	known := e.Op == impl.TAdd || e.Op == impl.TEnd || e.Op == impl.TDrop
	if !known || e.Train < 0 || e.Train >= len(y.riders) || e.N < 0 || e.N > most {
		return 1
	}
	return y.ledger.tell(e)
}

// tell is the Code of an act, and does it when that is 0.
func (y *yard) tell(a impl.Act) int {
	if a.Train < 0 || a.Train >= len(y.riders) {
		return 1
	}
	r, t := &y.riders[a.Train], &y.ledger.trains[a.Train]
	switch a.Op {
	case impl.WSend:
		return y.send(a.Event)
	case impl.WTake:
		i := slices.IndexFunc(t.leashes, func(g impl.Grant) bool { return g.Version == a.N })
		if i < 0 || a.N <= r.leash.Version {
			return 2
		}
		if t.leashes[i].Cells < y.front(a.Train) {
			return 3
		}
		r.leash = t.leashes[i]
	case impl.WTell:
		return y.ledger.tell(impl.Event{Op: impl.TAck, Train: a.Train, N: r.leash.Version})
	case impl.WMove:
		if y.front(a.Train) >= r.leash.Cells {
			return 3
		}
		r.under = append(r.under, t.cells[y.front(a.Train)].section)
	case impl.WTail:
		if len(r.under) == 1 {
			return 3
		}
		r.under = r.under[1:]
		return y.ledger.tell(impl.Event{Op: impl.TPass, Train: a.Train, N: t.passed + 1})
	default:
		return 1
	}
	return 0
}

// check holds the world against what the yard knows: P5 by its own words, and each Body.
func (y *yard) check(w impl.World) string {
	if !w.Ok || len(w.Bodies) != len(y.riders) {
		return "no such world"
	}
	if what := y.ledger.check(w.Book); what != "" {
		return what
	}
	on := map[int]int{}
	for i, r := range y.riders {
		passed := y.ledger.trains[i].passed
		if want := body(r.leash.Version, r.leash.Cells, passed, passed+len(r.under)-1); w.Bodies[i] != want {
			return fmt.Sprintf("train %d: %v, not %v", i, w.Bodies[i], want)
		}
		if w.Bodies[i].Front >= w.Bodies[i].Cells || !slices.Contains(w.Book.Lines[i].Grants, r.leash) {
			return fmt.Sprintf("train %d: %v is not within its leash", i, w.Bodies[i])
		}
		for _, s := range r.under {
			on[s]++
			if on[s] > 1 || impl.Owner(w.Book, s) != i || !slices.Equal(impl.On(w, s), []int{i}) {
				return fmt.Sprintf("train %d is on section %d, whose owner is %d, with %v on it", i, s, impl.Owner(w.Book, s), impl.On(w, s))
			}
		}
	}
	for s := range y.ledger.sections {
		if len(impl.On(w, s)) != on[s] {
			return fmt.Sprintf("%v on section %d", impl.On(w, s), s)
		}
	}
	return ""
}

// allActs has every act with a number below most.
func allActs(sections, trains, most int) []impl.Act {
	var out []impl.Act
	for _, e := range allEvents(sections, trains, most) {
		if e.Op != impl.TAck && e.Op != impl.TPass || e.N == 1 {
			out = append(out, impl.Act{Op: impl.WSend, Train: trains - 1 - e.Train, Event: e})
		}
	}
	for i := range trains {
		for n := range most {
			out = append(out, take(i, n))
		}
		out = append(out, tell(i), move(i), tail(i))
	}
	return out
}

// roamAll goes on from the start by every act, that many deep, and comes to each world once.
func roamAll(t *testing.T, sections int, at []int, most, deep int) {
	type state struct {
		w impl.World
		y *yard
	}
	acts := allActs(sections, len(at), most)
	seen := map[string]int{}
	steps := 0
	now := []state{{impl.Start(sections, at), newYard(sections, at)}}
	for range deep {
		var next []state
		for _, s := range now {
			for _, a := range acts {
				y := s.y.copied()
				code, m := y.tell(a), impl.Step(s.w, a)
				steps++
				if m.Code != code {
					t.Fatalf("%v, then %v: Code %d, not %d", s.w, a, m.Code, code)
				}
				if code == 1 {
					continue
				}
				key := fmt.Sprint(m.World)
				seen[key]++
				if what := y.check(m.World); what != "" {
					t.Fatalf("%v, then %v: %s", s.w, a, what)
				}
				if seen[key] == 1 {
					next = append(next, state{m.World, y})
				}
			}
		}
		now = next
	}
	t.Logf("%d sections, trains at %v, %d deep: %d worlds by %d steps", sections, at, deep, len(seen), steps)
}

func TestOnWhatIsHeldByEveryWay(t *testing.T) {
	roamAll(t, 3, []int{0}, 4, 7)
	roamAll(t, 3, []int{0, 2}, 3, 7)
}

// nearActs is an act by chance, most often one that can be done or is beside one.
func nearActs(r *rand.Rand, w impl.World) impl.Act {
	i := r.Intn(len(w.Bodies))
	l, b := w.Book.Lines[i], w.Bodies[i]
	switch r.Intn(10) {
	case 0, 1, 2:
		return add(i, r.Intn(w.Book.Sections))
	case 3:
		return end(i, l.Gone+r.Intn(len(l.Way)+2))
	case 4:
		return send(r.Intn(len(w.Bodies)+1), 1+r.Intn(6), i, max(0, l.Gone-1+r.Intn(len(l.Way)+3)))
	case 5:
		return take(i, b.Version+r.Intn(4)-1)
	case 6:
		return tell(i)
	case 7:
		return move(i)
	case 8:
		return tail(i)
	}
	return impl.Act{Op: r.Intn(7), Train: r.Intn(len(w.Bodies)+2) - 1, N: r.Intn(9), Event: impl.Event{Op: r.Intn(7), Train: i, N: r.Intn(9)}}
}

func TestOnWhatIsHeldInLongRuns(t *testing.T) {
	done := map[[2]int]int{}
	for seed := range 40 {
		r := rand.New(rand.NewSource(int64(seed)))
		sections := 2 + r.Intn(15)
		at := r.Perm(sections)[:1+r.Intn(min(sections, 4))]
		y, w := newYard(sections, at), impl.Start(sections, at)
		var acts []impl.Act
		for len(acts) < 300 {
			a := nearActs(r, w)
			code, m := y.tell(a), impl.Step(w, a)
			if m.Code == 1 {
				m.World = w
			}
			if what := y.check(m.World); m.Code != code || what != "" {
				t.Fatalf("seed %d: %v, then %v: Code %d, not %d; %s", seed, w, a, m.Code, code, what)
			}
			done[[2]int{a.Op, code}]++
			acts, w = append(acts, a), m.World
		}
		checkDrive(t, fmt.Sprintf("seed %d", seed), sections, at, acts)
		run := impl.Drive(sections, at, acts)
		if got, want := impl.Answer(sections, at, acts), textOf(run); got != want {
			t.Fatalf("seed %d: %q, not %q", seed, got, want)
		}
	}
	// the runs are worth something only when they come to each answer that there is
	for _, want := range [][2]int{{1, 0}, {1, 1}, {1, 2}, {1, 3}, {1, 4}, {2, 0}, {2, 2}, {2, 3}, {3, 0}, {4, 0}, {4, 3}, {5, 0}, {5, 3}} {
		if done[want] < 5 {
			t.Errorf("Op %d had Code %d %d times", want[0], want[1], done[want])
		}
	}
}

// wrongBy is what the world lacks to be right, by the words of the document; "" for nothing.
func wrongBy(w impl.World) string {
	if !w.Ok || impl.BookOk(w.Book) != 0 || len(w.Bodies) != len(w.Book.Lines) {
		return "the book, or as many Bodies as lines"
	}
	for i, b := range w.Bodies {
		l := w.Book.Lines[i]
		if !slices.Contains(l.Grants, impl.Grant{Version: b.Version, Cells: b.Cells}) {
			return fmt.Sprintf("a Grant of train %d", i)
		}
		if b.Tail < l.Gone || b.Tail > b.Front || b.Front >= b.Cells {
			return fmt.Sprintf("a place of train %d", i)
		}
	}
	return ""
}

// lateTails is the world with each Tail anywhere between what is left behind and Front: right, though no run comes there.
func lateTails(r *rand.Rand, w impl.World) impl.World {
	w.Bodies = slices.Clone(w.Bodies)
	for i, b := range w.Bodies {
		w.Bodies[i].Tail += r.Intn(b.Front - b.Tail + 1)
	}
	return w
}

func TestRightStaysRight(t *testing.T) {
	late := 0
	for seed := range 12 {
		r := rand.New(rand.NewSource(int64(seed)))
		w := impl.Start(12, r.Perm(12)[:1+seed%3])
		for range 120 {
			if m := impl.Step(w, nearActs(r, w)); m.Code != 1 {
				w = m.World
			}
			v := lateTails(r, w)
			if !sameWorld(v, w) {
				late++
			}
			for _, a := range allActs(12, len(w.Bodies), 14) {
				m := impl.Step(v, a)
				if m.Code == 1 {
					continue
				}
				if what := wrongBy(m.World); what != "" {
					t.Fatalf("seed %d: %v, then %v: %v lacks %s", seed, v, a, m.World, what)
				}
				if m.Code != 0 && !sameWorld(m.World, v) {
					t.Fatalf("seed %d: %v, then %v: Code %d, and it is %v", seed, v, a, m.Code, m.World)
				}
			}
		}
	}
	if late < 100 {
		t.Errorf("%d worlds with a late Tail", late)
	}
}
