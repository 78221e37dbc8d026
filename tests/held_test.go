package tests

import (
	"fmt"
	"math/rand"
	"slices"
	"testing"

	"loop.example/tether/impl"
)

// cell is a section that a train holds, or held until it passed it, and whether it is to be given back.
type cell struct {
	section int
	back    bool
}

// train is what a test knows of a train by itself: every cell from where it began, how many it passed, and the leashes that it can have.
type train struct {
	cells   []cell
	passed  int
	leashes []impl.Grant
}

// ledger marks cells, where the book counts them: so it tells what is held in a way of its own.
type ledger struct {
	sections int
	trains   []train
}

func newLedger(sections, trains int) *ledger {
	l := &ledger{sections: sections, trains: make([]train, trains)}
	for i := range l.trains {
		l.trains[i].leashes = []impl.Grant{{}}
	}
	return l
}

func (l *ledger) copied() *ledger {
	out := &ledger{sections: l.sections}
	for _, t := range l.trains {
		out.trains = append(out.trains, train{slices.Clone(t.cells), t.passed, slices.Clone(t.leashes)})
	}
	return out
}

func (l *ledger) holder(section int) int {
	for i, t := range l.trains {
		for _, c := range t.cells[t.passed:] {
			if c.section == section {
				return i
			}
		}
	}
	return -1
}

func (t *train) givesBack() bool {
	return slices.ContainsFunc(t.cells[t.passed:], func(c cell) bool { return c.back })
}

func (t *train) covered(n int) bool {
	return slices.ContainsFunc(t.leashes, func(g impl.Grant) bool { return g.Cells > n })
}

// tell is the Code of an event that is one, and does it when that is 0. (Of the limits it knows the leashes' alone: no Way or total here comes near its own.)
func (l *ledger) tell(e impl.Event) int {
	t := &l.trains[e.Train]
	n := e.N
	switch e.Op {
	case impl.TAdd:
		if l.holder(n) >= 0 {
			return 2
		}
		if t.givesBack() {
			return 3
		}
		t.cells = append(t.cells, cell{section: n})
	case impl.TEnd:
		if n < t.passed || n > len(t.cells) || slices.ContainsFunc(t.cells[t.passed:n], func(c cell) bool { return c.back }) {
			return 2
		}
		if len(t.leashes) == 20 {
			return 4
		}
		t.leashes = append(t.leashes, impl.Grant{Version: t.leashes[len(t.leashes)-1].Version + 1, Cells: n})
	case impl.TAck:
		left := slices.DeleteFunc(slices.Clone(t.leashes), func(g impl.Grant) bool { return g.Version < n })
		if len(left) == 0 || left[0].Version != n {
			return 2
		}
		if !slices.ContainsFunc(left, func(g impl.Grant) bool { return g.Cells >= t.passed }) {
			return 3
		}
		t.leashes = left
	case impl.TPass:
		if n < t.passed || n > 0 && n > t.passed && !t.covered(n-1) {
			return 2
		}
		t.passed = n
	case impl.TDrop:
		if n < t.passed || n >= len(t.cells) {
			return 2
		}
		if t.leashes[len(t.leashes)-1].Cells > n {
			return 3
		}
		for i := range t.cells {
			t.cells[i].back = i >= n
		}
	}
	for end := len(t.cells) - 1; end >= t.passed && t.cells[end].back && !t.covered(end); end-- {
		t.cells = t.cells[:end]
	}
	return 0
}

// check holds the book against what the ledger knows: P4 by its own words, and each list of each line.
func (l *ledger) check(b impl.Book) string {
	if impl.BookOk(b) != 0 {
		return fmt.Sprintf("the book is not right: %d", impl.BookOk(b))
	}
	holders := map[int]int{}
	for i, line := range b.Lines {
		for _, s := range line.Way {
			holders[s]++
			if holders[s] > 1 || impl.Owner(b, s) != i {
				return fmt.Sprintf("section %d has two owners", s)
			}
		}
	}
	for i := range l.trains {
		t := &l.trains[i]
		for _, g := range t.leashes {
			for n := t.passed; n < g.Cells; n++ {
				if n >= len(t.cells) || impl.Owner(b, t.cells[n].section) != i {
					return fmt.Sprintf("train %d can have a leash of %d, and cell %d is not held for it", i, g.Cells, n)
				}
			}
		}
		if what := t.check(b.Lines[i]); what != "" {
			return fmt.Sprintf("train %d: %s", i, what)
		}
	}
	return ""
}

func (t *train) check(line impl.Line) string {
	var way []int
	drop := -1
	for n := t.passed; n < len(t.cells); n++ {
		way = append(way, t.cells[n].section)
		if t.cells[n].back && drop < 0 {
			drop = n
		}
	}
	want := impl.Line{Gone: t.passed, Way: way, Grants: t.leashes, Drop: drop}
	if line.Gone != want.Gone || line.Drop != want.Drop || !sameList(line.Way, want.Way) || !sameList(line.Grants, want.Grants) {
		return fmt.Sprintf("%v, not %v", line, want)
	}
	return ""
}

// allEvents has every event with a number below most, but for TAdd with every section.
func allEvents(sections, trains, most int) []impl.Event {
	var out []impl.Event
	for op := impl.TAdd; op <= impl.TDrop; op++ {
		for t := range trains {
			top := most
			if op == impl.TAdd {
				top = sections
			}
			for n := range top {
				out = append(out, impl.Event{Op: op, Train: t, N: n})
			}
		}
	}
	return out
}

// walkAll goes on from the beginning by every event, that many deep, and comes to each book once.
func walkAll(t *testing.T, sections, trains, most, deep int) {
	type state struct {
		b impl.Book
		l *ledger
	}
	events := allEvents(sections, trains, most)
	seen := map[string]int{}
	now := []state{{impl.Begin(sections, trains), newLedger(sections, trains)}}
	for range deep {
		var next []state
		for _, s := range now {
			for _, e := range events {
				l := s.l.copied()
				code, d := l.tell(e), impl.Do(s.b, e)
				if what := l.check(d.Book); d.Code != code || what != "" {
					t.Fatalf("%v, then %v: Code %d, not %d; %s", s.b, e, d.Code, code, what)
				}
				key := fmt.Sprint(d.Book)
				if seen[key]++; seen[key] == 1 {
					next = append(next, state{d.Book, l})
				}
			}
		}
		now = next
	}
	t.Logf("%d sections, %d trains, %d deep: %d books", sections, trains, deep, len(seen))
}

func TestHeldByEveryWay(t *testing.T) {
	walkAll(t, 3, 1, 5, 8)
	walkAll(t, 2, 2, 3, 7)
}

// nearEdges is an event by chance, its number most often at or beside what counts for the line.
func nearEdges(r *rand.Rand, b impl.Book) impl.Event {
	e := impl.Event{Op: 1 + r.Intn(5), Train: r.Intn(len(b.Lines))}
	l := b.Lines[e.Train]
	switch e.Op {
	case impl.TAdd:
		e.N = r.Intn(b.Sections)
	case impl.TAck:
		e.N = l.Grants[0].Version + r.Intn(len(l.Grants)+2) - 1
	default:
		e.N = l.Gone + r.Intn(len(l.Way)+3) - 1
	}
	e.N = max(e.N, 0)
	return e
}

func TestHeldInLongRuns(t *testing.T) {
	for seed := range 60 {
		r := rand.New(rand.NewSource(int64(seed)))
		sections, trains := 1+r.Intn(40), 1+r.Intn(5)
		l, b := newLedger(sections, trains), impl.Begin(sections, trains)
		var events []impl.Event
		for len(events) < 400 {
			e := nearEdges(r, b)
			code, d := l.tell(e), impl.Do(b, e)
			if what := l.check(d.Book); d.Code != code || what != "" {
				t.Fatalf("seed %d: %v, then %v: Code %d, not %d; %s", seed, b, e, d.Code, code, what)
			}
			events, b = append(events, e), d.Book
		}
		checkRun(t, fmt.Sprintf("seed %d", seed), sections, trains, events)
	}
}

// shortening is a way of n sections, of which gone are passed and that the leash of version 1 covers up to reach; that of version 2 goes to middle, that of 3 to last; then the way is to be shortened to drop.
type shortening struct{ n, gone, reach, middle, last, drop int }

func (s shortening) events() []impl.Event {
	var out []impl.Event
	for i := range s.n {
		out = append(out, impl.Event{Op: impl.TAdd, N: i})
	}
	return append(out, impl.Event{Op: impl.TEnd, N: s.reach}, impl.Event{Op: impl.TAck, N: 1}, impl.Event{Op: impl.TPass, N: s.gone},
		impl.Event{Op: impl.TEnd, N: s.middle}, impl.Event{Op: impl.TEnd, N: s.last}, impl.Event{Op: impl.TDrop, N: s.drop})
}

// checkTotal asks that train 0 holds its sections from gone up to that many, and that train 1 gets the others and none of these.
func (s shortening) checkTotal(t *testing.T, when string, d impl.Done, total int) bool {
	if d.Code != 0 {
		t.Errorf("%v, %s: Code %d", s, when, d.Code)
		return false
	}
	for i := s.gone; i < s.n; i++ {
		owner, code := 0, 2
		if i >= total {
			owner, code = -1, 0
		}
		if got, other := impl.Owner(d.Book, i), impl.Do(d.Book, impl.Event{Op: impl.TAdd, Train: 1, N: i}); got != owner || other.Code != code {
			t.Errorf("%v, %s, section %d: owner %d, not %d; Code %d for the other train, not %d", s, when, i, got, owner, other.Code, code)
			return false
		}
	}
	return true
}

func (s shortening) check(t *testing.T) bool {
	run := impl.Run(s.n, 2, s.events())
	for i, d := range run {
		if d.Code != 0 {
			t.Fatalf("%v, event %d: Code %d", s, i, d.Code)
		}
	}
	ack := func(b impl.Book, version int) impl.Done {
		return impl.Do(b, impl.Event{Op: impl.TAck, N: version})
	}
	dropped := run[len(run)-1]
	second := ack(dropped.Book, 2)
	ok := s.checkTotal(t, "to be shortened", dropped, max(s.drop, s.reach, s.middle)) &&
		s.checkTotal(t, "the oldest told again", ack(dropped.Book, 1), max(s.drop, s.reach, s.middle)) &&
		s.checkTotal(t, "the second told", second, max(s.drop, s.middle)) &&
		s.checkTotal(t, "the third told", ack(dropped.Book, 3), s.drop) &&
		s.checkTotal(t, "the third told behind the second", ack(second.Book, 3), s.drop)
	if drop := ack(dropped.Book, 3).Book.Lines[0].Drop; ok && drop != -1 {
		t.Errorf("%v: all is given back, and Drop is %d", s, drop)
		return false
	}
	return ok
}

// some has the numbers of a short stretch, and of a longer one its ends, those beside them and one between.
func some(from, to int) []int {
	if to-from > 5 {
		return []int{from, from + 1, (from + to) / 2, to - 1, to}
	}
	var out []int
	for i := from; i <= to; i++ {
		out = append(out, i)
	}
	return out
}

func TestGivenBack(t *testing.T) {
	for n := 2; n <= 21; n++ {
		for _, gone := range some(0, n-1) {
			for _, reach := range some(gone, n) {
				for _, drop := range some(gone, n-1) {
					for _, middle := range []int{gone, drop, (drop + n) / 2, n} {
						if !(shortening{n, gone, reach, middle, (gone + drop) / 2, drop}).check(t) || !(shortening{n, gone, reach, middle, drop, drop}).check(t) {
							return
						}
					}
				}
			}
		}
	}
}

func TestGivenBackWhenPassed(t *testing.T) {
	for n := 2; n <= 21; n++ {
		for drop := 0; drop < n; drop++ {
			s := shortening{n, 0, n, n, drop, drop}
			run := impl.Run(n, 2, s.events())
			b := run[len(run)-1].Book
			for to := 0; to <= n; to++ {
				d := impl.Do(b, impl.Event{Op: impl.TPass, N: to})
				want := max(drop, to)
				if want == n {
					want = -1
				}
				if l := d.Book.Lines[0]; d.Code != 0 || l.Gone != to || l.Drop != want || len(l.Way) != n-to {
					t.Fatalf("%v, passed up to %d: Code %d, %v", s, to, d.Code, l)
				}
				// what it left behind is anybody's, what it holds nobody else's
				for i := range n {
					code := 0
					if i >= to {
						code = 2
					}
					if got := impl.Do(d.Book, impl.Event{Op: impl.TAdd, Train: 1, N: i}).Code; got != code {
						t.Fatalf("%v, passed up to %d, section %d: Code %d, not %d", s, to, i, got, code)
					}
				}
				// beyond Drop it told nothing: the shorter leash would be behind it
				told := impl.Do(d.Book, impl.Event{Op: impl.TAck, N: 3})
				if to > drop && told.Code != 3 || to <= drop && (told.Code != 0 || len(told.Book.Lines[0].Way) != drop-to) {
					t.Fatalf("%v, passed up to %d, then told: %v", s, to, told)
				}
			}
		}
	}
}
