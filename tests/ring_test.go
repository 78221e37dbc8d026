package tests

import (
	"fmt"
	"math/rand"
	"slices"
	"testing"

	"loop.example/tether/impl"
)

// ring is two trains on a ring of n sections, of which a test knows the places by counting.
type ring struct {
	n     int
	at    []int
	moved []int
	w     impl.World
	acts  []impl.Act
}

func newRing(n, first, second int) *ring {
	at := []int{first, second}
	return &ring{n: n, at: at, moved: []int{0, 0}, w: impl.Start(n, at)}
}

// place is the section that the train is on when it has left those behind it.
func (r *ring) place(train int) int { return (r.at[train] + r.moved[train]) % r.n }

// do is the Code of the act.
func (r *ring) do(a impl.Act) int {
	m := impl.Step(r.w, a)
	r.acts = append(r.acts, a)
	if m.Code != 1 {
		r.w = m.World
	}
	return m.Code
}

// all tells which of the acts was the first that was not done, none when each was.
func (r *ring) all(acts ...impl.Act) string {
	for _, a := range acts {
		if code := r.do(a); code != 0 {
			return fmt.Sprintf("%v: Code %d", a, code)
		}
	}
	return ""
}

// turn has the train ask for its next section and, when that is not the other one's, come on to it; lost is how many leashes it never gets.
func (r *ring) turn(train, lost int) string {
	next := (r.place(train) + 1) % r.n
	code := r.do(add(train, next))
	if next == r.place(1-train) {
		if code != 2 {
			return fmt.Sprintf("train %d gets section %d of the other one: Code %d", train, next, code)
		}
		return ""
	}
	if code != 0 {
		return fmt.Sprintf("train %d does not get section %d: Code %d", train, next, code)
	}
	cells := r.moved[train] + 2
	grants := r.w.Book.Lines[train].Grants
	version := grants[len(grants)-1].Version
	for range lost + 1 {
		if what := r.all(end(train, cells)); what != "" {
			return what
		}
	}
	if what := r.all(take(train, version+lost+1), tell(train), move(train), tail(train)); what != "" {
		return what
	}
	r.moved[train]++
	if on := impl.On(r.w, next); !slices.Equal(on, []int{train}) {
		return fmt.Sprintf("train %d did not come on to section %d: %v", train, next, on)
	}
	return ""
}

// check asks that each train is on its place, and nowhere else, and that Drive answers so too.
func (r *ring) check() string {
	for s := range r.n {
		var want []int
		for train := range 2 {
			if r.place(train) == s {
				want = append(want, train)
			}
		}
		if got := impl.On(r.w, s); !sameList(got, want) {
			return fmt.Sprintf("%v on section %d, not %v", got, s, want)
		}
	}
	if len(r.acts) <= impl.MaxEvents {
		run := impl.Drive(r.n, r.at, r.acts)
		if len(run) != len(r.acts) || !sameWorld(run[len(run)-1].World, r.w) {
			return "Drive has another end"
		}
	}
	return ""
}

func TestGoRound(t *testing.T) {
	for n := 3; n <= 12; n++ {
		for gap := 1; gap < n; gap++ {
			for lost := range 3 {
				r := newRing(n, gap%n, (gap+gap)%n)
				// whoever waits comes on behind the other one's next turn
				for turns := range 8 * n {
					if what := r.turn(turns%2, lost); what != "" {
						t.Fatalf("ring of %d, %d apart, turn %d: %s", n, gap, turns, what)
					}
				}
				if what := r.check(); what != "" || r.moved[0] < 2*n || r.moved[1] < 2*n {
					t.Errorf("ring of %d, %d apart: moved %v; %s", n, gap, r.moved, what)
				}
			}
		}
	}
}

func TestGoRoundInAnyOrder(t *testing.T) {
	for n := 3; n <= 12; n++ {
		for seed := range 5 {
			rnd := rand.New(rand.NewSource(int64(seed)))
			r := newRing(n, 0, 1+rnd.Intn(n-1))
			for turns := range 12 * n {
				if what := r.turn(rnd.Intn(2), rnd.Intn(4)); what != "" {
					t.Fatalf("ring of %d, seed %d, turn %d: %s", n, seed, turns, what)
				}
			}
			if what := r.check(); what != "" || r.moved[0] < n || r.moved[1] < n {
				t.Errorf("ring of %d, seed %d: moved %v; %s", n, seed, r.moved, what)
			}
		}
	}
}

// A train that is as long as the ring lets it: it asks for all that is free, goes to the end of it, and its tail comes behind.
func TestGoRoundStretched(t *testing.T) {
	for n := 3; n <= 12; n++ {
		r := newRing(n, 0, 1)
		for turns := range 2 * n {
			train := 1 - turns%2
			start := r.moved[train]
			for next := (r.place(train) + 1) % n; next != r.place(1-train); next = (r.place(train) + 1) % n {
				if what := r.all(add(train, next)); what != "" {
					t.Fatalf("ring of %d: %s", n, what)
				}
				r.moved[train]++
			}
			if code := r.do(add(train, r.place(1-train))); code != 2 || r.moved[train] != start+n-2 {
				t.Fatalf("ring of %d, train %d: Code %d, moved %d", n, train, code, r.moved[train]-start)
			}
			last := r.w.Book.Lines[train].Grants
			if what := r.all(end(train, r.moved[train]+1), take(train, last[len(last)-1].Version+1), tell(train)); what != "" {
				t.Fatalf("ring of %d: %s", n, what)
			}
			for range n - 2 {
				if what := r.all(move(train)); what != "" {
					t.Fatalf("ring of %d: %s", n, what)
				}
			}
			for range n - 2 {
				// what is under it is nobody else's
				if code := r.do(add(1-train, (r.at[train]+start)%n)); code != 2 {
					t.Fatalf("ring of %d: the other one gets what is under train %d: Code %d", n, train, code)
				}
				if what := r.all(tail(train)); what != "" {
					t.Fatalf("ring of %d: %s", n, what)
				}
				start++
			}
		}
		if what := r.check(); what != "" {
			t.Errorf("ring of %d: %s", n, what)
		}
	}
}
