package tests

import (
	"fmt"
	"math"
	"reflect"
	"testing"

	"loop.example/tether/impl"
)

func codes(run []impl.Done) []int {
	var out []int
	for _, d := range run {
		out = append(out, d.Code)
	}
	return out
}

// story has every Op, each Code that a small book can come to, and events that are none between them.
func story() []impl.Event {
	return []impl.Event{
		{Op: impl.TAdd, Train: 0, N: 3}, {Op: impl.TAdd, Train: 1, N: 3}, {Op: impl.TAdd, Train: 1, N: 6},
		{Op: impl.TAdd, Train: 0, N: 4}, {Op: impl.TAdd, Train: 0, N: 5}, {Op: impl.TAdd, Train: 0, N: 7},
		{Op: impl.TEnd, Train: 0, N: 3}, {Op: 9, Train: 0, N: 0}, {Op: impl.TAck, Train: 0, N: 1},
		{Op: impl.TPass, Train: 0, N: 1}, {Op: impl.TDrop, Train: 0, N: 2}, {Op: impl.TEnd, Train: 0, N: 1},
		{Op: impl.TDrop, Train: 0, N: 1}, {Op: impl.TAdd, Train: 0, N: 1}, {Op: impl.TAdd, Train: 1, N: 4},
		{Op: impl.TAck, Train: 0, N: 2}, {Op: impl.TAdd, Train: 1, N: 4}, {Op: impl.TAdd, Train: 2, N: 5},
	}
}

func TestRunStory(t *testing.T) {
	run := impl.Run(7, 2, story())
	want := []int{0, 2, 0, 0, 0, 1, 0, 1, 0, 0, 3, 0, 0, 3, 2, 0, 0, 1}
	if !reflect.DeepEqual(codes(run), want) {
		t.Fatalf("%v, not %v", codes(run), want)
	}
	line := func(gone int, way []int, grants []impl.Grant, drop int) impl.Line {
		return impl.Line{Gone: gone, Way: way, Grants: grants, Drop: drop}
	}
	six := line(0, []int{6}, g(0, 0), -1)
	for at, lines := range map[int][]impl.Line{
		0:  {line(0, []int{3}, g(0, 0), -1), line(0, nil, g(0, 0), -1)},
		5:  {line(0, []int{3, 4, 5}, g(0, 0), -1), six},
		7:  {line(0, []int{3, 4, 5}, g(0, 0, 1, 3), -1), six},
		9:  {line(1, []int{4, 5}, g(1, 3), -1), six},
		10: {line(1, []int{4, 5}, g(1, 3), -1), six},
		12: {line(1, []int{4, 5}, g(1, 3, 2, 1), 1), six},
		14: {line(1, []int{4, 5}, g(1, 3, 2, 1), 1), six},
		15: {line(1, nil, g(2, 1), -1), six},
		17: {line(1, nil, g(2, 1), -1), line(0, []int{6, 4}, g(0, 0), -1)},
	} {
		if want := (impl.Book{Ok: true, Sections: 7, Lines: lines}); !same(run[at].Book, want) {
			t.Errorf("behind event %d: %v, not %v", at, run[at].Book, want)
		}
	}
}

// checkRun asks that the run is what Do answers, one event behind the other, and that its books are right.
func checkRun(t *testing.T, name string, sections, trains int, events []impl.Event) {
	t.Helper()
	run := impl.Run(sections, trains, events)
	if len(run) != len(events) {
		t.Errorf("%s: %d answers for %d events", name, len(run), len(events))
		return
	}
	b := impl.Begin(sections, trains)
	for i, e := range events {
		d := impl.Do(b, e)
		if d.Code == 1 {
			d.Book = b
		}
		if run[i].Code != d.Code || !same(run[i].Book, d.Book) {
			t.Errorf("%s, event %d: %v, not %v", name, i, run[i], d)
			return
		}
		if impl.BookOk(run[i].Book) != 0 {
			t.Errorf("%s, event %d: the book is not right: %v", name, i, run[i].Book)
			return
		}
		b = d.Book
	}
}

func TestRunIsDoForEach(t *testing.T) {
	checkRun(t, "story", 7, 2, story())
	for n := range story() {
		checkRun(t, fmt.Sprintf("the first %d of the story", n), 7, 2, story()[:n])
	}
	checkRun(t, "fewer sections", 5, 2, story())
	checkRun(t, "one train", 7, 1, story())
	checkRun(t, "no trains", 7, 0, story())
	checkRun(t, "all that there can be", 200, 20, story())
	checkRun(t, "no events", 3, 1, nil)
	wrong := []impl.Event{{}, {Op: math.MinInt, Train: math.MinInt, N: math.MinInt}, {Op: math.MaxInt, Train: math.MaxInt, N: math.MaxInt}, {Op: impl.TPass, N: math.MaxInt}, {Op: impl.TEnd, N: math.MinInt}}
	checkRun(t, "none that are one", 3, 1, wrong)
	if got := codes(impl.Run(3, 1, wrong)); !reflect.DeepEqual(got, []int{1, 1, 1, 1, 1}) {
		t.Errorf("none that are one: %v", got)
	}
}

func TestRunRefuses(t *testing.T) {
	for _, c := range []struct{ sections, trains int }{
		{0, 1}, {-1, 1}, {201, 1}, {math.MinInt, 1}, {math.MaxInt, 1}, {3, -1}, {3, 21}, {3, math.MinInt}, {3, math.MaxInt},
	} {
		if run := impl.Run(c.sections, c.trains, story()); len(run) != 0 {
			t.Errorf("%v: %d answers", c, len(run))
		}
	}
}

func TestRunAtMaxEvents(t *testing.T) {
	// to and fro, so that each of the events is done
	var events []impl.Event
	for i := 0; len(events) < impl.MaxEvents; i++ {
		events = append(events, impl.Event{Op: impl.TAdd, N: i % 3}, impl.Event{Op: impl.TEnd, N: i + 1}, impl.Event{Op: impl.TAck, N: i + 1}, impl.Event{Op: impl.TPass, N: i + 1})
	}
	run := impl.Run(3, 1, events)
	if len(run) != 2000 {
		t.Fatalf("%d answers", len(run))
	}
	for i, d := range run {
		if d.Code != 0 {
			t.Fatalf("event %d: Code %d", i, d.Code)
		}
	}
	want := impl.Book{Ok: true, Sections: 3, Lines: []impl.Line{{Gone: 500, Grants: g(500, 500), Drop: -1}}}
	if !same(run[1999].Book, want) {
		t.Errorf("%v, not %v", run[1999].Book, want)
	}
	if more := impl.Run(3, 1, append(events, impl.Event{Op: impl.TAdd})); len(more) != 0 {
		t.Errorf("one event more: %d answers", len(more))
	}
	if more := impl.Run(3, 1, make([]impl.Event, 2001)); len(more) != 0 {
		t.Errorf("one event more, that are none: %d answers", len(more))
	}
	checkRun(t, "2000", 3, 1, events)
}

func TestRunSharesNoMemory(t *testing.T) {
	events := story()
	run := impl.Run(7, 2, events)
	var books []impl.Book
	for _, d := range run {
		books = append(books, d.Book)
	}
	checkApart(t, "the story", books...)
	none := impl.Run(7, 2, make([]impl.Event, 3))
	checkApart(t, "none that are one", none[0].Book, none[1].Book, none[2].Book)
	if !reflect.DeepEqual(events, story()) {
		t.Error("the events were written into")
	}
	if !reflect.DeepEqual(run, impl.Run(7, 2, events)) {
		t.Error("another answer to the same events")
	}
}

func TestRunWritesNothingBehindItsEvents(t *testing.T) {
	events := append(story(), impl.Event{Op: -77})
	impl.Run(7, 2, events[:len(events)-1])
	if events[len(events)-1].Op != -77 {
		t.Error("written behind the events")
	}
}
