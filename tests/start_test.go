package tests

import (
	"fmt"
	"math"
	"slices"
	"testing"

	"loop.example/tether/impl"
)

// started is what Start is to answer, written out.
func started(sections int, at []int) impl.World {
	w := impl.World{Ok: true, Book: impl.Book{Ok: true, Sections: sections}}
	for _, s := range at {
		w.Book.Lines = append(w.Book.Lines, impl.Line{Way: []int{s}, Grants: g(0, 1), Drop: -1})
		w.Bodies = append(w.Bodies, body(0, 1, 0, 0))
	}
	return w
}

func TestStart(t *testing.T) {
	backward := upTo(200)
	slices.Reverse(backward)
	for _, c := range []struct {
		sections int
		at       []int
	}{
		{4, []int{0, 2}}, {4, []int{3, 0}}, {1, []int{0}}, {1, nil}, {200, []int{}}, {200, []int{199}},
		{20, upTo(20)}, {200, upTo(20)}, {200, backward[:20]}, {5, []int{4, 3, 2, 1, 0}},
	} {
		w := impl.Start(c.sections, c.at)
		if !sameWorld(w, started(c.sections, c.at)) {
			t.Errorf("%v: %v", c, w)
		}
		// right, so each train can be asked
		for i := range c.at {
			if m := impl.Step(w, tell(i)); m.Code != 0 || !sameWorld(m.World, w) {
				t.Errorf("%v, train %d: %v", c, i, m)
			}
			if on := impl.On(w, c.at[i]); !slices.Equal(on, []int{i}) {
				t.Errorf("%v, train %d: %v", c, i, on)
			}
		}
		checkWorldsApart(t, fmt.Sprint(c), []stretch{stretchOf(c.at)}, w)
	}
}

func TestStartRefuses(t *testing.T) {
	twice := upTo(20)
	twice[19] = 0
	for _, c := range []struct {
		sections int
		at       []int
	}{
		{0, nil}, {-1, nil}, {201, nil}, {math.MinInt, nil}, {math.MaxInt, nil},
		{0, []int{0}}, {-1, []int{0}}, {201, []int{0}}, {math.MinInt, []int{0}}, {math.MaxInt, []int{0}},
		{200, upTo(21)}, {200, upTo(200)}, {200, make([]int, 5000)},
		{4, []int{-1}}, {4, []int{4}}, {4, []int{math.MinInt}}, {4, []int{math.MaxInt}}, {200, []int{200}},
		{4, []int{0, -1}}, {4, []int{0, 4}}, {4, []int{4, 0}}, {1, []int{0, 1}},
		{4, []int{1, 1}}, {4, []int{0, 1, 0}}, {4, []int{2, 1, 1}}, {1, []int{0, 0}}, {200, twice},
	} {
		if w := impl.Start(c.sections, c.at); !sameWorld(w, impl.World{}) {
			t.Errorf("%v: %v", c, w)
		}
		if run := impl.Drive(c.sections, c.at, []impl.Act{tell(0)}); len(run) != 0 {
			t.Errorf("%v: Drive has %v", c, run)
		}
		if text := impl.Answer(c.sections, c.at, []impl.Act{tell(0)}); text != "" {
			t.Errorf("%v: Answer has %q", c, text)
		}
	}
}

func TestStartLeavesItsArgument(t *testing.T) {
	at := []int{3, 0, 2, -77}
	w := impl.Start(5, at[:3])
	if !slices.Equal(at, []int{3, 0, 2, -77}) {
		t.Errorf("written into: %v", at)
	}
	w.Book.Lines[0].Way[0], w.Bodies[1].Front = 4, 9
	if !slices.Equal(at, []int{3, 0, 2, -77}) || !sameWorld(impl.Start(5, at[:3]), started(5, at[:3])) {
		t.Error("another answer to the same argument")
	}
}
