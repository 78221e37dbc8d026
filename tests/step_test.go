package tests

import (
	"math"
	"reflect"
	"slices"
	"testing"

	"loop.example/tether/impl"
)

// stepCase: what the act makes of the train; want counts with Code 0 alone.
type stepCase struct {
	name string
	line impl.Line
	body impl.Body
	n    int
	code int
	want impl.Line
	then impl.Body
}

// checkStep asks for the answer, and that the argument stays, nothing is shared, and the same comes again.
func checkStep(t *testing.T, name string, fresh func() impl.World, a impl.Act, code int, want impl.World) {
	t.Helper()
	w, before := roomyWorld(fresh()), wholeWorld(roomyWorld(fresh()))
	m := impl.Step(w, a)
	if m.Code != code || !sameWorld(m.World, want) {
		t.Errorf("%s: Code %d, not %d; %v, not %v", name, m.Code, code, m.World, want)
	}
	if !reflect.DeepEqual(wholeWorld(w), before) {
		t.Errorf("%s: the argument was written into: %v", name, wholeWorld(w))
	}
	again := impl.Step(w, a)
	if !reflect.DeepEqual(m, again) {
		t.Errorf("%s: another answer to the same argument: %v, %v", name, m, again)
	}
	checkWorldsApart(t, name, nil, w, m.World, again.World)
}

func checkSteps(t *testing.T, op int, cases []stepCase) {
	t.Helper()
	for _, c := range cases {
		for place := range 3 {
			fresh := func() impl.World { return midst(c.line, c.body, place) }
			if impl.Step(fresh(), tell(place)).Code != 0 {
				t.Fatalf("%s: the world of the test is not right", c.name)
			}
			want := fresh()
			if c.code == 0 {
				want = midst(c.want, c.then, place)
			}
			acts := []impl.Act{{Op: op, Train: place, N: c.n}, {Op: op, Train: place, N: c.n, Event: impl.Event{Op: 9, Train: -1, N: -1}}}
			if op != impl.WTake {
				for _, n := range farOff {
					acts = append(acts, impl.Act{Op: op, Train: place, N: n, Event: impl.Event{Op: impl.TAdd, Train: 1, N: 9}})
				}
			}
			for _, a := range acts {
				checkStep(t, c.name, fresh, a, c.code, want)
			}
			if next := impl.Step(want, tell(place)); next.Code != 0 {
				t.Errorf("%s, at %d: the world behind it is not right: %v", c.name, place, want)
			}
		}
	}
}

// sentTo has Gone 2 and total 6; its second leash ends at cell 3, the others at the end or between.
func sentTo() impl.Line {
	return impl.Line{Gone: 2, Way: []int{5, 6, 7, 8}, Grants: g(3, 6, 4, 3, 5, 4, 6, 5, 7, 6), Drop: -1}
}

func TestStepTake(t *testing.T) {
	l := sentTo()
	old := impl.Line{Gone: 2, Way: []int{5, 6, 7}, Grants: g(impl.MaxCells-1, 5, impl.MaxCells, 4), Drop: -1}
	back := impl.Line{Gone: 2, Way: []int{5, 6, 7, 8}, Grants: g(0, 6, 1, 3), Drop: 3}
	bare := impl.Line{Way: []int{5}, Grants: g(0, 1), Drop: -1}
	behind := impl.Line{Gone: 2, Way: []int{5, 6, 7}, Grants: g(0, 5, 1, 0, 2, 1, 3, 2, 4, 3), Drop: -1}
	no := impl.Line{}
	checkSteps(t, impl.WTake, []stepCase{
		{"a shorter one", l, body(3, 6, 2, 2), 5, 0, l, body(5, 4, 2, 2)},
		{"as long", l, body(3, 6, 2, 3), 7, 0, l, body(7, 6, 2, 3)},
		{"a longer one", l, body(5, 4, 2, 3), 6, 0, l, body(6, 5, 2, 3)},
		{"one above its own", l, body(6, 5, 3, 4), 7, 0, l, body(7, 6, 3, 4)},
		{"versions skipped", l, body(3, 6, 2, 3), 6, 0, l, body(6, 5, 2, 3)},
		{"its own", l, body(3, 6, 2, 2), 3, 2, no, impl.Body{}},
		{"its own, the last one", l, body(7, 6, 2, 2), 7, 2, no, impl.Body{}},
		{"one that was skipped", l, body(5, 4, 2, 2), 4, 2, no, impl.Body{}},
		{"one that was skipped and ends at Front", l, body(5, 4, 2, 3), 4, 2, no, impl.Body{}},
		{"an older one", l, body(6, 5, 2, 2), 3, 2, no, impl.Body{}},
		{"no Grant's any more", l, body(5, 4, 2, 2), 2, 2, no, impl.Body{}},
		{"no Grant's any more, long ago", l, body(5, 4, 2, 2), 0, 2, no, impl.Body{}},
		{"no Grant's yet", l, body(5, 4, 2, 2), 8, 2, no, impl.Body{}},
		{"none above its own, no Grant's yet", l, body(7, 6, 2, 2), 8, 2, no, impl.Body{}},
		{"no version at all", l, body(5, 4, 2, 2), -1, 2, no, impl.Body{}},
		{"far below", l, body(5, 4, 2, 2), math.MinInt, 2, no, impl.Body{}},
		{"far beyond", l, body(5, 4, 2, 2), math.MaxInt, 2, no, impl.Body{}},
		{"as many Cells as Front", l, body(3, 6, 2, 3), 4, 3, no, impl.Body{}},
		{"one more than Front", l, body(3, 6, 2, 3), 5, 0, l, body(5, 4, 2, 3)},
		{"one more than Front, Tail at it", l, body(3, 6, 3, 3), 5, 0, l, body(5, 4, 3, 3)},
		{"one more than Front, at the end", l, body(3, 6, 2, 5), 7, 0, l, body(7, 6, 2, 5)},
		{"as many as Front, at the end", l, body(3, 6, 2, 5), 6, 3, no, impl.Body{}},
		{"behind Front", l, body(3, 6, 2, 4), 4, 3, no, impl.Body{}},
		{"behind Tail", l, body(3, 6, 4, 5), 4, 3, no, impl.Body{}},
		{"of no Cells", behind, body(0, 5, 2, 2), 1, 3, no, impl.Body{}},
		{"below Gone", behind, body(0, 5, 2, 2), 2, 3, no, impl.Body{}},
		{"at Gone", behind, body(0, 5, 2, 2), 3, 3, no, impl.Body{}},
		{"one beyond Gone", behind, body(0, 5, 2, 2), 4, 0, behind, body(4, 3, 2, 2)},
		{"the last version that there can be", old, body(impl.MaxCells-1, 5, 2, 3), impl.MaxCells, 0, old, body(impl.MaxCells, 4, 2, 3)},
		{"one beyond the last version", old, body(impl.MaxCells, 4, 2, 3), impl.MaxCells + 1, 2, no, impl.Body{}},
		{"to be shortened, nothing goes yet", back, body(0, 6, 2, 2), 1, 0, back, body(1, 3, 2, 2)},
		{"to be shortened, behind Front", back, body(0, 6, 2, 3), 1, 3, no, impl.Body{}},
		{"0 of the beginning", bare, body(0, 1, 0, 0), 0, 2, no, impl.Body{}},
		{"1 of the beginning", bare, body(0, 1, 0, 0), 1, 2, no, impl.Body{}},
	})
}

func TestStepTell(t *testing.T) {
	l := sentTo()
	left := func(l impl.Line, from int) impl.Line {
		return with(l, func(l *impl.Line) { l.Grants = l.Grants[from:] })
	}
	long := []int{10, 11, 12, 13, 14, 15}
	back := impl.Line{Gone: 2, Way: long, Grants: g(0, 8, 1, 6, 2, 4), Drop: 4}
	last := impl.MaxCells
	old := impl.Line{Gone: last - 3, Way: []int{5, 6, 7}, Grants: g(last-1, last, last, last), Drop: -1}
	checkSteps(t, impl.WTell, []stepCase{
		{"the oldest", l, body(3, 6, 2, 2), 0, 0, l, body(3, 6, 2, 2)},
		{"the oldest, far ahead", l, body(3, 6, 4, 5), 0, 0, l, body(3, 6, 4, 5)},
		{"one above the oldest", l, body(4, 3, 2, 2), 0, 0, left(l, 1), body(4, 3, 2, 2)},
		{"one behind those that were skipped", l, body(6, 5, 2, 3), 0, 0, left(l, 3), body(6, 5, 2, 3)},
		{"the last one", l, body(7, 6, 3, 3), 0, 0, left(l, 4), body(7, 6, 3, 3)},
		{"shorter ones behind it", impl.Line{Gone: 2, Way: []int{5, 6, 7}, Grants: g(0, 3, 1, 5, 2, 0), Drop: -1}, body(1, 5, 2, 4), 0, 0, impl.Line{Gone: 2, Way: []int{5, 6, 7}, Grants: g(1, 5, 2, 0), Drop: -1}, body(1, 5, 2, 4)},
		{"to be shortened, the oldest", back, body(0, 8, 2, 7), 0, 0, back, body(0, 8, 2, 7)},
		{"to be shortened, a part goes", back, body(1, 6, 2, 5), 0, 0, impl.Line{Gone: 2, Way: long[:4], Grants: g(1, 6, 2, 4), Drop: 4}, body(1, 6, 2, 5)},
		{"to be shortened, the rest goes", back, body(2, 4, 2, 3), 0, 0, impl.Line{Gone: 2, Way: long[:2], Grants: g(2, 4), Drop: -1}, body(2, 4, 2, 3)},
		{"the last version that there can be", old, body(last, last, last-3, last-1), 0, 0, left(old, 1), body(last, last, last-3, last-1)},
		{"of the beginning", impl.Line{Way: []int{5}, Grants: g(0, 1), Drop: -1}, body(0, 1, 0, 0), 0, 0, impl.Line{Way: []int{5}, Grants: g(0, 1), Drop: -1}, body(0, 1, 0, 0)},
	})
}

func TestStepMove(t *testing.T) {
	l := sentTo()
	last := impl.MaxCells
	far := impl.Line{Gone: last - 3, Way: []int{5, 6, 7}, Grants: g(0, last), Drop: -1}
	no := impl.Line{}
	checkSteps(t, impl.WMove, []stepCase{
		{"ordinary", l, body(3, 6, 2, 3), 0, 0, l, body(3, 6, 2, 4)},
		{"Tail at Front", l, body(3, 6, 3, 3), 0, 0, l, body(3, 6, 3, 4)},
		{"to the last cell", l, body(3, 6, 2, 4), 0, 0, l, body(3, 6, 2, 5)},
		{"at the last cell", l, body(3, 6, 2, 5), 0, 3, no, impl.Body{}},
		{"at the last cell, Tail at Front", l, body(3, 6, 5, 5), 0, 3, no, impl.Body{}},
		{"to the last cell of a short leash", l, body(5, 4, 2, 2), 0, 0, l, body(5, 4, 2, 3)},
		{"at the last cell of a short leash, longer ones sent", l, body(5, 4, 2, 3), 0, 3, no, impl.Body{}},
		{"at the last cell of a short leash, longer ones before and behind", l, body(4, 3, 2, 2), 0, 3, no, impl.Body{}},
		{"beyond a leash that it did not take", l, body(3, 6, 2, 2), 0, 0, l, body(3, 6, 2, 3)},
		{"beyond Drop, by an old leash", impl.Line{Gone: 2, Way: []int{5, 6, 7}, Grants: g(0, 5, 1, 2), Drop: 2}, body(0, 5, 2, 2), 0, 0, impl.Line{Gone: 2, Way: []int{5, 6, 7}, Grants: g(0, 5, 1, 2), Drop: 2}, body(0, 5, 2, 3)},
		{"held, but beyond the leash", impl.Line{Way: []int{5, 6}, Grants: g(0, 1), Drop: -1}, body(0, 1, 0, 0), 0, 3, no, impl.Body{}},
		{"to the last cell of all", far, body(0, last, last-3, last-2), 0, 0, far, body(0, last, last-3, last-1)},
		{"at the last cell of all", far, body(0, last, last-3, last-1), 0, 3, no, impl.Body{}},
	})
}

func TestStepTail(t *testing.T) {
	l := sentTo()
	passed := func(l impl.Line, to, drop int) impl.Line {
		return with(l, func(l *impl.Line) { l.Way, l.Gone, l.Drop = l.Way[to-l.Gone:], to, drop })
	}
	back := impl.Line{Gone: 2, Way: []int{5, 6, 7, 8}, Grants: g(0, 6, 1, 2), Drop: 3}
	last := impl.MaxCells
	far := impl.Line{Gone: last - 2, Way: []int{5, 6}, Grants: g(0, last), Drop: -1}
	no := impl.Line{}
	checkSteps(t, impl.WTail, []stepCase{
		{"ordinary", l, body(3, 6, 2, 4), 0, 0, passed(l, 3, -1), body(3, 6, 3, 4)},
		{"up to Front", l, body(3, 6, 2, 3), 0, 0, passed(l, 3, -1), body(3, 6, 3, 3)},
		{"at Front", l, body(3, 6, 2, 2), 0, 3, no, impl.Body{}},
		{"at Front, the last cell", l, body(3, 6, 5, 5), 0, 3, no, impl.Body{}},
		{"at Front, the last cell of a short leash", l, body(4, 3, 2, 2), 0, 3, no, impl.Body{}},
		{"ahead of Gone", l, body(3, 6, 4, 5), 0, 0, passed(l, 5, -1), body(3, 6, 5, 5)},
		{"ahead of Gone, at Front", l, body(3, 6, 4, 4), 0, 3, no, impl.Body{}},
		{"beyond leashes that it did not take", l, body(3, 6, 3, 4), 0, 0, passed(l, 4, -1), body(3, 6, 4, 4)},
		{"up to Drop", back, body(0, 6, 2, 5), 0, 0, passed(back, 3, 3), body(0, 6, 3, 5)},
		{"beyond Drop", back, body(0, 6, 3, 5), 0, 0, passed(back, 4, 4), body(0, 6, 4, 5)},
		{"far beyond Drop", back, body(0, 6, 4, 5), 0, 0, passed(back, 5, 5), body(0, 6, 5, 5)},
		{"to the last cell of all", far, body(0, last, last-2, last-1), 0, 0, passed(far, last-1, -1), body(0, last, last-1, last-1)},
		{"at the last cell of all", far, body(0, last, last-1, last-1), 0, 3, no, impl.Body{}},
	})
}

func TestStepSend(t *testing.T) {
	l := sentTo()
	with20 := impl.Line{Gone: 2, Way: []int{5, 6, 7}, Grants: append(g(0, 5), leashes(19, 1, 4)...), Drop: -1}
	full := impl.Line{Way: upTo(100), Grants: g(0, 1), Drop: -1}
	back := impl.Line{Gone: 2, Way: []int{5, 6, 7}, Grants: g(0, 5, 1, 4), Drop: 4}
	free := impl.Line{Gone: 2, Way: []int{5, 6, 7, 8}, Grants: g(0, 3), Drop: -1}
	for _, c := range []struct {
		name        string
		line        impl.Line
		body        impl.Body
		op, n, code int
		want        impl.Line
	}{
		{"a section", l, body(3, 6, 2, 3), impl.TAdd, 0, 0, added(l, 0)},
		{"the last section", l, body(3, 6, 2, 3), impl.TAdd, 199, 0, added(l, 199)},
		{"one beyond the last section", l, body(3, 6, 2, 3), impl.TAdd, 200, 1, l},
		{"one below section 0", l, body(3, 6, 2, 3), impl.TAdd, -1, 1, l},
		{"its own section", l, body(3, 6, 2, 3), impl.TAdd, 8, 2, l},
		{"another's section", l, body(3, 6, 2, 3), impl.TAdd, 195, 2, l},
		{"a section, to be shortened", back, body(0, 5, 2, 3), impl.TAdd, 0, 3, l},
		{"another's section, to be shortened", back, body(0, 5, 2, 3), impl.TAdd, 195, 2, l},
		{"a section, the Way full", full, body(0, 1, 0, 0), impl.TAdd, 150, 4, l},
		{"a leash", l, body(3, 6, 2, 3), impl.TEnd, 5, 0, sent(l, 8, 5)},
		{"a leash behind Front", l, body(3, 6, 2, 4), impl.TEnd, 3, 0, sent(l, 8, 3)},
		{"a leash to the end", l, body(3, 6, 2, 4), impl.TEnd, 6, 0, sent(l, 8, 6)},
		{"a leash beyond the end", l, body(3, 6, 2, 4), impl.TEnd, 7, 2, l},
		{"a leash below Gone", l, body(3, 6, 2, 4), impl.TEnd, 1, 2, l},
		{"a leash beyond Drop", back, body(0, 5, 2, 3), impl.TEnd, 5, 2, l},
		{"a leash too many", with20, body(0, 5, 2, 3), impl.TEnd, 4, 4, l},
		{"no such leash", l, body(3, 6, 2, 3), impl.TEnd, -1, 1, l},
		{"no such leash, by far", l, body(3, 6, 2, 3), impl.TEnd, impl.MaxCells + 1, 1, l},
		{"to be shortened", back, body(0, 5, 2, 3), impl.TDrop, 4, 0, back},
		{"to be shortened at once", free, body(0, 3, 2, 2), impl.TDrop, 5, 0, with(free, func(l *impl.Line) { l.Way = l.Way[:3] })},
		{"to be shortened to the leash", free, body(0, 3, 2, 2), impl.TDrop, 3, 0, with(free, func(l *impl.Line) { l.Way = l.Way[:1] })},
		{"to be shortened behind the last leash", l, body(3, 6, 2, 3), impl.TDrop, 5, 3, l},
		{"to be shortened below Gone", l, body(3, 6, 2, 3), impl.TDrop, 1, 2, l},
		{"to be shortened to the total", free, body(0, 3, 2, 2), impl.TDrop, 6, 2, l},
		{"to be shortened to nothing", l, body(3, 6, 2, 3), impl.TDrop, math.MinInt, 1, l},
		{"what it took", l, body(3, 6, 2, 3), impl.TAck, 3, 1, l},
		{"what it did not take", l, body(3, 6, 2, 3), impl.TAck, 5, 1, l},
		{"what was not sent", l, body(3, 6, 2, 3), impl.TAck, 9, 1, l},
		{"what it left behind", l, body(3, 6, 3, 3), impl.TPass, 3, 1, l},
		{"what it left behind before", l, body(3, 6, 2, 3), impl.TPass, 2, 1, l},
		{"what it can't leave behind", l, body(3, 6, 2, 3), impl.TPass, 0, 1, l},
		{"nothing", l, body(3, 6, 2, 3), 0, 3, 1, l},
		{"one beyond the Ops", l, body(3, 6, 2, 3), 6, 3, 1, l},
		{"far below the Ops", l, body(3, 6, 2, 3), math.MinInt, 3, 1, l},
		{"far beyond the Ops", l, body(3, 6, 2, 3), math.MaxInt, 3, 1, l},
	} {
		for place := range 3 {
			fresh := func() impl.World { return midst(c.line, c.body, place) }
			want := fresh()
			switch c.code {
			case 0:
				want = midst(c.want, c.body, place)
			case 1:
				want = impl.World{}
			}
			// by which of the trains it is asked does not count, nor does the act's own number
			for act := range 3 {
				a := send(act, c.op, place, c.n)
				a.N = farOff[act]
				checkStep(t, c.name, fresh, a, c.code, want)
			}
			for _, act := range []int{-1, 3, 20, math.MinInt, math.MaxInt} {
				if m := impl.Step(fresh(), send(act, c.op, place, c.n)); !noWorld(m) {
					t.Errorf("%s, by train %d: %v", c.name, act, m)
				}
			}
			for _, of := range []int{-1, 3, 20, math.MinInt, math.MaxInt} {
				if m := impl.Step(fresh(), send(place, c.op, of, c.n)); !noWorld(m) {
					t.Errorf("%s, of train %d: %v", c.name, of, m)
				}
			}
		}
	}
}

func TestStepNoSuchAct(t *testing.T) {
	w := twoTrains()
	for train := range 2 {
		for _, a := range everyOp(train) {
			if impl.Step(w, a).Code == 1 {
				t.Errorf("%v: Code 1", a)
			}
			for _, op := range []int{0, 6, -1, math.MinInt, math.MaxInt} {
				b := a
				b.Op = op
				if m := impl.Step(w, b); !noWorld(m) {
					t.Errorf("%v: %v", b, m)
				}
			}
			for _, of := range []int{-1, 2, 19, 20, math.MinInt, math.MaxInt} {
				b := a
				b.Train = of
				if m := impl.Step(w, b); !noWorld(m) {
					t.Errorf("%v: %v", b, m)
				}
				b.Op = 9
				if m := impl.Step(w, b); !noWorld(m) {
					t.Errorf("%v: %v", b, m)
				}
			}
		}
	}
	for _, a := range everyOp(0) {
		if m := impl.Step(impl.Start(3, nil), a); !noWorld(m) {
			t.Errorf("no trains, %v: %v", a, m)
		}
	}
}

// spoilt is a world that has one thing wrong.
type spoilt struct {
	name string
	w    impl.World
}

func bodyFaults() []spoilt {
	var out []spoilt
	bad := func(name string, train int, b impl.Body) {
		w := twoTrains()
		w.Bodies[train] = b
		out = append(out, spoilt{name, w})
	}
	least, most := math.MinInt, math.MaxInt
	bad("version of none, below", 0, body(2, 5, 2, 3))
	bad("version of none, beyond", 0, body(6, 5, 2, 3))
	bad("version far below", 0, body(least, 5, 2, 3))
	bad("version far beyond", 0, body(most, 5, 2, 3))
	bad("the Cells of another version", 0, body(5, 5, 2, 3))
	bad("Cells between those that there are", 1, body(1, 3, 1, 1))
	bad("fewer Cells than its version's", 0, body(4, 4, 2, 3))
	bad("fewer Cells than its version's, of the last", 1, body(0, 2, 1, 1))
	bad("no one's Cells", 0, body(4, 6, 2, 3))
	bad("Cells far beyond", 0, body(4, most, 2, 3))
	bad("Cells far below", 0, body(4, least, 2, 3))
	bad("the leash of the other train", 1, body(4, 5, 1, 1))
	bad("the leash of the first train", 0, body(0, 3, 2, 2))
	bad("Tail below Gone", 0, body(4, 5, 1, 3))
	bad("Tail below Gone, of the last", 1, body(0, 3, 0, 1))
	bad("Tail far below", 0, body(4, 5, least, 3))
	bad("Tail beyond Front", 0, body(4, 5, 4, 3))
	bad("Tail beyond Front, of the last", 1, body(0, 3, 2, 1))
	bad("Tail far beyond", 0, body(4, 5, most, 3))
	bad("Front at Cells", 0, body(4, 5, 2, 5))
	bad("Front at Cells, of a short leash", 0, body(5, 4, 2, 4))
	bad("Front at Cells, of the last", 1, body(1, 2, 1, 2))
	bad("Front beyond Cells", 0, body(5, 4, 2, 5))
	bad("Front far beyond", 0, body(4, 5, 2, most))
	bad("Front far below", 0, body(4, 5, 2, least))
	bad("both far beyond", 0, body(4, 5, most, most))
	bad("both far below", 0, body(4, 5, least, least))
	bad("nothing", 0, impl.Body{})
	bad("nothing, of the last", 1, impl.Body{})
	return out
}

func worldFaults() []spoilt {
	out := []spoilt{{"zero", impl.World{}}, {"Ok alone", impl.World{Ok: true}}}
	bad := func(name string, spoil func(w *impl.World)) {
		w := twoTrains()
		spoil(&w)
		out = append(out, spoilt{name, w})
	}
	bad("not Ok", func(w *impl.World) { w.Ok = false })
	bad("a Body less", func(w *impl.World) { w.Bodies = w.Bodies[:1] })
	bad("no Bodies", func(w *impl.World) { w.Bodies = nil })
	bad("a Body more", func(w *impl.World) { w.Bodies = append(w.Bodies, body(0, 1, 0, 0)) })
	bad("a line less", func(w *impl.World) { w.Book.Lines = w.Book.Lines[:1] })
	bad("no lines", func(w *impl.World) { w.Book.Lines = nil })
	bad("no book", func(w *impl.World) { w.Book = impl.Book{} })
	bad("Bodies changed about", func(w *impl.World) { slices.Reverse(w.Bodies) })
	for _, f := range faults() {
		for line := range 2 {
			bad(f.name, func(w *impl.World) { f.spoil(&w.Book, line) })
		}
	}
	many := started(200, upTo(21))
	return append(append(out, spoilt{"too many trains", many}), bodyFaults()...)
}

func TestStepOfWrongWorlds(t *testing.T) {
	for _, f := range worldFaults() {
		before := wholeWorld(roomyWorld(f.w))
		w := roomyWorld(f.w)
		for train := -1; train <= 21; train++ {
			for _, a := range append(everyOp(train), add(train, 1), take(train, 5), drop(train, 4), impl.Act{Op: 9, Train: train}) {
				if m := impl.Step(w, a); !noWorld(m) {
					t.Errorf("%s, %v: %v", f.name, a, m)
				}
			}
		}
		for _, s := range append(upTo(200), -1, 200, math.MinInt, math.MaxInt) {
			if on := impl.On(w, s); len(on) != 0 {
				t.Errorf("%s: %v on %d", f.name, on, s)
			}
		}
		if !reflect.DeepEqual(wholeWorld(w), before) {
			t.Errorf("%s: the argument was written into: %v", f.name, wholeWorld(w))
		}
	}
}

func TestStepOfRightWorlds(t *testing.T) {
	// each edge of what is right, by either train
	for _, b := range []impl.Body{
		body(3, 3, 2, 2), body(4, 5, 2, 2), body(4, 5, 2, 4), body(4, 5, 3, 3), body(4, 5, 4, 4), body(5, 4, 2, 3), body(5, 4, 3, 3),
	} {
		w := twoTrains()
		w.Bodies[0] = b
		if impl.Step(w, tell(0)).Code != 0 || impl.Step(w, tell(1)).Code != 0 {
			t.Errorf("%v: not right", b)
		}
	}
	for _, b := range []impl.Body{body(0, 3, 1, 1), body(0, 3, 1, 2), body(0, 3, 2, 2), body(1, 2, 1, 1)} {
		w := twoTrains()
		w.Bodies[1] = b
		if impl.Step(w, tell(0)).Code != 0 || impl.Step(w, tell(1)).Code != 0 {
			t.Errorf("%v: not right", b)
		}
	}
	if w := started(200, upTo(20)); impl.Step(w, tell(19)).Code != 0 {
		t.Error("as many trains as there can be")
	}
}
