package tests

import (
	"fmt"
	"math"
	"reflect"
	"runtime"
	"slices"
	"strings"
	"testing"
	"time"

	"loop.example/tether/impl"
)

// tale has every Op, each Code but 4, and acts that are none between them; two trains, on 0 and 4 of 7 sections.
func tale() []impl.Act {
	return []impl.Act{
		add(0, 1), add(0, 2), add(0, 3), end(0, 4), move(0), take(0, 1), move(0), move(0), {Op: 9}, tail(0),
		end(0, 2), take(0, 2), end(0, 3), take(0, 3), drop(0, 3), add(1, 3), take(0, 2), tell(0), add(1, 3), send(1, impl.TAck, 0, 3),
		tail(0), tail(0), send(2, impl.TAdd, 0, 0), end(1, 2), send(0, impl.TEnd, 1, 1), take(1, 3), take(1, 1), add(0, 7), send(0, impl.TPass, 0, 3), tell(1),
	}
}

func TestDriveTale(t *testing.T) {
	run := impl.Drive(7, []int{0, 4}, tale())
	want := []int{0, 0, 0, 0, 3, 0, 0, 0, 1, 0, 0, 3, 0, 0, 0, 2, 2, 0, 0, 1, 0, 3, 1, 0, 0, 2, 0, 1, 1, 0}
	if !slices.Equal(codesOf(run), want) {
		t.Fatalf("%v, not %v", codesOf(run), want)
	}
	line := func(gone int, way []int, drop int, grants ...int) impl.Line {
		return impl.Line{Gone: gone, Way: way, Grants: g(grants...), Drop: drop}
	}
	four, stood := line(0, []int{4}, -1, 0, 1), body(0, 1, 0, 0)
	for at, w := range map[int]impl.World{
		0:  {Book: impl.Book{Lines: []impl.Line{line(0, []int{0, 1}, -1, 0, 1), four}}, Bodies: []impl.Body{stood, stood}},
		4:  {Book: impl.Book{Lines: []impl.Line{line(0, []int{0, 1, 2, 3}, -1, 0, 1, 1, 4), four}}, Bodies: []impl.Body{stood, stood}},
		8:  {Book: impl.Book{Lines: []impl.Line{line(0, []int{0, 1, 2, 3}, -1, 0, 1, 1, 4), four}}, Bodies: []impl.Body{body(1, 4, 0, 2), stood}},
		11: {Book: impl.Book{Lines: []impl.Line{line(1, []int{1, 2, 3}, -1, 0, 1, 1, 4, 2, 2), four}}, Bodies: []impl.Body{body(1, 4, 1, 2), stood}},
		15: {Book: impl.Book{Lines: []impl.Line{line(1, []int{1, 2, 3}, 3, 0, 1, 1, 4, 2, 2, 3, 3), four}}, Bodies: []impl.Body{body(3, 3, 1, 2), stood}},
		17: {Book: impl.Book{Lines: []impl.Line{line(1, []int{1, 2}, -1, 3, 3), four}}, Bodies: []impl.Body{body(3, 3, 1, 2), stood}},
		22: {Book: impl.Book{Lines: []impl.Line{line(2, []int{2}, -1, 3, 3), line(0, []int{4, 3}, -1, 0, 1)}}, Bodies: []impl.Body{body(3, 3, 2, 2), stood}},
		29: {Book: impl.Book{Lines: []impl.Line{line(2, []int{2}, -1, 3, 3), line(0, []int{4, 3}, -1, 1, 2, 2, 1)}}, Bodies: []impl.Body{body(3, 3, 2, 2), body(1, 2, 0, 0)}},
	} {
		w.Ok, w.Book.Ok, w.Book.Sections = true, true, 7
		if !sameWorld(run[at].World, w) {
			t.Errorf("behind act %d: %v, not %v", at, run[at].World, w)
		}
	}
}

// checkDrive asks that the run is what Step answers, one act behind the other.
func checkDrive(t *testing.T, name string, sections int, at []int, acts []impl.Act) {
	t.Helper()
	run := impl.Drive(sections, at, acts)
	if len(run) != len(acts) {
		t.Errorf("%s: %d answers for %d acts", name, len(run), len(acts))
		return
	}
	w := impl.Start(sections, at)
	for i, a := range acts {
		m := impl.Step(w, a)
		if m.Code == 1 {
			m.World = w
		}
		if run[i].Code != m.Code || !sameWorld(run[i].World, m.World) {
			t.Errorf("%s, act %d: %v, not %v", name, i, run[i], m)
			return
		}
		w = m.World
	}
}

func TestDriveIsStepForEach(t *testing.T) {
	checkDrive(t, "tale", 7, []int{0, 4}, tale())
	for n := range tale() {
		checkDrive(t, fmt.Sprintf("the first %d of the tale", n), 7, []int{0, 4}, tale()[:n])
	}
	checkDrive(t, "other places", 7, []int{6, 2}, tale())
	checkDrive(t, "fewer sections", 5, []int{0, 4}, tale())
	checkDrive(t, "one train", 7, []int{0}, tale())
	checkDrive(t, "no trains", 7, nil, tale())
	checkDrive(t, "all that there can be", 200, upTo(20), tale())
	checkDrive(t, "no acts", 3, []int{1}, nil)
	least, most := math.MinInt, math.MaxInt
	wrong := []impl.Act{{}, {Op: least, Train: least, N: least}, {Op: most, Train: most, N: most}, {Op: impl.WMove, Train: most}, {Op: impl.WSend, N: most}, send(0, least, least, least), send(0, impl.TEnd, 0, most), send(least, impl.TAdd, 0, 0)}
	checkDrive(t, "none that are one", 3, []int{1}, wrong)
	for i, m := range impl.Drive(3, []int{1}, wrong) {
		if m.Code != 1 || !sameWorld(m.World, started(3, []int{1})) {
			t.Errorf("none that are one, act %d: %v", i, m)
		}
	}
}

// onward is n acts, all of them done: a train on a ring of 3 sections.
func onward(n int) []impl.Act {
	var acts []impl.Act
	for i := 1; len(acts) < n; i++ {
		acts = append(acts, add(0, i%3), end(0, i+1), take(0, i), move(0), tail(0), tell(0))
	}
	return acts[:n]
}

func TestDriveAtMaxEvents(t *testing.T) {
	run := impl.Drive(3, []int{0}, onward(2000))
	if len(run) != 2000 {
		t.Fatalf("%d answers", len(run))
	}
	for i, m := range run {
		if m.Code != 0 {
			t.Fatalf("act %d: Code %d", i, m.Code)
		}
	}
	want := impl.World{Ok: true, Book: impl.Book{Ok: true, Sections: 3, Lines: []impl.Line{{Gone: 333, Way: []int{0, 1}, Grants: g(333, 334, 334, 335), Drop: -1}}}, Bodies: []impl.Body{body(333, 334, 333, 333)}}
	if !sameWorld(run[1999].World, want) {
		t.Errorf("%v, not %v", run[1999].World, want)
	}
	if text := impl.Answer(3, []int{0}, onward(2000)); strings.Count(text, "\n") != 2000 || !strings.HasSuffix(text, "\n0 | *0 ?1\n") {
		t.Errorf("Answer has %d lines", strings.Count(text, "\n"))
	}
	for _, acts := range [][]impl.Act{onward(2001), make([]impl.Act, 2001), make([]impl.Act, 10000)} {
		if more := impl.Drive(3, []int{0}, acts); len(more) != 0 {
			t.Errorf("%d acts: %d answers", len(acts), len(more))
		}
		if text := impl.Answer(3, []int{0}, acts); text != "" {
			t.Errorf("%d acts: %q", len(acts), text)
		}
	}
	checkDrive(t, "2000", 3, []int{0}, onward(2000))
	none := impl.Drive(200, upTo(20), make([]impl.Act, 2000))
	if len(none) != 2000 || none[1999].Code != 1 || !sameWorld(none[1999].World, started(200, upTo(20))) {
		t.Errorf("2000 acts that are none: %d answers", len(none))
	}
}

func TestDriveSharesNoMemory(t *testing.T) {
	at, acts := []int{0, 4}, tale()
	run := impl.Drive(7, at, acts)
	checkWorldsApart(t, "the tale", []stretch{stretchOf(at), stretchOf(acts), stretchOf(run)}, worldsOf(run)...)
	none := impl.Drive(7, at, make([]impl.Act, 3))
	checkWorldsApart(t, "none that are one", []stretch{stretchOf(at)}, worldsOf(none)...)
	if !slices.Equal(at, []int{0, 4}) || !reflect.DeepEqual(acts, tale()) {
		t.Error("the arguments were written into")
	}
	for range 20 {
		if !reflect.DeepEqual(run, impl.Drive(7, at, acts)) {
			t.Fatal("another answer to the same arguments")
		}
	}
}

func TestDriveWritesNothingBehindItsArguments(t *testing.T) {
	at, acts := []int{0, 4, -77}, append(tale(), impl.Act{Op: -77})
	impl.Drive(7, at[:2], acts[:len(acts)-1])
	impl.Answer(7, at[:2], acts[:len(acts)-1])
	if at[2] != -77 || acts[len(acts)-1].Op != -77 || !reflect.DeepEqual(acts[:len(acts)-1], tale()) {
		t.Error("written behind the arguments")
	}
}

func TestDriveManyAtOnce(t *testing.T) {
	want := impl.Drive(7, []int{0, 4}, tale())
	text := impl.Answer(7, []int{0, 4}, tale())
	answers := make(chan bool)
	for range 8 {
		go func() {
			ok := true
			for range 20 {
				ok = ok && reflect.DeepEqual(impl.Drive(7, []int{0, 4}, tale()), want) && impl.Answer(7, []int{0, 4}, tale()) == text
			}
			answers <- ok
		}()
	}
	for range 8 {
		if !<-answers {
			t.Error("another answer, asked by many at once")
		}
	}
}

// ended waits for goroutines that are told to be at their end, but not yet gone.
func ended(most int) bool {
	for range 200 {
		if runtime.NumGoroutine() <= most {
			return true
		}
		time.Sleep(time.Millisecond)
	}
	return false
}

func TestNoGoroutineIsLeft(t *testing.T) {
	before := runtime.NumGoroutine()
	w := impl.Start(200, upTo(20))
	for range 50 {
		for _, a := range append(everyOp(19), add(0, 100), add(0, 1), move(20), impl.Act{}) {
			impl.Step(w, a)
			impl.Step(impl.World{}, a)
		}
		impl.Drive(200, upTo(20), tale())
		impl.Drive(200, upTo(20), nil)
		impl.Drive(200, upTo(21), tale())
		impl.Answer(200, upTo(20), tale())
		impl.On(w, 3)
	}
	if !ended(before) {
		t.Errorf("%d goroutines, %d before", runtime.NumGoroutine(), before)
	}
}

func TestTrainsAreWaitedFor(t *testing.T) {
	// one processor: trains that nobody waits for have no chance to end ahead of the count
	defer runtime.GOMAXPROCS(runtime.GOMAXPROCS(1))
	before, none := runtime.NumGoroutine(), 0
	for range 40 {
		impl.Step(impl.Start(200, upTo(20)), tell(0))
		if runtime.NumGoroutine() <= before {
			none++
		}
		impl.Drive(200, upTo(20), tale())
		if runtime.NumGoroutine() <= before {
			none++
		}
		ended(before)
	}
	if none < 20 {
		t.Errorf("no goroutine was left behind %d of 80 calls", none)
	}
}

func TestOn(t *testing.T) {
	// train 0 is ahead of what it left behind, train 1 holds more than it is on
	w := twoTrains()
	w.Bodies[0] = body(4, 5, 3, 4)
	on := map[int]int{6: 0, 7: 0, 9: 1}
	for _, s := range append(upTo(10), -1, 10, 199, math.MinInt, math.MaxInt) {
		var want []int
		if train, ok := on[s]; ok {
			want = []int{train}
		}
		r, before := roomyWorld(w), wholeWorld(roomyWorld(w))
		if got := impl.On(r, s); !sameList(got, want) || !sameList(impl.On(r, s), want) {
			t.Errorf("section %d: %v, not %v", s, got, want)
		}
		if !reflect.DeepEqual(wholeWorld(r), before) {
			t.Errorf("section %d: the argument was written into", s)
		}
	}
	many := impl.Start(200, upTo(20))
	for i := range 20 {
		if got := impl.On(many, i); !slices.Equal(got, []int{i}) {
			t.Errorf("train %d: %v", i, got)
		}
	}
	long := impl.World{Ok: true, Book: oneLine(impl.Line{Gone: 7, Way: upTo(100), Grants: g(0, 107), Drop: -1}), Bodies: []impl.Body{body(0, 107, 7, 106)}}
	for i := range 101 {
		if got := impl.On(long, i); (len(got) == 1 && got[0] == 0) != (i < 100) {
			t.Errorf("a train on 100 sections, %d: %v", i, got)
		}
	}
	if got := impl.On(impl.Start(3, nil), 0); len(got) != 0 {
		t.Errorf("no trains: %v", got)
	}
}

func TestAnswerSigns(t *testing.T) {
	for _, c := range []struct {
		name     string
		sections int
		at       []int
		acts     []impl.Act
		want     string
	}{
		{"no acts", 3, []int{0}, nil, ""},
		{"no trains", 3, nil, []impl.Act{move(0), {}}, "1\n1\n"},
		{"as it stands", 3, []int{2}, []impl.Act{tell(0)}, "0 | *2\n"},
		{"no such act", 3, []int{2, 0}, []impl.Act{{}}, "1 | *2 | *0\n"},
		{"numbers of three digits", 200, []int{199, 10, 0}, []impl.Act{add(1, 100)}, "0 | *199 | *10 100 | *0\n"},
		{"held alone", 9, []int{4}, []impl.Act{add(0, 5), add(0, 6)}, "0 | *4 5\n0 | *4 5 6\n"},
		{"sent", 9, []int{4}, []impl.Act{add(0, 5), add(0, 6), end(0, 2)}, "0 | *4 5\n0 | *4 5 6\n0 | *4 ?5 6\n"},
		{"sent, then a shorter one", 9, []int{4}, []impl.Act{add(0, 5), add(0, 6), end(0, 3), end(0, 1)}, "0 | *4 5\n0 | *4 5 6\n0 | *4 ?5 ?6\n0 | *4 ?5 ?6\n"},
		{"taken, a longer one sent", 9, []int{4}, []impl.Act{add(0, 5), add(0, 6), add(0, 7), end(0, 2), end(0, 3), take(0, 1)}, "0 | *4 5\n0 | *4 5 6\n0 | *4 5 6 7\n0 | *4 ?5 6 7\n0 | *4 ?5 ?6 7\n0 | *4 +5 ?6 7\n"},
		{"moved", 9, []int{4}, []impl.Act{add(0, 5), add(0, 6), end(0, 3), take(0, 1), move(0), move(0), move(0), tail(0), tail(0), tail(0)}, "0 | *4 5\n0 | *4 5 6\n0 | *4 ?5 ?6\n0 | *4 +5 +6\n0 | *4 *5 +6\n0 | *4 *5 *6\n3 | *4 *5 *6\n0 | *5 *6\n0 | *6\n3 | *6\n"},
		{"left behind, a leash behind it", 9, []int{4}, []impl.Act{add(0, 5), add(0, 6), end(0, 3), end(0, 1), take(0, 1), move(0), tail(0), take(0, 2)}, "0 | *4 5\n0 | *4 5 6\n0 | *4 ?5 ?6\n0 | *4 ?5 ?6\n0 | *4 +5 +6\n0 | *4 *5 +6\n0 | *5 +6\n3 | *5 +6\n"},
		{"given back when told", 9, []int{4}, []impl.Act{add(0, 5), end(0, 2), take(0, 1), tell(0), end(0, 1), drop(0, 1), take(0, 2), tell(0)}, "0 | *4 5\n0 | *4 ?5\n0 | *4 +5\n0 | *4 +5\n0 | *4 +5\n0 | *4 +5\n0 | *4 ?5\n0 | *4\n"},
		{"the other one's", 9, []int{4, 5}, []impl.Act{add(0, 5), add(1, 6), take(1, 1)}, "2 | *4 | *5\n0 | *4 | *5 6\n2 | *4 | *5 6\n"},
		{"of the tale", 7, []int{0, 4}, tale()[:8], "0 | *0 1 | *4\n0 | *0 1 2 | *4\n0 | *0 1 2 3 | *4\n0 | *0 ?1 ?2 ?3 | *4\n3 | *0 ?1 ?2 ?3 | *4\n0 | *0 +1 +2 +3 | *4\n0 | *0 *1 +2 +3 | *4\n0 | *0 *1 *2 +3 | *4\n"},
	} {
		for range 3 {
			if got := impl.Answer(c.sections, c.at, c.acts); got != c.want {
				t.Errorf("%s: %q, not %q", c.name, got, c.want)
			}
		}
	}
}

func TestAnswerCode4(t *testing.T) {
	var acts []impl.Act
	for range 20 {
		acts = append(acts, end(0, 1))
	}
	want := strings.Repeat("0 | *1\n", 19) + "4 | *1\n"
	if got := impl.Answer(3, []int{1}, acts); got != want {
		t.Errorf("%q, not %q", got, want)
	}
}

// textOf tells a run by the words of the document, from what On and the books say.
func textOf(run []impl.Moved) string {
	text := ""
	for _, m := range run {
		text += fmt.Sprint(m.Code)
		for i, l := range m.World.Book.Lines {
			text += " |"
			for n, s := range l.Way {
				mark := ""
				covers := func(g impl.Grant) bool { return l.Gone+n+1 <= g.Cells }
				if slices.ContainsFunc(l.Grants, covers) {
					mark = "?"
				}
				if covers(impl.Grant{Cells: m.World.Bodies[i].Cells}) {
					mark = "+"
				}
				if slices.Contains(impl.On(m.World, s), i) {
					mark = "*"
				}
				text += fmt.Sprintf(" %s%d", mark, s)
			}
		}
		text += "\n"
	}
	return text
}
