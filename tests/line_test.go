package tests

import (
	"math"
	"reflect"
	"testing"

	"loop.example/tether/impl"
)

func TestBeginIsEmpty(t *testing.T) {
	for _, c := range []struct{ sections, trains int }{{1, 0}, {1, 1}, {1, 20}, {3, 2}, {200, 0}, {200, 20}} {
		b := impl.Begin(c.sections, c.trains)
		if !b.Ok || b.Sections != c.sections || len(b.Lines) != c.trains {
			t.Fatalf("%v: %v", c, b)
		}
		for _, l := range b.Lines {
			if l.Gone != 0 || len(l.Way) != 0 || l.Drop != -1 || !reflect.DeepEqual(l.Grants, []impl.Grant{{Version: 0, Cells: 0}}) {
				t.Errorf("%v: line %v", c, l)
			}
		}
		if impl.BookOk(b) != 0 {
			t.Errorf("%v: not right", c)
		}
	}
}

func TestBeginRefuses(t *testing.T) {
	for _, c := range []struct{ sections, trains int }{
		{0, 1}, {-1, 1}, {201, 1}, {math.MinInt, 1}, {math.MaxInt, 1},
		{1, -1}, {1, 21}, {1, math.MinInt}, {1, math.MaxInt}, {0, 21}, {201, -1}, {math.MaxInt, math.MaxInt},
	} {
		b := impl.Begin(c.sections, c.trains)
		if b.Ok || b.Sections != 0 || len(b.Lines) != 0 {
			t.Errorf("%v: %v", c, b)
		}
	}
}

func TestBeginSharesNoMemory(t *testing.T) {
	b, other := impl.Begin(4, 3), impl.Begin(4, 3)
	l := &b.Lines[0]
	l.Gone, l.Drop, l.Grants[0] = 7, 7, impl.Grant{Version: 7, Cells: 7}
	_ = append(l.Grants, impl.Grant{Version: 8, Cells: 8})
	_ = append(l.Way, 7)
	want := impl.Begin(4, 3)
	if !reflect.DeepEqual(b.Lines[1:], want.Lines[1:]) || !reflect.DeepEqual(other, want) {
		t.Errorf("%v, %v", b, other)
	}
}

func TestBookOkFrame(t *testing.T) {
	empty := func(sections, lines int) impl.Book {
		b := impl.Book{Ok: true, Sections: sections}
		for range lines {
			b.Lines = append(b.Lines, impl.Line{Grants: []impl.Grant{{}}, Drop: -1})
		}
		return b
	}
	for i, c := range []struct {
		b    impl.Book
		want int
	}{
		{impl.Book{}, 1},
		{impl.Book{Sections: 5}, 1},
		{empty(1, 0), 0},
		{impl.Book{Ok: true, Sections: 1, Lines: []impl.Line{}}, 0},
		{empty(200, 20), 0},
		{empty(0, 1), 1},
		{empty(-1, 1), 1},
		{empty(201, 1), 1},
		{empty(math.MinInt, 1), 1},
		{empty(math.MaxInt, 1), 1},
		{empty(5, 21), 1},
		{empty(5, 5000), 1},
		{twoLines(), 0},
	} {
		if got := impl.BookOk(c.b); got != c.want {
			t.Errorf("case %d: %d, not %d", i, got, c.want)
		}
	}
}

type lineCase struct {
	name string
	line impl.Line
	want int
}

func checkLines(t *testing.T, cases []lineCase) {
	t.Helper()
	for _, c := range cases {
		if got := impl.BookOk(oneLine(c.line)); got != c.want {
			t.Errorf("%s: %d, not %d", c.name, got, c.want)
		}
	}
}

func TestBookOkWay(t *testing.T) {
	line := func(gone int, way []int) impl.Line {
		return impl.Line{Gone: gone, Way: way, Grants: leashes(1, 0, gone), Drop: -1}
	}
	most := impl.MaxCells
	checkLines(t, []lineCase{
		{"no Way", line(0, nil), 0},
		{"an empty Way", line(0, []int{}), 0},
		{"Gone at the most", line(most, nil), 0},
		{"Gone beyond", line(most+1, nil), 2},
		{"Gone below 0", line(-1, nil), 2},
		{"Gone below 0, total not", line(-1, []int{4, 5}), 2},
		{"total below 0", line(-5, []int{4, 5}), 2},
		{"Gone smallest", line(math.MinInt, nil), 2},
		{"Gone greatest", line(math.MaxInt, nil), 2},
		{"total wraps round", line(math.MaxInt, []int{4}), 2},
		{"Gone below 0, total 0", line(-2, []int{4, 5}), 2},
		{"total at the most", line(most-1, []int{4}), 0},
		{"total beyond", line(most, []int{4}), 2},
		{"total of a long Way at the most", line(most-100, upTo(100)), 0},
		{"total of a long Way beyond", line(most-99, upTo(100)), 2},
		{"Way of 100", line(0, upTo(100)), 0},
		{"Way of 101", line(0, upTo(101)), 2},
		{"first and last section", line(0, []int{199, 0}), 0},
		{"section beyond", line(0, []int{3, 200}), 2},
		{"section beyond, the first", line(0, []int{200, 3}), 2},
		{"section below 0", line(0, []int{3, -1}), 2},
		{"section smallest", line(0, []int{math.MinInt}), 2},
		{"section greatest", line(0, []int{math.MaxInt}), 2},
	})
	small := impl.Book{Ok: true, Sections: 1, Lines: []impl.Line{line(0, []int{0})}}
	if impl.BookOk(small) != 0 {
		t.Error("the one section")
	}
	small.Lines[0].Way[0] = 1
	if impl.BookOk(small) != 2 {
		t.Error("beyond the one section")
	}
}

func TestBookOkGrants(t *testing.T) {
	line := func(gone int, grants ...impl.Grant) impl.Line {
		return impl.Line{Gone: gone, Way: []int{4, 5, 6}, Grants: grants, Drop: -1}
	}
	g := func(version, cells int) impl.Grant { return impl.Grant{Version: version, Cells: cells} }
	most := impl.MaxCells
	checkLines(t, []lineCase{
		{"nil Grants", line(0), 3},
		{"empty Grants", line(0, []impl.Grant{}...), 3},
		{"20 Grants", line(0, leashes(20, 0, 2)...), 0},
		{"21 Grants", line(0, leashes(21, 0, 2)...), 3},
		{"Cells 0", line(0, g(0, 0)), 0},
		{"Cells below 0", line(0, g(0, -1)), 3},
		{"Cells below 0, another not", line(0, g(0, 3), g(1, -1)), 3},
		{"Cells smallest", line(0, g(0, math.MinInt)), 3},
		{"Cells the total", line(2, g(0, 5)), 0},
		{"Cells beyond the total", line(2, g(0, 6)), 3},
		{"Cells beyond the total, the first", line(2, g(0, 6), g(1, 5)), 3},
		{"Cells greatest", line(2, g(0, math.MaxInt)), 3},
		{"Cells at the most", line(most-3, g(0, most)), 0},
		{"Cells beyond the most", line(most-3, g(0, most+1)), 3},
		{"Version at the most", line(0, g(most-1, 1), g(most, 1)), 0},
		{"Version beyond", line(0, g(most+1, 1)), 3},
		{"Version beyond, one more", line(0, g(most, 1), g(most+1, 1)), 3},
		{"Version below 0", line(0, g(-1, 1)), 3},
		{"Version below 0, then 0", line(0, g(-1, 1), g(0, 1)), 3},
		{"Version greatest, wraps round", line(0, g(math.MaxInt, 1), g(math.MinInt, 1)), 3},
		{"Version smallest", line(0, g(math.MinInt, 1)), 3},
		{"the same Version", line(0, g(4, 1), g(4, 1)), 3},
		{"Version two more", line(0, g(4, 1), g(6, 1)), 3},
		{"Version one less", line(0, g(4, 1), g(3, 1)), 3},
		{"the third Version", line(0, g(4, 1), g(5, 1), g(5, 1)), 3},
		{"three versions", line(0, g(4, 1), g(5, 0), g(6, 3)), 0},
		{"reach at Gone", line(2, g(0, 2)), 0},
		{"reach behind Gone", line(2, g(0, 1)), 3},
		{"reach behind Gone, of many", line(2, g(0, 1), g(1, 0), g(2, 1)), 3},
		{"only the oldest reaches", line(2, g(0, 2), g(1, 0), g(2, 1)), 0},
		{"only the middle one reaches", line(2, g(0, 1), g(1, 2), g(2, 1)), 0},
		{"only the newest reaches", line(2, g(0, 1), g(1, 0), g(2, 2)), 0},
		{"reach behind Gone at the most", impl.Line{Gone: most, Grants: leashes(1, 0, most-1), Drop: -1}, 3},
	})
}

func TestBookOkDrop(t *testing.T) {
	// total 5, reach 5, and the newest leash of last Cells
	line := func(drop, last int) impl.Line {
		return impl.Line{Gone: 2, Way: []int{4, 5, 6}, Grants: []impl.Grant{{Version: 0, Cells: 5}, {Version: 1, Cells: last}}, Drop: drop}
	}
	short := line(3, 3)
	short.Grants[0].Cells = 4
	shortButNone := short
	shortButNone.Drop = -1
	checkLines(t, []lineCase{
		{"none", line(-1, 5), 0},
		{"none, the leash shorter", line(-1, 2), 0},
		{"none, reach below the total", shortButNone, 0},
		{"at Gone", line(2, 2), 0},
		{"at Gone, the leash behind it", line(2, 0), 0},
		{"below Gone", line(1, 1), 4},
		{"0, below Gone", line(0, 0), 4},
		{"-2", line(-2, 2), 4},
		{"smallest", line(math.MinInt, 2), 4},
		{"one below the total", line(4, 4), 0},
		{"the total", line(5, 5), 4},
		{"greatest", line(math.MaxInt, 2), 4},
		{"the leash as long", line(3, 3), 0},
		{"the leash longer", line(3, 4), 4},
		{"reach below the total", short, 4},
		{"no Way", impl.Line{Grants: leashes(1, 0, 0), Drop: 0}, 4},
		{"0 of one", impl.Line{Way: []int{3}, Grants: []impl.Grant{{Cells: 1}, {Version: 1}}, Drop: 0}, 0},
		{"at the most", impl.Line{Gone: 999999, Way: []int{3}, Grants: []impl.Grant{{Cells: 1000000}, {Version: 1, Cells: 999999}}, Drop: 999999}, 0},
	})
}

func TestBookOkTwice(t *testing.T) {
	line := func(way ...int) impl.Line {
		return impl.Line{Way: way, Grants: []impl.Grant{{}}, Drop: -1}
	}
	for i, c := range []struct {
		lines []impl.Line
		want  int
	}{
		{[]impl.Line{line(3, 4), line(5, 6), line(0, 9)}, 0},
		{[]impl.Line{line(3, 3)}, 5},
		{[]impl.Line{line(0, 4, 0)}, 5},
		{[]impl.Line{line(3, 4), line(5, 6, 5)}, 5},
		{[]impl.Line{line(3, 4), line(4, 5)}, 5},
		{[]impl.Line{line(3, 4), line(), line(5, 3)}, 5},
		{[]impl.Line{line(0), line(0)}, 5},
		{[]impl.Line{line(1, 9), line(2), line(9)}, 5},
	} {
		if got := impl.BookOk(impl.Book{Ok: true, Sections: 10, Lines: c.lines}); got != c.want {
			t.Errorf("case %d: %d, not %d", i, got, c.want)
		}
	}
}

func TestBookOkAtAllLimits(t *testing.T) {
	b := impl.Book{Ok: true, Sections: 200, Lines: make([]impl.Line, 20)}
	for i := range b.Lines {
		b.Lines[i] = impl.Line{Gone: 999990, Way: upTo(200)[i*10 : i*10+10], Grants: leashes(20, 999981, 1000000), Drop: -1}
	}
	if impl.BookOk(b) != 0 || impl.Owner(b, 0) != 0 || impl.Owner(b, 199) != 19 || impl.Owner(b, 105) != 10 || impl.Reach(b, 19) != 1000000 {
		t.Error("limits met exactly")
	}
}

func TestBookOkOneFault(t *testing.T) {
	for _, f := range faults() {
		for line := range 2 {
			b := twoLines()
			f.spoil(&b, line)
			if got := impl.BookOk(b); got != f.code {
				t.Errorf("%s in line %d: %d, not %d", f.name, line, got, f.code)
			}
		}
	}
}

func TestBookOkTwoFaults(t *testing.T) {
	for _, f := range faults() {
		for _, g := range faults() {
			if f.code >= g.code {
				continue
			}
			for _, at := range [][2]int{{0, 0}, {1, 1}, {0, 1}, {1, 0}} {
				b := twoLines()
				g.spoil(&b, at[1])
				f.spoil(&b, at[0])
				if got := impl.BookOk(b); got != f.code {
					t.Errorf("%s in line %d, %s in line %d: %d, not %d", f.name, at[0], g.name, at[1], got, f.code)
				}
			}
		}
	}
}

func TestOwner(t *testing.T) {
	b := twoLines()
	for section, want := range []int{1, -1, -1, -1, -1, 0, 0, 0, -1, 1} {
		if got := impl.Owner(b, section); got != want {
			t.Errorf("section %d: %d, not %d", section, got, want)
		}
	}
	for _, section := range []int{-1, 10, 200, math.MinInt, math.MaxInt} {
		if got := impl.Owner(b, section); got != -1 {
			t.Errorf("section %d, that is not there: %d", section, got)
		}
	}
	if impl.Owner(impl.Begin(3, 2), 0) != -1 || impl.Owner(impl.Begin(3, 0), 0) != -1 || impl.Owner(impl.Book{}, 0) != -1 {
		t.Error("nothing held")
	}
}

func TestReach(t *testing.T) {
	b := twoLines()
	if impl.Reach(b, 0) != 5 || impl.Reach(b, 1) != 3 {
		t.Errorf("%d, %d", impl.Reach(b, 0), impl.Reach(b, 1))
	}
	for _, train := range []int{-1, 2, 20, math.MinInt, math.MaxInt} {
		if got := impl.Reach(b, train); got != -1 {
			t.Errorf("train %d, that is not there: %d", train, got)
		}
	}
	for i, c := range [][]int{{3, 1, 2}, {1, 3, 2}, {1, 2, 3}, {3, 3}, {3}} {
		l := impl.Line{Way: []int{4, 5, 6}, Grants: leashes(len(c), 0, 0), Drop: -1}
		for k, cells := range c {
			l.Grants[k].Cells = cells
		}
		if got := impl.Reach(oneLine(l), 0); got != 3 {
			t.Errorf("case %d: %d", i, got)
		}
	}
	if impl.Reach(impl.Begin(3, 2), 1) != 0 || impl.Reach(impl.Begin(3, 0), 0) != -1 || impl.Reach(impl.Book{}, 0) != -1 {
		t.Error("nothing held")
	}
}

func TestNothingOfWrongBooks(t *testing.T) {
	for _, f := range faults() {
		for line := range 2 {
			b := twoLines()
			f.spoil(&b, line)
			for n := -1; n <= 10; n++ {
				if impl.Owner(b, n) != -1 || impl.Reach(b, n) != -1 {
					t.Errorf("%s in line %d, asked for %d: %d, %d", f.name, line, n, impl.Owner(b, n), impl.Reach(b, n))
				}
			}
		}
	}
}

// roomy has the book's lists with room behind them, and what is in that room, so that a write there shows too.
func roomy(b impl.Book) impl.Book {
	lines := append(make([]impl.Line, 0, len(b.Lines)+1), b.Lines...)
	for i := range lines {
		lines[i].Way = append(append([]int{}, lines[i].Way...), -77)[:len(lines[i].Way)]
		lines[i].Grants = append(append([]impl.Grant{}, lines[i].Grants...), impl.Grant{Version: -77})[:len(lines[i].Grants)]
	}
	b.Lines = append(lines, impl.Line{Gone: -77})[:len(lines)]
	return b
}

// whole shows the book with what stands in the room behind its lists.
func whole(b impl.Book) impl.Book {
	lines := append([]impl.Line{}, b.Lines[:len(b.Lines)+1]...)
	for i := range b.Lines {
		lines[i].Way = lines[i].Way[:len(lines[i].Way)+1]
		lines[i].Grants = lines[i].Grants[:len(lines[i].Grants)+1]
	}
	b.Lines = lines
	return b
}

func TestArgumentsStay(t *testing.T) {
	books := []func() impl.Book{twoLines, func() impl.Book { return impl.Begin(5, 3) }, func() impl.Book { return impl.Book{} }}
	for _, f := range faults() {
		books = append(books, func() impl.Book {
			b := twoLines()
			f.spoil(&b, 1)
			return b
		})
	}
	for i, fresh := range books {
		b, want := roomy(fresh()), whole(roomy(fresh()))
		code, owner, reach := impl.BookOk(b), impl.Owner(b, 6), impl.Reach(b, 1)
		if !reflect.DeepEqual(whole(b), want) {
			t.Errorf("book %d was written into: %v", i, whole(b))
		}
		for range 20 {
			if impl.BookOk(b) != code || impl.Owner(b, 6) != owner || impl.Reach(b, 1) != reach {
				t.Errorf("book %d: another answer to the same argument", i)
			}
		}
	}
}
