package tests

import (
	"math"
	"reflect"
	"testing"

	"loop.example/tether/impl"
)

// g has Grants of these versions and Cells, in turn.
func g(list ...int) []impl.Grant {
	var out []impl.Grant
	for i := 0; i < len(list); i += 2 {
		out = append(out, impl.Grant{Version: list[i], Cells: list[i+1]})
	}
	return out
}

// among is the book of 200 sections that has the line at that place among others; these hold 190, 191 and 195.
func among(l impl.Line, place int) impl.Book {
	lines := []impl.Line{
		{Gone: 1, Way: []int{190, 191}, Grants: g(0, 3, 1, 2), Drop: 2},
		{Way: []int{195}, Grants: g(7, 1), Drop: -1},
	}
	all := append([]impl.Line{}, lines[:place]...)
	all = append(append(all, l), lines[place:]...)
	return impl.Book{Ok: true, Sections: 200, Lines: all}
}

// same takes an empty list and nil for the same value, as the document does.
func same(a, b impl.Book) bool {
	if a.Ok != b.Ok || a.Sections != b.Sections || len(a.Lines) != len(b.Lines) {
		return false
	}
	for i, l := range a.Lines {
		k := b.Lines[i]
		if l.Gone != k.Gone || l.Drop != k.Drop || !sameList(l.Way, k.Way) || !sameList(l.Grants, k.Grants) {
			return false
		}
	}
	return true
}

func sameList[T any](a, b []T) bool {
	return len(a) == 0 && len(b) == 0 || reflect.DeepEqual(a, b)
}

// doCase: what n (of the Op that is tried) makes of the line; want counts with Code 0 alone.
type doCase struct {
	name string
	line impl.Line
	n    int
	code int
	want impl.Line
}

func checkDo(t *testing.T, op int, cases []doCase) {
	t.Helper()
	for _, c := range cases {
		for place := range 3 {
			b, before := roomy(among(c.line, place)), whole(roomy(among(c.line, place)))
			if impl.BookOk(b) != 0 {
				t.Fatalf("%s: the book of the test is not right: %d", c.name, impl.BookOk(b))
			}
			e := impl.Event{Op: op, Train: place, N: c.n}
			want := among(c.line, place)
			if c.code == 0 {
				want = among(c.want, place)
			}
			d := impl.Do(b, e)
			if !impl.EventOk(b, e) || d.Code != c.code || !same(d.Book, want) {
				t.Errorf("%s, at %d: Code %d, not %d; %v, not %v", c.name, place, d.Code, c.code, d.Book, want)
			}
			if impl.BookOk(d.Book) != 0 {
				t.Errorf("%s, at %d: the book behind it is not right: %d", c.name, place, impl.BookOk(d.Book))
			}
			if !reflect.DeepEqual(whole(b), before) {
				t.Errorf("%s, at %d: the argument was written into: %v", c.name, place, whole(b))
			}
			checkApart(t, c.name, b, d.Book)
		}
	}
}

// usual has Gone 2, total 5, and reach 5 by a leash that is not the last one.
func usual(drop int) impl.Line {
	return impl.Line{Gone: 2, Way: []int{5, 6, 7}, Grants: g(3, 3, 4, 5, 5, 4), Drop: drop}
}

func with(l impl.Line, change func(l *impl.Line)) impl.Line {
	l = impl.Line{Gone: l.Gone, Way: append([]int{}, l.Way...), Grants: append([]impl.Grant{}, l.Grants...), Drop: l.Drop}
	change(&l)
	return l
}

func added(l impl.Line, section int) impl.Line {
	return with(l, func(l *impl.Line) { l.Way = append(l.Way, section) })
}

func sent(l impl.Line, version, cells int) impl.Line {
	return with(l, func(l *impl.Line) { l.Grants = append(l.Grants, g(version, cells)...) })
}

func TestDoAdd(t *testing.T) {
	empty := impl.Line{Grants: g(0, 0), Drop: -1}
	way := func(n, gone int) impl.Line {
		return impl.Line{Gone: gone, Way: upTo(n), Grants: g(0, gone), Drop: -1}
	}
	// as full as can be, and to be shortened
	back := func(n, gone int) impl.Line {
		return impl.Line{Gone: gone, Way: upTo(n), Grants: g(0, gone+n, 1, gone), Drop: gone}
	}
	last := impl.MaxCells
	checkDo(t, impl.TAdd, []doCase{
		{"ordinary", usual(-1), 9, 0, added(usual(-1), 9)},
		{"the first of a Way", empty, 9, 0, added(empty, 9)},
		{"the first section", usual(-1), 0, 0, added(usual(-1), 0)},
		{"the last section", usual(-1), 199, 0, added(usual(-1), 199)},
		{"its own first", usual(-1), 5, 2, impl.Line{}},
		{"its own last", usual(-1), 7, 2, impl.Line{}},
		{"another's", usual(-1), 190, 2, impl.Line{}},
		{"another's last", usual(-1), 191, 2, impl.Line{}},
		{"a third one's", usual(-1), 195, 2, impl.Line{}},
		{"to be shortened", usual(4), 9, 3, impl.Line{}},
		{"to be shortened, and its own", usual(4), 6, 2, impl.Line{}},
		{"to be shortened, and another's", usual(4), 191, 2, impl.Line{}},
		{"to be shortened to 0", impl.Line{Way: []int{5}, Grants: g(0, 1, 1, 0), Drop: 0}, 9, 3, impl.Line{}},
		{"the last one that the Way takes", way(99, 0), 150, 0, added(way(99, 0), 150)},
		{"one beyond what the Way takes", way(100, 0), 150, 4, impl.Line{}},
		{"a full Way, and its own", way(100, 0), 99, 2, impl.Line{}},
		{"a full Way, and another's", way(100, 0), 195, 2, impl.Line{}},
		{"a full Way to be shortened", back(100, 0), 150, 3, impl.Line{}},
		{"a full Way to be shortened, and another's", back(100, 0), 195, 2, impl.Line{}},
		{"the last one of the total", way(3, last-4), 150, 0, added(way(3, last-4), 150)},
		{"one beyond the total", way(3, last-3), 150, 4, impl.Line{}},
		{"one beyond the total, no Way", way(0, last), 150, 4, impl.Line{}},
		{"the last one of the total, no Way", way(0, last-1), 150, 0, added(way(0, last-1), 150)},
		{"a full total, and its own", way(3, last-3), 1, 2, impl.Line{}},
		{"a full total to be shortened", back(3, last-3), 150, 3, impl.Line{}},
		{"the last one of both", way(99, last-100), 150, 0, added(way(99, last-100), 150)},
		{"one beyond both", way(100, last-100), 150, 4, impl.Line{}},
	})
}

func TestDoEnd(t *testing.T) {
	short := impl.Line{Gone: 2, Way: []int{5, 6, 7, 8}, Grants: g(0, 3), Drop: -1}
	many := func(n, drop int) impl.Line {
		return impl.Line{Gone: 2, Way: []int{5, 6, 7}, Grants: append(g(0, 5), leashes(n-1, 1, 4)...), Drop: drop}
	}
	old := func(version, drop int) impl.Line {
		return impl.Line{Gone: 2, Way: []int{5, 6, 7}, Grants: g(version-1, 5, version, 4), Drop: drop}
	}
	last := impl.MaxCells
	far := impl.Line{Gone: last - 2, Way: []int{5, 6}, Grants: g(0, last-1), Drop: -1}
	begun := impl.Line{Grants: g(0, 0), Drop: -1}
	checkDo(t, impl.TEnd, []doCase{
		{"ordinary", usual(-1), 4, 0, sent(usual(-1), 6, 4)},
		{"at Gone", usual(-1), 2, 0, sent(usual(-1), 6, 2)},
		{"one below Gone", usual(-1), 1, 2, impl.Line{}},
		{"at 0, below Gone", usual(-1), 0, 2, impl.Line{}},
		{"at the total", usual(-1), 5, 0, sent(usual(-1), 6, 5)},
		{"one beyond the total", usual(-1), 6, 2, impl.Line{}},
		{"at the most, beyond the total", usual(-1), last, 2, impl.Line{}},
		{"at the reach", short, 3, 0, sent(short, 1, 3)},
		{"one beyond the reach", short, 4, 0, sent(short, 1, 4)},
		{"at the total, far beyond the reach", short, 6, 0, sent(short, 1, 6)},
		{"beyond the total, far beyond the reach", short, 7, 2, impl.Line{}},
		{"0 of nothing", begun, 0, 0, sent(begun, 1, 0)},
		{"1 of nothing", begun, 1, 2, impl.Line{}},
		{"at the most", far, last, 0, sent(far, 1, last)},
		{"at Drop", usual(4), 4, 0, sent(usual(4), 6, 4)},
		{"below Drop", usual(4), 3, 0, sent(usual(4), 6, 3)},
		{"at Gone, below Drop", usual(4), 2, 0, sent(usual(4), 6, 2)},
		{"one beyond Drop", usual(4), 5, 2, impl.Line{}},
		{"beyond Drop and the total", usual(4), 6, 2, impl.Line{}},
		{"below Gone and Drop", usual(4), 1, 2, impl.Line{}},
		{"the last one of the Grants", many(19, -1), 5, 0, sent(many(19, -1), 19, 5)},
		{"one beyond the Grants", many(20, -1), 5, 4, impl.Line{}},
		{"one beyond the Grants, and below Gone", many(20, -1), 1, 2, impl.Line{}},
		{"one beyond the Grants, and beyond the total", many(20, -1), 6, 2, impl.Line{}},
		{"one beyond the Grants, and at Drop", many(20, 4), 4, 4, impl.Line{}},
		{"one beyond the Grants, and beyond Drop", many(20, 4), 5, 2, impl.Line{}},
		{"the last version", old(last-1, -1), 3, 0, sent(old(last-1, -1), last, 3)},
		{"one beyond the last version", old(last, -1), 3, 4, impl.Line{}},
		{"one beyond the last version, and beyond the total", old(last, -1), 6, 2, impl.Line{}},
		{"one beyond the last version, and below Gone", old(last, -1), 1, 2, impl.Line{}},
		{"one beyond the last version, and beyond Drop", old(last, 4), 5, 2, impl.Line{}},
	})
}

func TestDoAck(t *testing.T) {
	line := func(gone int, way []int, drop int, grants ...impl.Grant) impl.Line {
		return impl.Line{Gone: gone, Way: way, Grants: grants, Drop: drop}
	}
	left := func(l impl.Line, from int) impl.Line {
		return with(l, func(l *impl.Line) { l.Grants = l.Grants[from:] })
	}
	three := []int{5, 6, 7}
	ahead := line(4, []int{7}, -1, g(3, 5, 4, 3, 5, 2)...)
	atGone := line(4, []int{7}, -1, g(3, 5, 4, 3, 5, 4)...)
	behind := line(4, []int{7}, -1, g(3, 5, 4, 0, 5, 4, 6, 3)...)
	old := line(2, three, -1, g(impl.MaxCells-1, 5, impl.MaxCells, 4)...)
	long := []int{10, 11, 12, 13, 14, 15}
	parts := line(2, long, 4, g(0, 8, 1, 6, 2, 4)...)
	checkDo(t, impl.TAck, []doCase{
		{"the oldest", usual(-1), 3, 0, usual(-1)},
		{"not the last one", usual(-1), 4, 0, left(usual(-1), 1)},
		{"the last one", usual(-1), 5, 0, left(usual(-1), 2)},
		{"one below the oldest", usual(-1), 2, 2, impl.Line{}},
		{"one beyond the last", usual(-1), 6, 2, impl.Line{}},
		{"0, long ago", usual(-1), 0, 2, impl.Line{}},
		{"the most, not yet", usual(-1), impl.MaxCells, 2, impl.Line{}},
		{"0, the only one", line(0, nil, -1, g(0, 0)...), 0, 0, line(0, nil, -1, g(0, 0)...)},
		{"the last version that there can be", old, impl.MaxCells, 0, left(old, 1)},
		{"behind the train", ahead, 4, 3, impl.Line{}},
		{"behind the train, the last one", ahead, 5, 3, impl.Line{}},
		{"not behind the train", ahead, 3, 0, ahead},
		{"one at Gone behind it", atGone, 4, 0, left(atGone, 1)},
		{"at Gone", atGone, 5, 0, left(atGone, 2)},
		{"one at Gone between", behind, 4, 0, left(behind, 1)},
		{"at Gone, one below behind it", behind, 5, 0, left(behind, 2)},
		{"one below Gone", behind, 6, 3, impl.Line{}},
		{"to be shortened, the rest goes", usual(4), 5, 0, line(2, three[:2], -1, g(5, 4)...)},
		{"to be shortened, not the last one, nothing goes", usual(4), 4, 0, left(usual(4), 1)},
		{"to be shortened, the oldest", usual(4), 3, 0, usual(4)},
		{"to be shortened, a part goes", parts, 1, 0, line(2, long[:4], 4, g(1, 6, 2, 4)...)},
		{"to be shortened, all of it goes", parts, 2, 0, line(2, long[:2], -1, g(2, 4)...)},
		{"to be shortened, no such version", parts, 3, 2, impl.Line{}},
		{"a leash shorter than Drop", line(2, long, 5, g(0, 8, 1, 3)...), 1, 0, line(2, long[:3], -1, g(1, 3)...)},
		{"a leash shorter than Drop, not the last one", line(2, long, 5, g(0, 8, 1, 3, 2, 4)...), 1, 0, line(2, long[:3], -1, g(1, 3, 2, 4)...)},
		{"one beyond Drop is left", line(2, long, 5, g(0, 8, 1, 6, 2, 3)...), 1, 0, line(2, long[:4], 5, g(1, 6, 2, 3)...)},
		{"shortened to Gone", line(2, long, 2, g(0, 8, 1, 2)...), 1, 0, line(2, nil, -1, g(1, 2)...)},
		{"to be shortened, behind the train", line(2, long, 2, g(0, 8, 1, 1)...), 1, 3, impl.Line{}},
	})
}

func TestDoPass(t *testing.T) {
	passed := func(l impl.Line, to, drop int) impl.Line {
		return with(l, func(l *impl.Line) { l.Way, l.Gone, l.Drop = l.Way[to-l.Gone:], to, drop })
	}
	short := impl.Line{Gone: 2, Way: []int{5, 6, 7, 8}, Grants: g(0, 4), Drop: -1}
	stuck := impl.Line{Gone: 2, Way: []int{5, 6}, Grants: g(0, 2), Drop: -1}
	last := impl.MaxCells
	far := impl.Line{Gone: last - 2, Way: []int{5, 6}, Grants: g(0, last), Drop: -1}
	long := impl.Line{Gone: 2, Way: []int{10, 11, 12, 13, 14, 15}, Grants: g(0, 8, 1, 3), Drop: 4}
	checkDo(t, impl.TPass, []doCase{
		{"ordinary", usual(-1), 3, 0, passed(usual(-1), 3, -1)},
		{"at Gone", usual(-1), 2, 0, usual(-1)},
		{"one below Gone", usual(-1), 1, 2, impl.Line{}},
		{"at 0, below Gone", usual(-1), 0, 2, impl.Line{}},
		{"at the reach, which is the total", usual(-1), 5, 0, passed(usual(-1), 5, -1)},
		{"one beyond both", usual(-1), 6, 2, impl.Line{}},
		{"at the most, beyond the reach", usual(-1), last, 2, impl.Line{}},
		{"at the reach, below the total", short, 4, 0, passed(short, 4, -1)},
		{"one beyond the reach, below the total", short, 5, 2, impl.Line{}},
		{"at the total, beyond the reach", short, 6, 2, impl.Line{}},
		{"reach at Gone", stuck, 2, 0, stuck},
		{"reach at Gone, one more", stuck, 3, 2, impl.Line{}},
		{"0 of nothing", impl.Line{Grants: g(0, 0), Drop: -1}, 0, 0, impl.Line{Grants: g(0, 0), Drop: -1}},
		{"1 of nothing", impl.Line{Grants: g(0, 0), Drop: -1}, 1, 2, impl.Line{}},
		{"at the most", far, last, 0, passed(far, last, -1)},
		{"below Drop", usual(4), 3, 0, passed(usual(4), 3, 4)},
		{"at Drop", usual(4), 4, 0, passed(usual(4), 4, 4)},
		{"beyond Drop, all of it", usual(4), 5, 0, passed(usual(4), 5, -1)},
		{"beyond Drop, refused", usual(4), 6, 2, impl.Line{}},
		{"one beyond Drop", long, 5, 0, passed(long, 5, 5)},
		{"far beyond Drop", long, 7, 0, passed(long, 7, 7)},
		{"beyond Drop, to the end", long, 8, 0, passed(long, 8, -1)},
		{"at Gone, below Drop", long, 2, 0, long},
	})
}

func TestDoDrop(t *testing.T) {
	cut := func(l impl.Line, total, drop int) impl.Line {
		return with(l, func(l *impl.Line) { l.Way, l.Drop = l.Way[:total-l.Gone], drop })
	}
	// Gone 2, total 8, and leashes of these Cells
	line := func(drop int, cells ...int) impl.Line {
		l := impl.Line{Gone: 2, Way: []int{10, 11, 12, 13, 14, 15}, Grants: leashes(len(cells), 0, 0), Drop: drop}
		for i, c := range cells {
			l.Grants[i].Cells = c
		}
		return l
	}
	last := impl.MaxCells
	far := impl.Line{Gone: last - 3, Way: []int{5, 6, 7}, Grants: g(0, last-2), Drop: -1}
	checkDo(t, impl.TDrop, []doCase{
		{"later", line(-1, 8, 4), 5, 0, line(5, 8, 4)},
		{"later, at the last leash", line(-1, 8, 4), 4, 0, line(4, 8, 4)},
		{"below the last leash", line(-1, 8, 4), 3, 3, impl.Line{}},
		{"at Gone, below the last leash", line(-1, 8, 4), 2, 3, impl.Line{}},
		{"below Gone and the last leash", line(-1, 8, 4), 1, 2, impl.Line{}},
		{"one below the total", line(-1, 8, 7), 7, 0, line(7, 8, 7)},
		{"one below the total and the last leash", line(-1, 8), 7, 3, impl.Line{}},
		{"at the total", line(-1, 8, 4), 8, 2, impl.Line{}},
		{"one beyond the total", line(-1, 8, 4), 9, 2, impl.Line{}},
		{"at the most, beyond the total", line(-1, 8, 4), last, 2, impl.Line{}},
		{"at Gone", line(-1, 8, 2), 2, 0, line(2, 8, 2)},
		{"at Gone, the last leash behind it", line(-1, 8, 0), 2, 0, line(2, 8, 0)},
		{"one below Gone", line(-1, 8, 0), 1, 2, impl.Line{}},
		{"at 0, below Gone", line(-1, 8, 0), 0, 2, impl.Line{}},
		{"at once", line(-1, 4), 5, 0, cut(line(-1, 4), 5, -1)},
		{"at once, at the reach", line(-1, 4), 4, 0, cut(line(-1, 4), 4, -1)},
		{"at once, all", line(-1, 2), 2, 0, cut(line(-1, 2), 2, -1)},
		{"at once, the last one", line(-1, 4), 7, 0, cut(line(-1, 4), 7, -1)},
		{"at once, of many leashes", line(-1, 3, 5, 4), 5, 0, cut(line(-1, 3, 5, 4), 5, -1)},
		{"in part", line(-1, 6, 4), 5, 0, cut(line(-1, 6, 4), 6, 5)},
		{"in part, to Gone", line(-1, 6, 2), 2, 0, cut(line(-1, 6, 2), 6, 2)},
		{"in part, by a leash between", line(-1, 4, 7, 4), 4, 0, cut(line(-1, 4, 7, 4), 7, 4)},
		{"again the same", line(5, 8, 4), 5, 0, line(5, 8, 4)},
		{"again to less", line(5, 8, 4), 4, 0, line(4, 8, 4)},
		{"again to more", line(5, 8, 4), 7, 0, line(7, 8, 4)},
		{"again to less than the last leash", line(5, 8, 4), 3, 3, impl.Line{}},
		{"again to the total", line(5, 8, 4), 8, 2, impl.Line{}},
		{"nothing held", impl.Line{Gone: 2, Grants: g(0, 2), Drop: -1}, 2, 2, impl.Line{}},
		{"nothing held, at 0", impl.Line{Grants: g(0, 0), Drop: -1}, 0, 2, impl.Line{}},
		{"to 0", impl.Line{Way: []int{5}, Grants: g(0, 0), Drop: -1}, 0, 0, impl.Line{Grants: g(0, 0), Drop: -1}},
		{"one below the most", far, last - 1, 0, cut(far, last-1, -1)},
		{"at the most, the total", far, last, 2, impl.Line{}},
	})
}

// nothing tells that the answer is Code 1 and nothing else.
func nothing(d impl.Done) bool {
	return d.Code == 1 && same(d.Book, impl.Book{})
}

func TestEventOk(t *testing.T) {
	// train 0 could not do any of these: that it can be asked is all that counts
	b := impl.Begin(7, 2)
	for op := impl.TAdd; op <= impl.TDrop; op++ {
		most := impl.MaxCells
		if op == impl.TAdd {
			most = 6
		}
		for _, c := range []struct {
			n    int
			want bool
		}{
			{0, true}, {1, true}, {6, true}, {most, true}, {7, op != impl.TAdd},
			{-1, false}, {most + 1, false}, {math.MinInt, false}, {math.MaxInt, false},
		} {
			for _, train := range []int{0, 1} {
				e := impl.Event{Op: op, Train: train, N: c.n}
				if got := impl.EventOk(b, e); got != c.want {
					t.Errorf("%v: %v", e, got)
				}
				if d := impl.Do(b, e); nothing(d) == c.want || (d.Code == 1) == c.want {
					t.Errorf("%v: %v", e, d)
				}
			}
			for _, train := range []int{-1, 2, 20, math.MinInt, math.MaxInt} {
				e := impl.Event{Op: op, Train: train, N: c.n}
				if impl.EventOk(b, e) || !nothing(impl.Do(b, e)) {
					t.Errorf("%v: no such train", e)
				}
			}
		}
	}
	for _, op := range []int{0, 6, -1, math.MinInt, math.MaxInt} {
		for _, n := range []int{0, 3, -1, impl.MaxCells} {
			e := impl.Event{Op: op, Train: 1, N: n}
			if impl.EventOk(b, e) || !nothing(impl.Do(b, e)) {
				t.Errorf("%v: no such Op", e)
			}
		}
	}
	if e := (impl.Event{Op: impl.TAdd, N: 0}); impl.EventOk(impl.Begin(3, 0), e) || !nothing(impl.Do(impl.Begin(3, 0), e)) {
		t.Error("no trains at all")
	}
	if e := (impl.Event{Op: impl.TAdd, Train: 19, N: 199}); !impl.EventOk(impl.Begin(200, 20), e) || impl.Do(impl.Begin(200, 20), e).Code != 0 {
		t.Error("the last of all trains and sections")
	}
}

func TestNoEventOfWrongBooks(t *testing.T) {
	wrong := []impl.Book{{}, {Ok: true}, {Ok: true, Sections: math.MinInt, Lines: make([]impl.Line, 1)}, {Ok: true, Sections: math.MaxInt, Lines: make([]impl.Line, 1)}}
	for _, f := range faults() {
		for line := range 2 {
			b := twoLines()
			f.spoil(&b, line)
			wrong = append(wrong, b)
		}
	}
	for i, b := range wrong {
		for op := 0; op <= 6; op++ {
			for train := -1; train <= 2; train++ {
				for _, n := range []int{-1, 0, 1, 2, 3, 4, 5, 8, impl.MaxCells, math.MinInt, math.MaxInt} {
					e := impl.Event{Op: op, Train: train, N: n}
					if impl.EventOk(b, e) || !nothing(impl.Do(b, e)) {
						t.Errorf("book %d, %v: %v", i, e, impl.Do(b, e))
					}
				}
			}
		}
	}
}
