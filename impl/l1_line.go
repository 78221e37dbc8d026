package impl

import "slices"

const (
	MaxSections = 200
	MaxTrains   = 20
	MaxWay      = 100
	MaxPending  = 20
	MaxCells    = 1000000
)

// Grant is a leash that was sent: its version, and how many sections it covers, counted from where the train began.
type Grant struct {
	Version int
	Cells   int
}

// Line is what a train has: how many sections it has left behind, the sections that are held for it from there on, the leashes that it can have (the oldest first), and to how many sections its way is to be shortened, -1 for not.
type Line struct {
	Gone   int
	Way    []int
	Grants []Grant
	Drop   int
}

// Book is all lines.
type Book struct {
	Ok       bool
	Sections int
	Lines    []Line
}

// none stands for a Drop that is not asked for, and for an owner or a reach that there is not.
const none = -1

// Begin is the book of that many sections and trains in which nothing is held; the zero value when there is no such book.
func Begin(sections, trains int) Book {
	if !within(sections, 1, MaxSections) || !within(trains, 0, MaxTrains) {
		return Book{}
	}
	lines := make([]Line, trains)
	for i := range lines {
		// A list of its own for each line: no two lists of one answer share memory.
		lines[i] = Line{Grants: []Grant{{Version: 0, Cells: 0}}, Drop: none}
	}
	return Book{Ok: true, Sections: sections, Lines: lines}
}

// BookOk is 0 for a book that is right, else the first code whose fault some line has.
func BookOk(b Book) int {
	// Each code is asked of all lines ahead of the next one: a later line's lower code comes first.
	if !frameRight(b) {
		return 1
	}
	for _, l := range b.Lines {
		if !wayRight(l, b.Sections) {
			return 2
		}
	}
	for _, l := range b.Lines {
		if !grantsRight(l) {
			return 3
		}
	}
	for _, l := range b.Lines {
		if !dropRight(l) {
			return 4
		}
	}
	if _, once := owners(b.Lines); !once {
		return 5
	}
	return 0
}

// Owner is the line in whose Way the section is, -1 for none and for a book that is not right.
func Owner(b Book, section int) int {
	if BookOk(b) != 0 {
		return none
	}
	held, _ := owners(b.Lines)
	if line, ok := held[section]; ok {
		return line
	}
	return none
}

// Reach is the most Cells of the train's Grants, -1 when there is no such train or the book is not right.
func Reach(b Book, train int) int {
	if BookOk(b) != 0 || !within(train, 0, len(b.Lines)-1) {
		return none
	}
	return b.Lines[train].reach()
}

func frameRight(b Book) bool {
	return b.Ok && within(b.Sections, 1, MaxSections) && len(b.Lines) <= MaxTrains
}

func wayRight(l Line, sections int) bool {
	// Gone and the length come first: only then can the total not wrap round.
	if !within(l.Gone, 0, MaxCells) || len(l.Way) > MaxWay || l.total() > MaxCells {
		return false
	}
	for _, s := range l.Way {
		if !within(s, 0, sections-1) {
			return false
		}
	}
	return true
}

func grantsRight(l Line) bool {
	if !within(len(l.Grants), 1, MaxPending) {
		return false
	}
	for i, g := range l.Grants {
		if !within(g.Cells, 0, l.total()) || !within(g.Version, 0, MaxCells) {
			return false
		}
		if i > 0 && g.Version != l.Grants[i-1].Version+1 {
			return false
		}
	}
	return l.reach() >= l.Gone
}

// dropRight leans on a line whose Way and Grants are right: it has a last Grant.
func dropRight(l Line) bool {
	if l.Drop == none {
		return true
	}
	return within(l.Drop, l.Gone, l.total()-1) && l.last().Cells <= l.Drop && l.reach() >= l.total()
}

// owners has the line of each section that is held, and whether none is held in two places.
func owners(lines []Line) (map[int]int, bool) {
	held := map[int]int{}
	for i, l := range lines {
		for _, s := range l.Way {
			if _, taken := held[s]; taken {
				return nil, false
			}
			held[s] = i
		}
	}
	return held, true
}

func (l Line) total() int { return l.Gone + len(l.Way) }

func (l Line) reach() int { return mostCells(l.Grants) }

// last leans on a line that has Grants, as each right one does.
func (l Line) last() Grant { return l.Grants[len(l.Grants)-1] }

// copied shares no list with the book, so that whoever changes it writes into no argument.
func (b Book) copied() Book {
	b.Lines = slices.Clone(b.Lines)
	for i, l := range b.Lines {
		b.Lines[i].Way = slices.Clone(l.Way)
		b.Lines[i].Grants = slices.Clone(l.Grants)
	}
	return b
}

// mostCells may begin its fold at 0, as no Cells of a right line are below it.
func mostCells(grants []Grant) int {
	return fold(grants, 0, func(most int, g Grant) int { return max(most, g.Cells) })
}

func fold[T, A any](list []T, start A, join func(A, T) A) A {
	for _, x := range list {
		start = join(start, x)
	}
	return start
}

func within(n, least, most int) bool { return least <= n && n <= most }
