package tests

import (
	"math"

	"loop.example/tether/impl"
)

// twoLines is a right book in which both lines have a Drop, so that each single fault shows with either of them.
func twoLines() impl.Book {
	return impl.Book{Ok: true, Sections: 10, Lines: []impl.Line{
		{Gone: 2, Way: []int{5, 6, 7}, Grants: []impl.Grant{{Version: 3, Cells: 3}, {Version: 4, Cells: 5}, {Version: 5, Cells: 4}}, Drop: 4},
		{Gone: 1, Way: []int{9, 0}, Grants: []impl.Grant{{Version: 0, Cells: 3}, {Version: 1, Cells: 2}}, Drop: 2},
	}}
}

// oneLine is the book of that line alone, over all sections that there can be.
func oneLine(l impl.Line) impl.Book {
	return impl.Book{Ok: true, Sections: impl.MaxSections, Lines: []impl.Line{l}}
}

// upTo is 0 .. n-1.
func upTo(n int) []int {
	out := make([]int, n)
	for i := range out {
		out[i] = i
	}
	return out
}

// leashes is n Grants of these Cells, their versions counted from first.
func leashes(n, first, cells int) []impl.Grant {
	out := make([]impl.Grant, n)
	for i := range out {
		out[i] = impl.Grant{Version: first + i, Cells: cells}
	}
	return out
}

// fault spoils the book, where it can in that line, so that it has that code.
type fault struct {
	name  string
	code  int
	spoil func(b *impl.Book, line int)
}

// faults leave each other standing: any two can be in one book, in one line or in two.
func faults() []fault {
	return []fault{
		{"not Ok", 1, func(b *impl.Book, line int) { b.Ok = false }},
		{"no sections", 1, func(b *impl.Book, line int) { b.Sections = 0 }},
		{"too many sections", 1, func(b *impl.Book, line int) { b.Sections = 201 }},
		{"too many lines", 1, func(b *impl.Book, line int) { b.Lines = append(b.Lines, make([]impl.Line, 19)...) }},
		{"Gone below 0", 2, func(b *impl.Book, line int) { b.Lines[line].Gone = -1 }},
		{"Gone beyond", 2, func(b *impl.Book, line int) { b.Lines[line].Gone = math.MaxInt }},
		{"total beyond", 2, func(b *impl.Book, line int) { b.Lines[line].Gone = 999999 }},
		{"section below 0", 2, func(b *impl.Book, line int) { b.Lines[line].Way = append(b.Lines[line].Way, -1) }},
		{"section beyond", 2, func(b *impl.Book, line int) { b.Lines[line].Way = append(b.Lines[line].Way, 10) }},
		{"long Way", 2, func(b *impl.Book, line int) { b.Lines[line].Way = append(b.Lines[line].Way, make([]int, 99)...) }},
		{"no Grants", 3, func(b *impl.Book, line int) { b.Lines[line].Grants = nil }},
		{"too many Grants", 3, func(b *impl.Book, line int) { b.Lines[line].Grants = leashes(21, 0, 3) }},
		{"Cells below 0", 3, func(b *impl.Book, line int) { b.Lines[line].Grants[0].Cells = -1 }},
		{"Cells beyond", 3, func(b *impl.Book, line int) { b.Lines[line].Grants[0].Cells = math.MaxInt }},
		{"Version below 0", 3, func(b *impl.Book, line int) { b.Lines[line].Grants = leashes(2, -1, 3) }},
		{"versions apart", 3, func(b *impl.Book, line int) { b.Lines[line].Grants[1].Version++; b.Lines[line].Grants[1].Cells = 3 }},
		{"reach behind", 3, func(b *impl.Book, line int) { b.Lines[line].Grants = leashes(1, 0, 0) }},
		{"Drop below Gone", 4, func(b *impl.Book, line int) { b.Lines[line].Drop = 0 }},
		{"Drop far below", 4, func(b *impl.Book, line int) { b.Lines[line].Drop = math.MinInt }},
		{"Drop far beyond", 4, func(b *impl.Book, line int) { b.Lines[line].Drop = math.MaxInt }},
		{"section twice", 5, func(b *impl.Book, line int) { b.Lines[line].Way[1] = 5; b.Lines[line].Way[0] = 5 }},
		{"section of two", 5, func(b *impl.Book, line int) { b.Lines[line].Way[0] = b.Lines[1-line].Way[1] }},
	}
}
