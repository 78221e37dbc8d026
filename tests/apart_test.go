package tests

import (
	"cmp"
	"reflect"
	"slices"
	"testing"

	"loop.example/tether/impl"
)

// stretch is a piece of memory, from its first byte to behind its last one.
type stretch struct{ from, to uintptr }

func stretchOf[T any](list []T) stretch {
	v := reflect.ValueOf(list)
	from := v.Pointer()
	return stretch{from, from + uintptr(cap(list))*v.Type().Elem().Size()}
}

// listsOf is the memory of every list of the book, the room behind them among it.
func listsOf(b impl.Book) []stretch {
	all := []stretch{stretchOf(b.Lines)}
	for _, l := range b.Lines {
		all = append(all, stretchOf(l.Way), stretchOf(l.Grants))
	}
	return all
}

// overlap tells whether two of these have a byte in common.
func overlap(all []stretch) bool {
	all = slices.DeleteFunc(slices.Clone(all), func(s stretch) bool { return s.from == s.to })
	slices.SortFunc(all, func(a, b stretch) int { return cmp.Compare(a.from, b.from) })
	for i := 1; i < len(all); i++ {
		if all[i].from < all[i-1].to {
			return true
		}
	}
	return false
}

// checkApart asks that no two lists of these books share memory.
func checkApart(t *testing.T, name string, books ...impl.Book) {
	t.Helper()
	var all []stretch
	for _, b := range books {
		all = append(all, listsOf(b)...)
	}
	if overlap(all) {
		t.Errorf("%s: two lists share memory", name)
	}
}

// checkWorldsApart asks that no two lists of these worlds share memory, with each other or with the lists beside them.
func checkWorldsApart(t *testing.T, name string, beside []stretch, worlds ...impl.World) {
	t.Helper()
	all := slices.Clone(beside)
	for _, w := range worlds {
		all = append(append(all, stretchOf(w.Bodies)), listsOf(w.Book)...)
	}
	if overlap(all) {
		t.Errorf("%s: two lists share memory", name)
	}
}
