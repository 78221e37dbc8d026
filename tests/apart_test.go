package tests

import (
	"reflect"
	"slices"
	"testing"

	"loop.example/tether/impl"
)

// stretch is a piece of memory, from its first byte to behind its last one.
type stretch struct{ from, to uintptr }

func stretchOf[T any](list []T) stretch {
	v := reflect.ValueOf(list)
	from := v.Pointer()
	return stretch{from, from + uintptr(cap(list))*v.Type().Elem().Size()}
}

// checkApart asks that no two lists of these books share memory, the room behind them among it.
func checkApart(t *testing.T, name string, books ...impl.Book) {
	t.Helper()
	var all []stretch
	for _, b := range books {
		all = append(all, stretchOf(b.Lines))
		for _, l := range b.Lines {
			all = append(all, stretchOf(l.Way), stretchOf(l.Grants))
		}
	}
	all = slices.DeleteFunc(all, func(s stretch) bool { return s.from == s.to })
	slices.SortFunc(all, func(a, b stretch) int {
		if a.from < b.from {
			return -1
		}
		return 1
	})
	for i := 1; i < len(all); i++ {
		if all[i].from < all[i-1].to {
			t.Errorf("%s: two lists share memory", name)
			return
		}
	}
}
