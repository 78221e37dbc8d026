package tests

import (
	"math"
	"slices"
	"testing"

	"loop.example/tether/impl"
)

// body is a train that goes by that leash.
func body(version, cells, tail, front int) impl.Body {
	return impl.Body{Version: version, Cells: cells, Tail: tail, Front: front}
}

// twoTrains is a right world on the book of twoLines.
func twoTrains() impl.World {
	return impl.World{Ok: true, Book: twoLines(), Bodies: []impl.Body{body(4, 5, 2, 3), body(0, 3, 1, 1)}}
}

// midst is the world of the book of among, with the train at that place.
func midst(l impl.Line, b impl.Body, place int) impl.World {
	bodies := slices.Insert([]impl.Body{body(0, 3, 1, 2), body(7, 1, 0, 0)}, place, b)
	return impl.World{Ok: true, Book: among(l, place), Bodies: bodies}
}

// sameWorld takes an empty list and nil for the same value, as same does.
func sameWorld(a, b impl.World) bool {
	return a.Ok == b.Ok && same(a.Book, b.Book) && sameList(a.Bodies, b.Bodies)
}

// roomyWorld has room behind each list, as roomy has.
func roomyWorld(w impl.World) impl.World {
	w.Book = roomy(w.Book)
	w.Bodies = append(append([]impl.Body{}, w.Bodies...), body(-77, 0, 0, 0))[:len(w.Bodies)]
	return w
}

// wholeWorld shows what stands in that room, as whole does.
func wholeWorld(w impl.World) impl.World {
	w.Book = whole(w.Book)
	w.Bodies = w.Bodies[:len(w.Bodies)+1]
	return w
}

func worldsOf(run []impl.Moved) []impl.World {
	var out []impl.World
	for _, m := range run {
		out = append(out, m.World)
	}
	return out
}

func codesOf(run []impl.Moved) []int {
	var out []int
	for _, m := range run {
		out = append(out, m.Code)
	}
	return out
}

// noWorld tells that the answer is Code 1 and nothing else.
func noWorld(m impl.Moved) bool {
	return m.Code == 1 && sameWorld(m.World, impl.World{})
}

func send(act, op, train, n int) impl.Act {
	return impl.Act{Op: impl.WSend, Train: act, Event: impl.Event{Op: op, Train: train, N: n}}
}

func add(train, section int) impl.Act { return send(train, impl.TAdd, train, section) }
func end(train, cells int) impl.Act   { return send(train, impl.TEnd, train, cells) }
func drop(train, cells int) impl.Act  { return send(train, impl.TDrop, train, cells) }
func take(train, n int) impl.Act      { return impl.Act{Op: impl.WTake, Train: train, N: n} }
func tell(train int) impl.Act         { return impl.Act{Op: impl.WTell, Train: train} }
func move(train int) impl.Act         { return impl.Act{Op: impl.WMove, Train: train} }
func tail(train int) impl.Act         { return impl.Act{Op: impl.WTail, Train: train} }

// everyOp has an act of each Op for that train; in twoTrains none of them has Code 1.
func everyOp(train int) []impl.Act {
	return []impl.Act{end(train, 2), take(train, 1), tell(train), move(train), tail(train)}
}

// numbers that no act may lean on where they don't count
var farOff = []int{0, 1, -1, math.MinInt, math.MaxInt}

func TestOpsOfActs(t *testing.T) {
	if got := []int{impl.WSend, impl.WTake, impl.WTell, impl.WMove, impl.WTail}; !slices.Equal(got, []int{1, 2, 3, 4, 5}) {
		t.Errorf("%v", got)
	}
}
