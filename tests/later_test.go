package tests

import (
	"testing"

	"loop.example/tether/impl"
)

// Chapter 3 is not built yet. This test goes when its issue comes.

func TestChapter3IsNotBuilt(t *testing.T) {
	a := impl.Act{Op: impl.WMove}
	w := impl.Start(3, []int{0})
	if m := impl.Step(w, a); w.Ok || m.Code != 0 || m.World.Ok || impl.Drive(3, []int{0}, []impl.Act{a}) != nil || impl.On(w, 0) != nil || impl.Answer(3, []int{0}, []impl.Act{a}) != "" {
		t.Error("chapter 3 answers")
	}
}
