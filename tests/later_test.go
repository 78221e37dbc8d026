package tests

import (
	"testing"

	"loop.example/tether/impl"
)

// Chapters 2 and 3 are not built yet. Each of these tests goes when its chapter's issue comes.

func TestChapter2IsNotBuilt(t *testing.T) {
	e := impl.Event{Op: impl.TAdd, Train: 0, N: 1}
	b := impl.Begin(3, 1)
	if d := impl.Do(b, e); impl.EventOk(b, e) || d.Code != 0 || d.Book.Ok || impl.Run(3, 1, []impl.Event{e}) != nil {
		t.Error("chapter 2 answers")
	}
}

func TestChapter3IsNotBuilt(t *testing.T) {
	a := impl.Act{Op: impl.WMove}
	w := impl.Start(3, []int{0})
	if m := impl.Step(w, a); w.Ok || m.Code != 0 || m.World.Ok || impl.Drive(3, []int{0}, []impl.Act{a}) != nil || impl.On(w, 0) != nil || impl.Answer(3, []int{0}, []impl.Act{a}) != "" {
		t.Error("chapter 3 answers")
	}
}
