import Derived.Test.YtnaaheddhgpnoaaDoorDone
import Derived.Test.YtnaaheddhgpnoaaDoorCopy
import Derived.Test.YtnaaheddhgpnoaaDoorSettle
import Derived.Test.YtnaaheddhgpnoaaDoorOwner
namespace Go.Proofs.YtnaaheddhgpnoaaDoor
open Go.ChangeShapes Go.WideShapes Go.ChangeAt Go.RowKit

structure DoSt (w W : World) (O lb cap t : Nat) (k : Bk) (e : Ev) (va : Value) (l : Ln) (vw vg : Value) (d1 d2 : List Nat) (D : Nat → List Nat) : Prop where
  below : Below w.heap.size w W
  bk : BlkIs W w.heap.size [.bool k.ok, .int .i64 k.sec, va] 32
  ev : BlkIs W (w.heap.size + 1) [.int .i64 e.op, .int .i64 e.train, .int .i64 e.n] 46
  res : BlkIs W (w.heap.size + 2) [.int .i64 0, .bool false, .int .i64 0, .slice none 0 0] 34
  out : BlkIs W O [.bool k.ok, .int .i64 k.sec, .slice (some ⟨lb, 0, none⟩) k.lns.length cap] 32
  lo : w.heap.size + 3 ≤ lb
  loO : w.heap.size + 3 ≤ O
  ne : O ≠ lb
  free : ∀ x, W.frozen? ⟨lb, x, none⟩ = false
  cap0 : k.lns.length ≤ cap
  cap1 : cap ≤ maxLen
  tn : t < k.lns.length
  others : ∀ j, j < k.lns.length → j ≠ t → LnCells W lb (j * 4) (lnOf k.lns j) (D j)
  far : ∀ j, j < k.lns.length → j ≠ t → ∀ x ∈ D j, x ≠ lb ∧ w.heap.size + 3 ≤ x
  c0 : W.cell? ⟨lb, t * 4, none⟩ = some (.int .i64 l.gone)
  c1 : W.cell? ⟨lb, t * 4 + 1, none⟩ = some vw
  c2 : W.cell? ⟨lb, t * 4 + 2, none⟩ = some vg
  c3 : W.cell? ⟨lb, t * 4 + 3, none⟩ = some (.int .i64 l.drop)
  ints : IntsAt W vw l.way d1
  grs : GrsAt W vg l.grs d2
  dd : ∀ x ∈ d1 ++ d2, x ≠ lb ∧ w.heap.size + 3 ≤ x

theorem DoSt.lt {w W : World} {O lb cap t : Nat} {k : Bk} {e : Ev} {va : Value} {l : Ln} {vw vg : Value} {d1 d2 : List Nat} {D : Nat → List Nat} (h : DoSt w W O lb cap t k e va l vw vg d1 d2 D) : lb < W.heap.size := World.block_lt_of_cell? W ⟨lb, t * 4, none⟩ h.c0
theorem DoSt.cells {w W : World} {O lb cap t : Nat} {k : Bk} {e : Ev} {va : Value} {l : Ln} {vw vg : Value} {d1 d2 : List Nat} {D : Nat → List Nat} (h : DoSt w W O lb cap t k e va l vw vg d1 d2 D) : LnCells W lb (t * 4) l (d1 ++ d2) :=
  ⟨vw, vg, d1, d2, h.c0, h.c1, h.c2, h.c3, rfl, h.ints, h.grs⟩

/-- What a callee does that makes memory alone. -/
theorem DoSt.ext {w W W' : World} {O lb cap t : Nat} {k : Bk} {e : Ev} {va : Value} {l : Ln} {vw vg : Value} {d1 d2 : List Nat} {D : Nat → List Nat} (h : DoSt w W O lb cap t k e va l vw vg d1 d2 D) (hb : Below W.heap.size W W') : DoSt w W' O lb cap t k e va l vw vg d1 d2 D where
  below := h.below.trans (hb.mono h.below.size)
  bk := h.bk.below hb h.bk.lt
  ev := h.ev.below hb h.ev.lt
  res := h.res.below hb h.res.lt
  out := h.out.below hb h.out.lt
  lo := h.lo
  loO := h.loO
  ne := h.ne
  free := fun x => by rw [(bcell hb).2 _ _ h.lt]; exact h.free x
  cap0 := h.cap0
  cap1 := h.cap1
  tn := h.tn
  others := fun j hj hn => (h.others j hj hn).keep (hb.block _ h.lt) fun x hx => hb.block x ((h.others j hj hn).lt x hx)
  far := h.far
  c0 := ((bcell hb).1 _ _ h.lt).trans h.c0
  c1 := ((bcell hb).1 _ _ h.lt).trans h.c1
  c2 := ((bcell hb).1 _ _ h.lt).trans h.c2
  c3 := ((bcell hb).1 _ _ h.lt).trans h.c3
  ints := h.ints.below hb h.ints.lt
  grs := h.grs.below hb h.grs.lt
  dd := h.dd

/-- A store into one of the line's own cells. -/
theorem DoSt.turn {w W : World} {O lb cap t r : Nat} {k : Bk} {e : Ev} {va : Value} {l l' : Ln} {vw vg vw' vg' u : Value} {d1 d2 d1' d2' : List Nat} {D : Nat → List Nat} (h : DoSt w W O lb cap t k e va l vw vg d1 d2 D) (hr : r < 4)
    (e0 : (if r = 0 then u else .int .i64 l.gone) = .int .i64 l'.gone) (e1 : (if r = 1 then u else vw) = vw') (e2 : (if r = 2 then u else vg) = vg') (e3 : (if r = 3 then u else .int .i64 l.drop) = .int .i64 l'.drop)
    (hi : IntsAt W vw' l'.way d1') (hg : GrsAt W vg' l'.grs d2') (hdd : ∀ x ∈ d1' ++ d2', x ≠ lb ∧ w.heap.size + 3 ≤ x) :
    DoSt w (W.setCell ⟨lb, t * 4 + r, none⟩ u) O lb cap t k e va l' vw' vg' d1' d2' D := by
  have hlo := h.lo
  have cell : ∀ q y, q < 4 → W.cell? ⟨lb, t * 4 + q, none⟩ = some y → (W.setCell ⟨lb, t * 4 + r, none⟩ u).cell? ⟨lb, t * 4 + q, none⟩ = some (if r = q then u else y) := fun q y hq hy => by
    by_cases e : r = q
    · subst e; rw [if_pos rfl]; exact World.cell?_setCell_same _ _ _ hy
    · rw [if_neg e, cell_set_ne (by omega)]; exact hy
  exact {
    below := h.below.setCell (by show w.heap.size ≤ lb; omega) _
    bk := h.bk.other (by omega) _ _
    ev := h.ev.other (by omega) _ _
    res := h.res.other (by omega) _ _
    out := h.out.other h.ne _ _
    lo := h.lo
    loO := h.loO
    ne := h.ne
    free := fun x => by rw [World.frozen?_setCell]; exact h.free x
    cap0 := h.cap0
    cap1 := h.cap1
    tn := h.tn
    others := fun j hj hn => (h.others j hj hn).keep4 (cell_set_ne (by omega)) (cell_set_ne (by omega)) (cell_set_ne (by omega)) (cell_set_ne (by omega)) fun x hx => Below.heap_setCell _ _ _ _ (h.far j hj hn x hx).1
    far := h.far
    c0 := by rw [← e0]; exact cell 0 _ (by omega) h.c0
    c1 := by rw [← e1]; exact cell 1 _ (by omega) h.c1
    c2 := by rw [← e2]; exact cell 2 _ (by omega) h.c2
    c3 := by rw [← e3]; exact cell 3 _ (by omega) h.c3
    ints := hi.keep fun x hx => Below.heap_setCell _ _ _ _ (hdd x (List.mem_append_left _ hx)).1
    grs := hg.keep fun x hx => Below.heap_setCell _ _ _ _ (hdd x (List.mem_append_right _ hx)).1
    dd := hdd }

theorem set_at (ls : List Ln) (t : Nat) (l : Ln) (ht : t < ls.length) (j : Nat) : (ls.set t l)[j]?.getD ln0 = if j = t then l else lnOf ls j := by
  by_cases e : j = t
  · subst e; simp [ht]
  · rw [if_neg e, List.getElem?_set_ne (Ne.symm e)]; rfl

/-- Behind the settling: the book as it lies. -/
theorem DoSt.done {w W W' : World} {O lb cap t : Nat} {k : Bk} {e : Ev} {va : Value} {l l' : Ln} {vw vg : Value} {d1 d2 d' : List Nat} {D : Nat → List Nat} (h : DoSt w W O lb cap t k e va l vw vg d1 d2 D) (hl : LnCells W' lb (t * 4) l' d') (hsub : ∀ x ∈ d', x ∈ d1 ++ d2) (ht : LnTurn lb (t * 4) W W') :
    (∃ bs, LnsAt W' (.slice (some ⟨lb, 0, none⟩) k.lns.length cap) (k.lns.set t l') bs ∧ ∀ x ∈ bs, w.heap.size + 3 ≤ x) ∧ BlkIs W' (w.heap.size + 2) [.int .i64 0, .bool false, .int .i64 0, .slice none 0 0] 34 ∧ BlkIs W' O [.bool k.ok, .int .i64 k.sec, .slice (some ⟨lb, 0, none⟩) k.lns.length cap] 32 ∧ Below w.heap.size w W' := by
  have hlo := h.lo
  refine ⟨⟨lb :: (List.range k.lns.length).flatMap fun j => if j = t then d' else D j, ⟨_, cap, by rw [List.length_set], by rw [List.length_set]; exact h.cap0, h.cap1, Or.inr ⟨lb, 0, fun j => if j = t then d' else D j, rfl, by rw [List.length_set], Nat.lt_of_lt_of_le h.lt ht.size, fun j hj => ?_⟩⟩, ?_⟩, ?_, ?_, ?_⟩
  · rw [List.length_set] at hj
    rw [set_at k.lns t l' h.tn j, Nat.zero_add]
    by_cases e : j = t
    · subst e; simp only [if_true]; exact hl
    · simp only [if_neg e]
      exact (h.others j hj e).keep4 (ht.cell _ (by omega)) (ht.cell _ (by omega)) (ht.cell _ (by omega)) (ht.cell _ (by omega)) fun x hx => ht.block x ((h.others j hj e).lt x hx) (h.far j hj e x hx).1
  · intro x hx
    rcases List.mem_cons.1 hx with rfl | hx
    · exact h.lo
    · obtain ⟨j, hj, hx⟩ := List.mem_flatMap.1 hx
      by_cases e : j = t
      · rw [if_pos e] at hx; exact (h.dd x (hsub x hx)).2
      · rw [if_neg e] at hx; exact (h.far j (List.mem_range.1 hj) e x hx).2
  · exact h.res.keep (ht.block _ h.res.lt (by omega))
  · exact h.out.keep (ht.block _ h.out.lt h.ne)
  · exact h.below.trans ⟨ht.os, ht.tape, ht.output, ht.size, fun x hx => ht.block x (Nat.lt_of_lt_of_le hx h.below.size) (by omega)⟩

end Go.Proofs.YtnaaheddhgpnoaaDoor
