/-
  A ROW THAT THE CALL MADE AND FILLS, ELEMENT BY ELEMENT. No function of the program is named here.
-/
import Derived.Test.YtnaaheddhgpnoaaDoorBegD
namespace Go.Proofs.YtnaaheddhgpnoaaDoor
open Go.RowKit

structure RowInv (w wr : World) (N m : Nat) : Prop where
  below : Below N w wr
  lt : N < wr.heap.size
  free : ∀ o, wr.frozen? ⟨N, o, none⟩ = false
  ex : ∀ x, x < m → ∃ u, wr.cell? ⟨N, x, none⟩ = some u

theorem RowInv.start (w : World) (z : Array Value) (m : Nat) (t : TypeId) : RowInv w (w.alloc (.cells (madeCells z m) t)) w.heap.size m :=
  ⟨(Below.refl _ _).alloc (Nat.le_refl _) _, by simp, fun _ => frozen_alloc_new, fun x hx => by rw [cell_alloc_new]; exact ⟨_, Array.getElem?_eq_getElem (by rw [size_madeCells]; exact hx)⟩⟩
theorem RowInv.set {w wr : World} {N m : Nat} (h : RowInv w wr N m) (x : Nat) (u : Value) : RowInv w (wr.setCell ⟨N, x, none⟩ u) N m := by
  refine ⟨h.below.setCell (Nat.le_refl _) _, by rw [World.size_setCell]; exact h.lt, fun o => by rw [World.frozen?_setCell]; exact h.free o, fun y hy => ?_⟩
  obtain ⟨v, hv⟩ := h.ex y hy
  by_cases e : x = y
  · subst e; exact ⟨_, World.cell?_setCell_same _ _ _ hv⟩
  · rw [cell_set_ne e]; exact ⟨v, hv⟩
theorem RowInv.ext {w wr w1 : World} {N m B : Nat} (h : RowInv w wr N m) (hb : Below B wr w1) (hN : N < B) : RowInv w w1 N m :=
  ⟨h.below.trans (hb.mono (by omega)), Nat.lt_of_lt_of_le h.lt hb.size, fun o => by rw [(bcell hb).2 _ _ hN]; exact h.free o, fun x hx => by rw [(bcell hb).1 _ _ hN]; exact h.ex x hx⟩

theorem BlkIs.four {w : World} {b : Nat} {x y z u : Value} {t : TypeId} (h : BlkIs w b [x, y, z, u] t) : w.cell? ⟨b, 0, none⟩ = some x ∧ w.cell? ⟨b, 1, none⟩ = some y ∧ w.cell? ⟨b, 2, none⟩ = some z ∧ w.cell? ⟨b, 3, none⟩ = some u := ⟨h.cell 0, h.cell 1, h.cell 2, h.cell 3⟩
theorem IntsAt.slice {w : World} {v : Value} {ls : List Int} {bs : List Nat} (h : IntsAt w v ls bs) : ∃ a n c, v = .slice a n c := by
  obtain ⟨a, cap, rfl, _⟩ := h
  exact ⟨_, _, _, rfl⟩
theorem GrsAt.slice {w : World} {v : Value} {ls : List Gr} {bs : List Nat} (h : GrsAt w v ls bs) : ∃ a n c, v = .slice a n c := by
  obtain ⟨a, cap, rfl, _⟩ := h
  exact ⟨_, _, _, rfl⟩

/-- Cells of a block, in whatever world keeps it. -/
theorem BlkIs.ext {B : Nat} {w : World} {b : Nat} {c : List Value} {t : TypeId} (h : BlkIs w b c t) (hB : b < B) (o : Nat) : ∀ x : Ext B w, x.val.cell? ⟨b, o, none⟩ = c[o]? := fun x => by
  rw [(bcell x.prop).1 _ _ hB]; exact h.cell o
theorem LnAt.ext {B : Nat} {w : World} {v : Value} {l : Ln} {bs : List Nat} (h : LnAt w v l bs) (hB : ∀ b ∈ bs, b < B) : ∀ x : Ext B w, LnAt x.val v l bs := fun x => h.below x.prop hB
theorem ext_below {B : Nat} {w w' : World} (h : ∃ x : Ext B w, w' = x.val) : Below B w w' := by
  obtain ⟨x, rfl⟩ := h
  exact x.prop
theorem ext_some {B : Nat} {w : World} : Nonempty (Ext B w) := ⟨⟨w, Below.refl _ _⟩⟩

/-- Numbers in memory that the call made. -/
def NewInts (w w' : World) (v : Value) (xs : List Int) : Prop := ∃ bs, IntsAt w' v xs bs ∧ bs.Nodup ∧ Free w' bs ∧ (∀ b ∈ bs, w.heap.size ≤ b) ∧ Below w.heap.size w w'
def NewGrs (w w' : World) (v : Value) (xs : List Gr) : Prop := ∃ bs, GrsAt w' v xs bs ∧ bs.Nodup ∧ Free w' bs ∧ (∀ b ∈ bs, w.heap.size ≤ b) ∧ Below w.heap.size w w'
def NewLn (w w' : World) (v : Value) (l : Ln) : Prop := ∃ bs, LnAt w' v l bs ∧ bs.Nodup ∧ Free w' bs ∧ (∀ b ∈ bs, w.heap.size ≤ b) ∧ Below w.heap.size w w'
def NewLns (w w' : World) (v : Value) (xs : List Ln) : Prop := ∃ bs, LnsAt w' v xs bs ∧ bs.Nodup ∧ Free w' bs ∧ (∀ b ∈ bs, w.heap.size ≤ b) ∧ Below w.heap.size w w'

theorem row_bs {w wr : World} {N m : Nat} (h : RowInv w wr N m) (hN : w.heap.size ≤ N) {n : Nat} (bs : List Nat) (hb : bs = if n = 0 then [] else [N]) : bs.Nodup ∧ Free wr bs ∧ (∀ b ∈ bs, w.heap.size ≤ b) := by
  subst hb
  split
  · exact ⟨by simp, fun b hb => by simp at hb, fun b hb => by simp at hb⟩
  · refine ⟨by simp, fun b hb o => ?_, fun b hb => ?_⟩
    · have : b = N := by simpa using hb
      subst this; exact h.free o
    · have : b = N := by simpa using hb
      omega

theorem newInts_end {w wr : World} {xs : List Int} (hI : RowInv w wr w.heap.size xs.length) (hn : xs.length ≤ 1048576) (hc : ∀ j, j < xs.length → wr.cell? ⟨w.heap.size, j, none⟩ = some (.int .i64 (xs[j]?.getD 0))) :
    NewInts w wr (.slice (some ⟨w.heap.size, 0, none⟩) xs.length xs.length) xs := by
  obtain ⟨h1, h2, h3⟩ := row_bs (n := xs.length) hI (Nat.le_refl _) _ rfl
  refine ⟨_, ⟨_, xs.length, rfl, Nat.le_refl _, by unfold maxLen; omega, ?_⟩, h1, h2, h3, hI.below⟩
  by_cases e : xs.length = 0
  · exact Or.inl ⟨e, by rw [if_pos e]⟩
  · exact Or.inr ⟨_, 0, rfl, by rw [if_neg e], hI.lt, fun i hi => by rw [Nat.zero_add]; exact hc i hi⟩

theorem newGrs_end {w wr : World} {xs : List Gr} (hI : RowInv w wr w.heap.size (xs.length * 2)) (hn : xs.length ≤ 1048576)
    (hc : ∀ j, j < xs.length → wr.cell? ⟨w.heap.size, j * 2, none⟩ = some (.int .i64 (xs[j]?.getD gr0).ver) ∧ wr.cell? ⟨w.heap.size, j * 2 + 1, none⟩ = some (.int .i64 (xs[j]?.getD gr0).cel)) :
    NewGrs w wr (.slice (some ⟨w.heap.size, 0, none⟩) xs.length xs.length) xs := by
  obtain ⟨h1, h2, h3⟩ := row_bs (n := xs.length) hI (Nat.le_refl _) _ rfl
  refine ⟨_, ⟨_, xs.length, rfl, Nat.le_refl _, by unfold maxLen; omega, ?_⟩, h1, h2, h3, hI.below⟩
  by_cases e : xs.length = 0
  · exact Or.inl ⟨e, by rw [if_pos e]⟩
  · exact Or.inr ⟨_, 0, rfl, by rw [if_neg e], hI.lt, fun i hi => by rw [Nat.zero_add]; exact hc i hi⟩

/-- Lines laid one by one into a row, each with lists in memory that was made after what was laid. -/
structure LnInv (w wr : World) (N n k : Nat) (L : Nat → Ln) (D : Nat → List Nat) : Prop where
  row : RowInv w wr N (n * 4)
  lines : ∀ j, j < k → LnCells wr N (j * 4) (L j) (D j)
  nd : ((List.range k).flatMap D).Nodup
  lo : ∀ b ∈ (List.range k).flatMap D, N < b
  fr : Free wr ((List.range k).flatMap D)

theorem flat_succ (D : Nat → List Nat) (k : Nat) : (List.range (k + 1)).flatMap D = (List.range k).flatMap D ++ D k := by
  rw [List.range_succ, List.flatMap_append]; simp

theorem flat_if (D : Nat → List Nat) (k : Nat) (bs : List Nat) : (List.range (k + 1)).flatMap (fun j => if j = k then bs else D j) = (List.range k).flatMap D ++ bs := by
  rw [flat_succ, if_pos rfl]
  congr 1
  rw [List.flatMap_def, List.flatMap_def]
  congr 1
  refine List.map_congr_left fun j hj => ?_
  rw [if_neg (by have := List.mem_range.1 hj; omega)]

theorem ln_lt {w wr : World} {N n k : Nat} {L : Nat → Ln} {D : Nat → List Nat} (h : LnInv w wr N n k L D) : ∀ b ∈ (List.range k).flatMap D, b < wr.heap.size := by
  intro b hb
  obtain ⟨j, hj, hb⟩ := List.mem_flatMap.1 hb
  exact (h.lines j (List.mem_range.1 hj)).lt b hb

/-- What a callee does that makes memory alone. -/
theorem LnInv.ext {w wr w1 : World} {N n k : Nat} {L : Nat → Ln} {D : Nat → List Nat} (h : LnInv w wr N n k L D) (hb : Below wr.heap.size wr w1) : LnInv w w1 N n k L D :=
  ⟨h.row.ext hb h.row.lt, fun j hj => (h.lines j hj).keep (hb.block _ h.row.lt) (fun b hm => hb.block b ((h.lines j hj).lt b hm)), h.nd, h.lo, h.fr.below hb (ln_lt h)⟩

/-- Line k is laid: its value from a callee ('NewLn wr w1'), its four cells stored. -/
theorem LnInv.step {w wr w1 : World} {N n k : Nat} {L : Nat → Ln} {D : Nat → List Nat} {l : Ln} {vw vg : Value} {bs : List Nat} (h : LnInv w wr N n k L D) (hk : k < n) (hL : L k = l)
    (hl : LnAt w1 (.agg #[.int .i64 l.gone, vw, vg, .int .i64 l.drop]) l bs) (hnd : bs.Nodup) (hfr : Free w1 bs) (hge : ∀ b ∈ bs, wr.heap.size ≤ b) (hb : Below wr.heap.size wr w1) :
    LnInv w ((((w1.setCell ⟨N, k * 4, none⟩ (.int .i64 l.gone)).setCell ⟨N, k * 4 + 1, none⟩ vw).setCell ⟨N, k * 4 + 2, none⟩ vg).setCell ⟨N, k * 4 + 3, none⟩ (.int .i64 l.drop)) N n (k + 1) L (fun j => if j = k then bs else D j) := by
  have h1 := h.ext hb
  have hNs := h.row.lt
  obtain ⟨u0, c0⟩ := h1.row.ex (k * 4) (by omega)
  obtain ⟨u1, c1⟩ := h1.row.ex (k * 4 + 1) (by omega)
  obtain ⟨u2, c2⟩ := h1.row.ex (k * 4 + 2) (by omega)
  obtain ⟨u3, c3⟩ := h1.row.ex (k * 4 + 3) (by omega)
  have hrow := (((h1.row.set (k * 4) (.int .i64 l.gone)).set (k * 4 + 1) vw).set (k * 4 + 2) vg).set (k * 4 + 3) (.int .i64 l.drop)
  have hf : ∀ x o, ((((w1.setCell ⟨N, k * 4, none⟩ (.int .i64 l.gone)).setCell ⟨N, k * 4 + 1, none⟩ vw).setCell ⟨N, k * 4 + 2, none⟩ vg).setCell ⟨N, k * 4 + 3, none⟩ (.int .i64 l.drop)).frozen? ⟨x, o, none⟩ = w1.frozen? ⟨x, o, none⟩ := fun x o => by simp
  have far : ∀ x, x ≠ N → ((((w1.setCell ⟨N, k * 4, none⟩ (.int .i64 l.gone)).setCell ⟨N, k * 4 + 1, none⟩ vw).setCell ⟨N, k * 4 + 2, none⟩ vg).setCell ⟨N, k * 4 + 3, none⟩ (.int .i64 l.drop)).heap[x]? = w1.heap[x]? := fun x hx => by
    rw [Below.heap_setCell _ _ _ _ hx, Below.heap_setCell _ _ _ _ hx, Below.heap_setCell _ _ _ _ hx, Below.heap_setCell _ _ _ _ hx]
  refine ⟨hrow, fun j hj => ?_, ?_, ?_, ?_⟩
  · by_cases e : j = k
    · subst e
      rw [if_pos rfl, hL]
      obtain ⟨vw', vg', b1, b2, hv, rfl, hw, hg⟩ := hl
      simp only [Value.agg.injEq, Array.mk.injEq, List.cons.injEq, and_true, true_and] at hv
      obtain ⟨rfl, rfl⟩ := hv
      refine ⟨vw, vg, b1, b2, ?_, ?_, ?_, ?_, rfl, hw.keep fun x hx => far x ?_, hg.keep fun x hx => far x ?_⟩
      · rw [cell_set_ne (by omega), cell_set_ne (by omega), cell_set_ne (by omega)]; exact World.cell?_setCell_same _ _ _ c0
      · rw [cell_set_ne (by omega), cell_set_ne (by omega)]; exact World.cell?_setCell_same _ _ _ (by rw [cell_set_ne (by omega)]; exact c1)
      · rw [cell_set_ne (by omega)]; exact World.cell?_setCell_same _ _ _ (by rw [cell_set_ne (by omega), cell_set_ne (by omega)]; exact c2)
      · exact World.cell?_setCell_same _ _ _ (by rw [cell_set_ne (by omega), cell_set_ne (by omega), cell_set_ne (by omega)]; exact c3)
      · have := hge x (List.mem_append_left _ hx); omega
      · have := hge x (List.mem_append_right _ hx); omega
    · rw [if_neg e]
      have hl := h1.lines j (by omega)
      have off : ∀ r, r < 4 → ((((w1.setCell ⟨N, k * 4, none⟩ (.int .i64 l.gone)).setCell ⟨N, k * 4 + 1, none⟩ vw).setCell ⟨N, k * 4 + 2, none⟩ vg).setCell ⟨N, k * 4 + 3, none⟩ (.int .i64 l.drop)).cell? ⟨N, j * 4 + r, none⟩ = w1.cell? ⟨N, j * 4 + r, none⟩ := fun r hr => by
        rw [cell_set_ne (by omega), cell_set_ne (by omega), cell_set_ne (by omega), cell_set_ne (by omega)]
      refine hl.keep4 (off 0 (by omega)) (off 1 (by omega)) (off 2 (by omega)) (off 3 (by omega)) fun x hx => far x ?_
      have := h.lo x (List.mem_flatMap.2 ⟨j, List.mem_range.2 (by omega), hx⟩)
      omega
  · rw [flat_if, List.nodup_append]
    refine ⟨h.nd, hnd, fun a ha b hb' e => ?_⟩
    have := ln_lt h a ha
    have := hge b hb'
    omega
  · rw [flat_if]
    intro b hb'
    rcases List.mem_append.1 hb' with hb' | hb'
    · exact h.lo b hb'
    · have := hge b hb'; omega
  · rw [flat_if]
    intro b hb' o
    rw [hf]
    rcases List.mem_append.1 hb' with hb' | hb'
    · exact h1.fr b hb' o
    · exact hfr b hb' o

theorem newLns_end {w wr : World} {xs : List Ln} {D : Nat → List Nat} (h : LnInv w wr w.heap.size xs.length xs.length (fun j => xs[j]?.getD ln0) D) (hn : xs.length ≤ 1048576) :
    NewLns w wr (.slice (some ⟨w.heap.size, 0, none⟩) xs.length xs.length) xs := by
  by_cases e : xs.length = 0
  · exact ⟨[], ⟨_, xs.length, rfl, Nat.le_refl _, by unfold maxLen; omega, Or.inl ⟨e, rfl⟩⟩, by simp, fun b hb => by simp at hb, fun b hb => by simp at hb, h.row.below⟩
  · refine ⟨w.heap.size :: (List.range xs.length).flatMap D, ⟨_, xs.length, rfl, Nat.le_refl _, by unfold maxLen; omega, Or.inr ⟨_, 0, D, rfl, rfl, h.row.lt, fun i hi => by rw [Nat.zero_add]; exact h.lines i hi⟩⟩, ?_, ?_, ?_, h.row.below⟩
    · rw [List.nodup_cons]
      exact ⟨fun hm => by have := h.lo _ hm; omega, h.nd⟩
    · intro b hb o
      rcases List.mem_cons.1 hb with rfl | hb
      · exact h.row.free o
      · exact h.fr b hb o
    · intro b hb
      rcases List.mem_cons.1 hb with rfl | hb
      · exact Nat.le_refl _
      · have := h.lo b hb; omega

end Go.Proofs.YtnaaheddhgpnoaaDoor
