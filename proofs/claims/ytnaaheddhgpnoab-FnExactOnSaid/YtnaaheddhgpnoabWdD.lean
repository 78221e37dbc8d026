/-
  A WORLD AS DATA, AND HOW IT LIES IN MEMORY. No function of the program is named here.
-/
import Derived.Test.YtnaaheddhgpnoabBegD
import Derived.Test.YtnaaheddhgpnoabToD
import Derived.Test.YtnaaheddhgpnoabOkD
namespace Go.Proofs.Ytnaaheddhgpnoab
open Go.RowKit

structure Bd where
  ver : Int
  cel : Int
  tail : Int
  front : Int
structure Wd where
  ok : Bool
  bk : Bk
  bds : List Bd

def bd0 : Bd := ⟨0, 0, 0, 0⟩
def wd0 : Wd := ⟨false, bk0, []⟩

def BdCells (w : World) (b o : Nat) (x : Bd) : Prop :=
  w.cell? ⟨b, o, none⟩ = some (.int .i64 x.ver) ∧ w.cell? ⟨b, o + 1, none⟩ = some (.int .i64 x.cel) ∧ w.cell? ⟨b, o + 2, none⟩ = some (.int .i64 x.tail) ∧ w.cell? ⟨b, o + 3, none⟩ = some (.int .i64 x.front)
theorem BdCells.keep {w w' : World} {b o : Nat} {x : Bd} (h : BdCells w b o x) (he : w'.heap[b]? = w.heap[b]?) : BdCells w' b o x :=
  ⟨(cell_keep he).trans h.1, (cell_keep he).trans h.2.1, (cell_keep he).trans h.2.2.1, (cell_keep he).trans h.2.2.2⟩

def BdsAt (w : World) (v : Value) (xs : List Bd) (bs : List Nat) : Prop :=
  SlAt w v xs.length bs fun b o => ∀ i, i < xs.length → BdCells w b (o + i * 4) (xs[i]?.getD bd0)

def WdAt (w : World) (v : Value) (k : Wd) (bs : List Nat) : Prop :=
  ∃ vl vb b1 b2, v = .agg #[.bool k.ok, .bool k.bk.ok, .int .i64 k.bk.sec, vl, vb] ∧ bs = b1 ++ b2 ∧ LnsAt w vl k.bk.lns b1 ∧ BdsAt w vb k.bds b2

theorem BdsAt.lt {w : World} {v : Value} {xs : List Bd} {bs : List Nat} (h : BdsAt w v xs bs) : ∀ b ∈ bs, b < w.heap.size := by
  obtain ⟨a, cap, _, _, _, ⟨_, rfl⟩ | ⟨b, o, _, rfl, hb, _⟩⟩ := h
  · simp
  · simpa using hb
theorem BdsAt.keep {w w' : World} {v : Value} {xs : List Bd} {bs : List Nat} (h : BdsAt w v xs bs) (hk : ∀ b ∈ bs, w'.heap[b]? = w.heap[b]?) : BdsAt w' v xs bs := by
  obtain ⟨a, cap, h1, h2, h3, h⟩ := h
  refine ⟨a, cap, h1, h2, h3, ?_⟩
  rcases h with h | ⟨b, o, h4, rfl, hb, hc⟩
  · exact Or.inl h
  · have e := hk b (by simp)
    exact Or.inr ⟨b, o, h4, rfl, size_keep e hb, fun i hi => (hc i hi).keep e⟩
theorem BdsAt.below {w w' : World} {v : Value} {xs : List Bd} {bs : List Nat} {B : Nat} (h : BdsAt w v xs bs) (hb : Below B w w') (hB : ∀ b ∈ bs, b < B) : BdsAt w' v xs bs := h.keep fun b hm => hb.block b (hB b hm)
theorem BdsAt.slice {w : World} {v : Value} {xs : List Bd} {bs : List Nat} (h : BdsAt w v xs bs) : ∃ a n c, v = .slice a n c := by
  obtain ⟨a, cap, rfl, _⟩ := h
  exact ⟨_, _, _, rfl⟩
theorem bdsAt_nil (w : World) : BdsAt w (.slice none 0 0) [] [] := ⟨none, 0, rfl, Nat.le_refl _, Nat.zero_le _, Or.inl ⟨rfl, rfl⟩⟩
theorem WdAt.lt {w : World} {v : Value} {k : Wd} {bs : List Nat} (h : WdAt w v k bs) : ∀ b ∈ bs, b < w.heap.size := by
  obtain ⟨vl, vb, b1, b2, _, rfl, hl, hb⟩ := h
  intro x hx
  rcases List.mem_append.1 hx with h | h
  · exact hl.lt _ h
  · exact hb.lt _ h
theorem WdAt.keep {w w' : World} {v : Value} {k : Wd} {bs : List Nat} (h : WdAt w v k bs) (hk : ∀ b ∈ bs, w'.heap[b]? = w.heap[b]?) : WdAt w' v k bs := by
  obtain ⟨vl, vb, b1, b2, h1, rfl, hl, hb⟩ := h
  exact ⟨vl, vb, b1, b2, h1, rfl, hl.keep fun x hx => hk x (List.mem_append_left _ hx), hb.keep fun x hx => hk x (List.mem_append_right _ hx)⟩
theorem WdAt.below {w w' : World} {v : Value} {k : Wd} {bs : List Nat} {B : Nat} (h : WdAt w v k bs) (hb : Below B w w') (hB : ∀ b ∈ bs, b < B) : WdAt w' v k bs := h.keep fun b hm => hb.block b (hB b hm)
/-- A world's value as five cells. -/
theorem WdAt.five {w : World} {v : Value} {k : Wd} {bs : List Nat} (h : WdAt w v k bs) : ∃ a n c a' n' c', v = .agg #[.bool k.ok, .bool k.bk.ok, .int .i64 k.bk.sec, .slice a n c, .slice a' n' c'] := by
  obtain ⟨vl, vb, b1, b2, rfl, _, hl, hb⟩ := h
  obtain ⟨a, n, c, rfl⟩ := hl.slice
  obtain ⟨a', n', c', rfl⟩ := hb.slice
  exact ⟨_, _, _, _, _, _, rfl⟩

/-- A world in memory that the call made. -/
def NewWd (w w' : World) (v : Value) (k : Wd) : Prop := ∃ bs, WdAt w' v k bs ∧ bs.Nodup ∧ Free w' bs ∧ (∀ b ∈ bs, w.heap.size ≤ b) ∧ Below w.heap.size w w'
theorem newWd_zero {w w' : World} (h : Below w.heap.size w w') : NewWd w w' (.agg #[.bool false, .bool false, .int .i64 0, .slice none 0 0, .slice none 0 0]) wd0 :=
  ⟨[], ⟨_, _, [], [], rfl, rfl, lnsAt_nil _, bdsAt_nil _⟩, by simp, fun b hb => by simp at hb, fun b hb => by simp at hb, h⟩

def markBds (n : Nat) (k : Int) : List Bd := (List.range n).map fun (i : Nat) => ⟨k + 4 * i, k + 4 * i + 1, k + 4 * i + 2, k + 4 * i + 3⟩
theorem markBds_len (n : Nat) (k : Int) : (markBds n k).length = n := by simp [markBds]
theorem markBds_at {n i : Nat} (k : Int) (h : i < n) : (markBds n k)[i]?.getD bd0 = ⟨k + 4 * i, k + 4 * i + 1, k + 4 * i + 2, k + 4 * i + 3⟩ := by simp [markBds, h]

/-- A body is laid at place k. -/
theorem bd_set {w : World} {b o n k : Nat} {L : Nat → Bd} (h : ∀ j, j < n → BdCells w b (o + j * 4) (L j)) (hk : k < n) (x : Bd) :
    ∀ j, j < n → BdCells ((((w.setCell ⟨b, o + k * 4, none⟩ (.int .i64 x.ver)).setCell ⟨b, o + k * 4 + 1, none⟩ (.int .i64 x.cel)).setCell ⟨b, o + k * 4 + 2, none⟩ (.int .i64 x.tail)).setCell ⟨b, o + k * 4 + 3, none⟩ (.int .i64 x.front)) b (o + j * 4) (if j = k then x else L j) := by
  intro j hj
  by_cases e : j = k
  · subst e
    obtain ⟨h0, h1, h2, h3⟩ := h j hj
    rw [if_pos rfl]
    refine ⟨?_, ?_, ?_, ?_⟩
    · rw [cell_set_ne (by omega), cell_set_ne (by omega), cell_set_ne (by omega)]
      exact World.cell?_setCell_same _ _ _ h0
    · rw [cell_set_ne (by omega), cell_set_ne (by omega)]
      exact World.cell?_setCell_same _ _ _ (by rw [cell_set_ne (by omega)]; exact h1)
    · rw [cell_set_ne (by omega)]
      exact World.cell?_setCell_same _ _ _ (by rw [cell_set_ne (by omega), cell_set_ne (by omega)]; exact h2)
    · exact World.cell?_setCell_same _ _ _ (by rw [cell_set_ne (by omega), cell_set_ne (by omega), cell_set_ne (by omega)]; exact h3)
  · rw [if_neg e]
    have off : ∀ r, r < 4 → ((((w.setCell ⟨b, o + k * 4, none⟩ (.int .i64 x.ver)).setCell ⟨b, o + k * 4 + 1, none⟩ (.int .i64 x.cel)).setCell ⟨b, o + k * 4 + 2, none⟩ (.int .i64 x.tail)).setCell ⟨b, o + k * 4 + 3, none⟩ (.int .i64 x.front)).cell? ⟨b, o + j * 4 + r, none⟩ = w.cell? ⟨b, o + j * 4 + r, none⟩ := fun r hr => by
      rw [cell_set_ne (by omega), cell_set_ne (by omega), cell_set_ne (by omega), cell_set_ne (by omega)]
    obtain ⟨h0, h1, h2, h3⟩ := h j hj
    exact ⟨(off 0 (by omega)).trans h0, (off 1 (by omega)).trans h1, (off 2 (by omega)).trans h2, (off 3 (by omega)).trans h3⟩
theorem bd_if (m : Nat → Bd) (L : Nat → Bd) (j k : Nat) : (if j = k then m k else if j < k then m j else L j) = if j < k + 1 then m j else L j := by
  by_cases e : j = k
  · subst e; rw [if_pos rfl, if_pos (by omega)]
  · rw [if_neg e]
    by_cases e2 : j < k
    · rw [if_pos e2, if_pos (by omega)]
    · rw [if_neg e2, if_neg (by omega)]

theorem BlkIs.five {w : World} {b : Nat} {x y z u v : Value} {t : TypeId} (h : BlkIs w b [x, y, z, u, v] t) : w.cell? ⟨b, 0, none⟩ = some x ∧ w.cell? ⟨b, 1, none⟩ = some y ∧ w.cell? ⟨b, 2, none⟩ = some z ∧ w.cell? ⟨b, 3, none⟩ = some u ∧ w.cell? ⟨b, 4, none⟩ = some v := ⟨h.cell 0, h.cell 1, h.cell 2, h.cell 3, h.cell 4⟩

end Go.Proofs.Ytnaaheddhgpnoab
