/-
  WHY AN EVENT IS NOT DONE: the errors in memory, codeOf.
-/
import Derived.Test.YtnaaheddhgpnoaaDoorIs
import Derived.Test.YtnaaheddhgpnoaaDoorData
namespace Go.Proofs.YtnaaheddhgpnoaaDoor
open Go.ChangeShapes Go.WideShapes Go.ChangeAt Go.RowKit

/-- The three errors that are held against each other, as they lie. -/
structure Errs (w : World) (a0 a1 a2 : Addr) : Prop where
  g0 : w.cell? ⟨0, 0, none⟩ = some (.iface 231 (.pointer (some a0)))
  g1 : w.cell? ⟨1, 0, none⟩ = some (.iface 231 (.pointer (some a1)))
  g2 : w.cell? ⟨2, 0, none⟩ = some (.iface 231 (.pointer (some a2)))
  b0 : ∃ c t, w.heap[a0.block]? = some (.cells c t (0, 0))
  b1 : ∃ c t, w.heap[a1.block]? = some (.cells c t (0, 0))
  b2 : ∃ c t, w.heap[a2.block]? = some (.cells c t (0, 0))
  n01 : a0 ≠ a1
  n02 : a0 ≠ a2
  n12 : a1 ≠ a2

theorem heap_lt {w : World} {b : Nat} {o : Obj} (h : w.heap[b]? = some o) : b < w.heap.size := (Array.getElem?_eq_some_iff.1 h).1
theorem Errs.keep {w w' : World} {a0 a1 a2 : Addr} (h : Errs w a0 a1 a2) (hk : ∀ b, b < 3 ∨ b = a0.block ∨ b = a1.block ∨ b = a2.block → w'.heap[b]? = w.heap[b]?) : Errs w' a0 a1 a2 where
  g0 := (cell_keep (hk 0 (by omega))).trans h.g0
  g1 := (cell_keep (hk 1 (by omega))).trans h.g1
  g2 := (cell_keep (hk 2 (by omega))).trans h.g2
  b0 := by obtain ⟨c, t, e⟩ := h.b0; exact ⟨c, t, (hk _ (by simp)).trans e⟩
  b1 := by obtain ⟨c, t, e⟩ := h.b1; exact ⟨c, t, (hk _ (by simp)).trans e⟩
  b2 := by obtain ⟨c, t, e⟩ := h.b2; exact ⟨c, t, (hk _ (by simp)).trans e⟩
  n01 := h.n01
  n02 := h.n02
  n12 := h.n12
theorem Errs.lt {w : World} {a0 a1 a2 : Addr} (h : Errs w a0 a1 a2) : ∀ b, b < 3 ∨ b = a0.block ∨ b = a1.block ∨ b = a2.block → b < w.heap.size := fun b hb => by
  obtain ⟨_, _, e0⟩ := h.b0
  obtain ⟨_, _, e1⟩ := h.b1
  obtain ⟨_, _, e2⟩ := h.b2
  have l2 := World.block_lt_of_cell? w _ h.g2
  rcases hb with hb | rfl | rfl | rfl
  · have : (2 : Nat) < w.heap.size := l2
    omega
  · exact heap_lt e0
  · exact heap_lt e1
  · exact heap_lt e2
theorem Errs.below {w w' : World} {a0 a1 a2 : Addr} {B : Nat} (h : Errs w a0 a1 a2) (hb : Below B w w') (hB : ∀ b, b < 3 ∨ b = a0.block ∨ b = a1.block ∨ b = a2.block → b < B) : Errs w' a0 a1 a2 := h.keep fun b hm => hb.block b (hB b hm)

/-- The error of a code. -/
def errV (a0 a1 a2 : Addr) (c : Int) : Value :=
  if c = 0 then .nilIface else if c = 1 then .iface 231 (.pointer (some a0)) else if c = 2 then .iface 231 (.pointer (some a1)) else .iface 231 (.pointer (some a2))

set_option maxHeartbeats 1000000 in
theorem codeOf_0 (w : World) : Calls Tryd.prog 41 #[.nilIface] w fun e w' => e = .returned (.int .i64 0) ∧ w' = w := by
  go_enter Tryd.func41, Tryd.ntmps41
  go_wp2
  go_ret
  exact ⟨rfl, rfl⟩
set_option maxHeartbeats 1000000 in
theorem codeOf_1 (a0 a1 a2 : Addr) (w : World) (h : Errs w a0 a1 a2) : Calls Tryd.prog 41 #[.iface 231 (.pointer (some a0))] w fun e w' => e = .returned (.int .i64 1) ∧ w' = w := by
  have g0 := h.g0
  go_enter Tryd.func41, Tryd.ntmps41
  go_wp2_with fail
  refine (is_same a0 _).mono ?_
  rintro e w1 ⟨rfl, rfl⟩
  go_wp2
  go_ret
  exact ⟨rfl, rfl⟩
set_option maxHeartbeats 1000000 in
theorem codeOf_2 (a0 a1 a2 : Addr) (w : World) (h : Errs w a0 a1 a2) : Calls Tryd.prog 41 #[.iface 231 (.pointer (some a1))] w fun e w' => e = .returned (.int .i64 2) ∧ w' = w := by
  have g0 := h.g0
  have g1 := h.g1
  obtain ⟨c0, t0, e0⟩ := h.b0
  obtain ⟨c1, t1, e1⟩ := h.b1
  have HN : Hid (a1 ≠ a0) := h.n01.symm
  go_enter Tryd.func41, Tryd.ntmps41
  go_wp2_with fail
  refine (is_other a1 a0 c1 c0 t1 t0 _ HN.out e1 e0).mono ?_
  rintro e w1 ⟨rfl, rfl⟩
  go_wp2_with fail
  refine (is_same a1 _).mono ?_
  rintro e w1 ⟨rfl, rfl⟩
  go_wp2
  go_ret
  exact ⟨rfl, rfl⟩
set_option maxHeartbeats 1000000 in
theorem codeOf_3 (a0 a1 a2 : Addr) (w : World) (h : Errs w a0 a1 a2) : Calls Tryd.prog 41 #[.iface 231 (.pointer (some a2))] w fun e w' => e = .returned (.int .i64 3) ∧ w' = w := by
  have g0 := h.g0
  have g1 := h.g1
  have g2 := h.g2
  obtain ⟨c0, t0, e0⟩ := h.b0
  obtain ⟨c1, t1, e1⟩ := h.b1
  obtain ⟨c2, t2, e2⟩ := h.b2
  have HN : Hid (a2 ≠ a0) := h.n02.symm
  have HN1 : Hid (a2 ≠ a1) := h.n12.symm
  go_enter Tryd.func41, Tryd.ntmps41
  go_wp2_with fail
  refine (is_other a2 a0 c2 c0 t2 t0 _ HN.out e2 e0).mono ?_
  rintro e w1 ⟨rfl, rfl⟩
  go_wp2_with fail
  refine (is_other a2 a1 c2 c1 t2 t1 _ HN1.out e2 e1).mono ?_
  rintro e w1 ⟨rfl, rfl⟩
  go_wp2_with fail
  refine (is_same a2 _).mono ?_
  rintro e w1 ⟨rfl, rfl⟩
  go_wp2
  go_ret
  exact ⟨rfl, rfl⟩

theorem codeOf_any (a0 a1 a2 : Addr) (c : Int) (w : World) (h : Errs w a0 a1 a2) (hc : 0 ≤ c ∧ c ≤ 3) : Calls Tryd.prog 41 #[errV a0 a1 a2 c] w fun e w' => e = .returned (.int .i64 c) ∧ w' = w := by
  have : c = 0 ∨ c = 1 ∨ c = 2 ∨ c = 3 := by omega
  rcases this with rfl | rfl | rfl | rfl
  · exact codeOf_0 w
  · exact codeOf_1 a0 a1 a2 w h
  · exact codeOf_2 a0 a1 a2 w h
  · exact codeOf_3 a0 a1 a2 w h

end Go.Proofs.YtnaaheddhgpnoaaDoor
