import Derived.Test.YtnaaheddhgpnoaaDoorCur
import Derived.Test.YtnaaheddhgpnoaaDoorDoD
namespace Go.Proofs.YtnaaheddhgpnoaaDoor
open Go.ChangeShapes Go.WideShapes Go.ChangeAt Go.RowKit

theorem CurAt.alloc {w : World} {C : Nat} {v : Value} {a : Nat} (h : CurAt w C v a) (c : Array Value) (t : TypeId) : CurAt (w.alloc (.cells c t)) C v a := h.keep (by simp) fun x hx => Below.heap_alloc _ _ _ (by have := h.lt; omega)
theorem BlkIs.chg1 {w w' : World} {b C : Nat} {c : List Value} {t : TypeId} (h : BlkIs w b c t) (hc : Chg [C] w w') (hb : b ≠ C) : BlkIs w' b c t := h.keep (hc.block b h.lt (by simpa using hb))

theorem Chg.setNew {bs : List Nat} {a w : World} (h : Chg bs a w) {b o : Nat} (hb : a.heap.size ≤ b) (v : Value) : Chg bs a (w.setCell ⟨b, o, none⟩ v) :=
  ⟨h.os, h.tape, h.output, by simpa using h.size, fun k hk hn => (Below.heap_setCell _ _ _ _ (show k ≠ b by omega)).trans (h.block k hk hn), fun x y hx => by rw [World.frozen?_setCell]; exact h.frozen x y hx⟩
theorem CurAt.setNew {w : World} {C a b o : Nat} {v u : Value} (h : CurAt w C v a) (hb : C < b) : CurAt (w.setCell ⟨b, o, none⟩ u) C v a := h.keep (by simp) fun x hx => Below.heap_setCell _ _ _ _ (show x ≠ b by omega)

set_option maxHeartbeats 2000000 in
set_option maxRecDepth 100000 in
theorem odd_any (C : Nat) (v : Value) (a : Nat) (w : World) (h : CurAt w C v a) (ha : a < 1152921504606846976) :
    Calls Tryd.prog 70 #[.pointer (some ⟨C, 0, none⟩)] w fun r w' => (∃ e : Ev, r = .returned (.agg #[.int .i64 e.op, .int .i64 e.train, .int .i64 e.n])) ∧ (∃ a', a' ≤ a + 6 ∧ CurAt w' C v a') ∧ Chg [C] w w' := by
  have hC := h.lt
  have R0 : BlkIs (w.alloc (.cells #[.int .i64 0, .int .i64 0, .int .i64 0] 46)) w.heap.size [.int .i64 0, .int .i64 0, .int .i64 0] 46 := BlkIs.new _ _ _
  have h0 := h.alloc #[.int .i64 0, .int .i64 0, .int .i64 0] 46
  have g0 : Chg [C] w (w.alloc (.cells #[.int .i64 0, .int .i64 0, .int .i64 0] 46)) := (Chg.refl _ _).alloc _ _
  clear h
  go_enter Tryd.func70, Tryd.ntmps70
  go_wp2_with fail
  generalize (w.alloc (.cells #[.int .i64 0, .int .i64 0, .int .i64 0] 46)) = V at *
  refine (pick_any C v a 7 _ h0 (by omega) (by omega)).mono ?_
  rintro _ w1 ⟨⟨r1, rfl, _, _⟩, ⟨a1, ha1, h1⟩, hc1⟩
  have R1 := R0.chg1 hc1 (by omega)
  have g1 := g0.trans hc1
  clear R0 h0 g0 hc1
  go_wp2_with fail
  refine (pick_any C v a1 6 _ h1 (by omega) (by omega)).mono ?_
  rintro _ w2 ⟨⟨r2, rfl, _, q2⟩, ⟨a2, ha2, h2⟩, hc2⟩
  have hr2 := q2 (by omega)
  have R2 := R1.chg1 hc2 (by omega)
  have g2 := g1.trans hc2
  have hz2 := R2.lt
  clear R1 h1 g1 hc2 q2
  have S2 : BlkIs (w2.alloc (.cells #[.int .i64 (-1), .int .i64 0, .int .i64 1, .int .i64 1000000, .int .i64 1000001] 3)) w2.heap.size [.int .i64 (-1), .int .i64 0, .int .i64 1, .int .i64 1000000, .int .i64 1000001] 3 := BlkIs.new _ _ _
  have R3 := R2.alloc (.cells #[.int .i64 (-1), .int .i64 0, .int .i64 1, .int .i64 1000000, .int .i64 1000001] 3)
  have h3 := h2.alloc #[.int .i64 (-1), .int .i64 0, .int .i64 1, .int .i64 1000000, .int .i64 1000001] 3
  have g3 := g2.alloc #[.int .i64 (-1), .int .i64 0, .int .i64 1, .int .i64 1000000, .int .i64 1000001] 3
  clear R2 h2 g2
  go_wp2_with fail
  generalize (w2.alloc (.cells #[.int .i64 (-1), .int .i64 0, .int .i64 1, .int .i64 1000000, .int .i64 1000001] 3)) = V2 at *
  refine (pick_any C v a2 5 _ h3 (by omega) (by omega)).mono ?_
  rintro _ w4 ⟨⟨r3, rfl, _, q3⟩, ⟨a4, ha4, h4⟩, hc4⟩
  have hr3 : r3 < 5 := by have := q3 (by omega); omega
  have R4 := R3.chg1 hc4 (by omega)
  have S4 := S2.chg1 hc4 (by omega)
  have g4 := g3.trans hc4
  obtain ⟨nn, hnn⟩ : ∃ nn : Int, w4.cell? ⟨w2.heap.size, r3, none⟩ = some (.int .i64 nn) := by
    rw [S4.cell r3]
    match r3, hr3 with
    | 0, _ => exact ⟨_, rfl⟩
    | 1, _ => exact ⟨_, rfl⟩
    | 2, _ => exact ⟨_, rfl⟩
    | 3, _ => exact ⟨_, rfl⟩
    | 4, _ => exact ⟨_, rfl⟩
  obtain ⟨x0, x1, x2⟩ := R4.three
  have fR : ∀ x, w4.frozen? ⟨w.heap.size, x, none⟩ = false := fun x => R4.frozen x
  have hr5 : (r3 : Int) < 5 := by omega
  clear R3 S2 h3 g3 hc4 q3 S4
  go_wp2
  refine bodyPost_ret (v := .agg #[.int .i64 (r1 : Int), .int .i64 ((r2 : Int) - 1), .int .i64 nn]) (by simp [results, Tryd.results70, go_sem, x0, x1, x2]) rfl ⟨⟨⟨(r1 : Int), (r2 : Int) - 1, nn⟩, rfl⟩, ⟨a4, by omega, ((h4.setNew hC).setNew hC).setNew hC⟩, ((g4.setNew (Nat.le_refl _) _).setNew (Nat.le_refl _) _).setNew (Nat.le_refl _) _⟩

end Go.Proofs.YtnaaheddhgpnoaaDoor
