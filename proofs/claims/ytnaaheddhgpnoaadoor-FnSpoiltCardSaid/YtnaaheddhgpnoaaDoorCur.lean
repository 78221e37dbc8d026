/-
  THE CURSOR THAT DRAWS: next, pick.
-/
import Derived.Test.YtnaaheddhgpnoaaDoorRows
import Derived.Test.YtnaaheddhgpnoaaDoorBegD
import Derived.Deep.Cut
import Derived.Laws.BitsLemmas
namespace Go.Proofs.YtnaaheddhgpnoaaDoor
open Go.ChangeShapes Go.WideShapes Go.ChangeAt Go.RowKit

/-- Bytes in memory, in a block below B. -/
def BysLow (w : World) (v : Value) (B : Nat) : Prop := ∃ a n cap, v = .slice a n cap ∧ n ≤ cap ∧ cap ≤ maxLen ∧ (n = 0 ∨ ∃ b o, a = some ⟨b, o, none⟩ ∧ b < B ∧ b < w.heap.size ∧ ∀ i, i < n → ∃ x : Nat, x < 256 ∧ w.cell? ⟨b, o + i, none⟩ = some (.int .u8 x))
theorem BysLow.keep {w w' : World} {v : Value} {B : Nat} (h : BysLow w v B) (hs : w.heap.size ≤ w'.heap.size) (hb : ∀ x, x < B → x < w.heap.size → w'.heap[x]? = w.heap[x]?) : BysLow w' v B := by
  obtain ⟨a, n, cap, h1, h2, h3, h⟩ := h
  refine ⟨a, n, cap, h1, h2, h3, ?_⟩
  rcases h with h | ⟨b, o, ha, hB, hl, hc⟩
  · exact Or.inl h
  · exact Or.inr ⟨b, o, ha, hB, Nat.lt_of_lt_of_le hl hs, fun i hi => by obtain ⟨x, hx, e⟩ := hc i hi; exact ⟨x, hx, (cell_keep (hb b hB hl)).trans e⟩⟩

/-- A cursor at block C: where it stands. -/
structure CurAt (w : World) (C : Nat) (v : Value) (a : Nat) : Prop where
  blk : ∃ s : Int, BlkIs w C [v, .int .i64 (a : Int), .int .u64 s] 76
  bys : BysLow w v C
theorem CurAt.lt {w : World} {C : Nat} {v : Value} {a : Nat} (h : CurAt w C v a) : C < w.heap.size := by
  obtain ⟨s, hs⟩ := h.blk
  exact hs.lt
theorem CurAt.keep {w w' : World} {C : Nat} {v : Value} {a : Nat} (h : CurAt w C v a) (hs : w.heap.size ≤ w'.heap.size) (hb : ∀ x, x ≤ C → w'.heap[x]? = w.heap[x]?) : CurAt w' C v a := by
  obtain ⟨s, h1⟩ := h.blk
  exact ⟨⟨s, h1.keep (hb C (Nat.le_refl _))⟩, h.bys.keep hs fun x hx _ => hb x (by omega)⟩
theorem CurAt.below {w w' : World} {C B : Nat} {v : Value} {a : Nat} (h : CurAt w C v a) (hb : Below B w w') (hC : C < B) : CurAt w' C v a := h.keep hb.size fun x hx => hb.block x (by omega)

theorem wraps63 (n : Int) (h₀ : 0 ≤ n) (h₁ : n < 2 ^ 63) : IntKind.u64.wrap n = n := by rw [IntKind.wrap_u64]; omega
theorem mask_small (n : Int) : ∃ r : Nat, r < 256 ∧ wrap64 (bits .and .u64 (IntKind.u64.wrap n / 1099511627776) 255) = (r : Int) := by
  have h0 : 0 ≤ IntKind.u64.wrap n := by rw [IntKind.wrap_u64]; omega
  have h1 : IntKind.u64.wrap n < 18446744073709551616 := by rw [IntKind.wrap_u64]; omega
  generalize IntKind.u64.wrap n = x at *
  have hx0 : 0 ≤ x / 1099511627776 := by omega
  have hx1 : x / 1099511627776 < 2 ^ 63 := by omega
  have h := bits_mask .u64 63 (by decide) wraps63 8 (by decide) (x / 1099511627776) hx0 hx1
  have e : ((2 : Int) ^ 8 - 1) = 255 := by decide
  have e2 : ((2 : Int) ^ 8) = 256 := by decide
  rw [e, e2] at h
  rw [h]
  refine ⟨(x / 1099511627776 % 256).toNat, by omega, ?_⟩
  unfold wrap64
  omega
theorem cur_set {w : World} {C a : Nat} {v : Value} {s s' : Int} (h1 : BysLow w v C) (h2 : BlkIs w C [v, .int .i64 (a : Int), .int .u64 s] 76) :
    CurAt ((w.setCell ⟨C, 1, none⟩ (.int .i64 ((a : Int) + 1))).setCell ⟨C, 2, none⟩ (.int .u64 s')) C v (a + 1) ∧ CurAt ((w.setCell ⟨C, 2, none⟩ (.int .u64 s')).setCell ⟨C, 1, none⟩ (.int .i64 ((a : Int) + 1))) C v (a + 1) := by
  have e : ((a + 1 : Nat) : Int) = (a : Int) + 1 := by omega
  refine ⟨⟨⟨s', ?_⟩, h1.keep (by simp) fun x hx _ => ?_⟩, ⟨⟨s', ?_⟩, h1.keep (by simp) fun x hx _ => ?_⟩⟩
  · rw [e]
    exact (h2.set 1 _).set 2 _
  · have ne : x ≠ C := by omega
    rw [Below.heap_setCell _ _ _ _ ne, Below.heap_setCell _ _ _ _ ne]
  · rw [e]
    exact (h2.set 2 _).set 1 _
  · have ne : x ≠ C := by omega
    rw [Below.heap_setCell _ _ _ _ ne, Below.heap_setCell _ _ _ _ ne]
theorem CurAt.drew {w : World} {C a : Nat} {v : Value} (h : CurAt w C v a) : CurAt w.drew C v a := h.keep (Nat.le_refl _) fun _ _ => rfl
theorem Chg.drew {bs : List Nat} {a w : World} (h : Chg bs a w) : Chg bs a w.drew := ⟨h.os, h.tape, h.output, h.size, h.block, h.frozen⟩

set_option maxHeartbeats 2000000 in
set_option maxRecDepth 100000 in
theorem next_any (C : Nat) (v : Value) (a : Nat) (w : World) (h : CurAt w C v a) (ha : a < 4611686018427387904) :
    Calls Tryd.prog 88 #[.pointer (some ⟨C, 0, none⟩)] w fun e w' => (∃ r : Nat, r < 256 ∧ e = .returned (.int .i64 (r : Int))) ∧ CurAt w' C v (a + 1) ∧ Chg [C] w w' := by
  obtain ⟨s, hB⟩ := h.blk
  have hbys := h.bys
  obtain ⟨x, n, cap, rfl, hn1, hn2, hb⟩ := h.bys
  unfold maxLen at hn2
  obtain ⟨c0, c1, c2⟩ := hB.three
  have f0 : ∀ y, w.frozen? ⟨C, y, none⟩ = false := fun y => hB.frozen y
  have HB : Hid (BysLow w (.slice x n cap) C ∧ BlkIs w C [.slice x n cap, .int .i64 (a : Int), .int .u64 s] 76) := ⟨hbys, hB⟩
  clear h hbys hB
  by_cases hlt : a < n
  · rcases hb with h0 | ⟨b, o, rfl, hbC, hbs, hbc⟩
    · omega
    obtain ⟨y, hy, hcell⟩ := hbc a hlt
    have hlt' : (a : Int) < (n : Int) := by omega
    have hbne : b ≠ C := by omega
    clear hbc
    go_enter Tryd.func88, Tryd.ntmps88
    go_wp2_with fail
    go_region
    go_wp2_with fail
    go_region
    go_wp2
    go_ret
    exact ⟨⟨y, hy, rfl⟩, (cur_set HB.out.1 HB.out.2).1.drew.drew, (((Chg.refl [C] w).setCell (by simp) _).setCell (by simp) _).drew.drew⟩
  · have hlt' : ¬ (a : Int) < (n : Int) := by omega
    go_enter Tryd.func88, Tryd.ntmps88
    go_wp2_with fail
    go_region
    go_wp2
    go_ret
    obtain ⟨r, hr, e⟩ := mask_small (IntKind.u64.wrap (s * 6364136223846793005) + 1442695040888963407)
    exact ⟨⟨r, hr, congrArg (fun z => Ending.returned (Value.int .i64 z)) e⟩, (cur_set HB.out.1 HB.out.2).2.drew, (((Chg.refl [C] w).setCell (by simp) _).setCell (by simp) _).drew⟩

set_option maxHeartbeats 2000000 in
set_option maxRecDepth 100000 in
theorem pick_any (C : Nat) (v : Value) (a : Nat) (n : Int) (w : World) (h : CurAt w C v a) (ha : a < 2305843009213693952) (hn : n ≤ 1048576) :
    Calls Tryd.prog 54 #[.pointer (some ⟨C, 0, none⟩), .int .i64 n] w fun e w' => (∃ r : Nat, e = .returned (.int .i64 (r : Int)) ∧ (n ≤ 1 → r = 0) ∧ (1 < n → (r : Int) < n)) ∧ (∃ a', a' ≤ a + 2 ∧ CurAt w' C v a') ∧ Chg [C] w w' := by
  by_cases h1 : n ≤ 1
  · go_enter Tryd.func54, Tryd.ntmps54
    go_wp2
    go_ret
    exact ⟨⟨0, rfl, fun _ => rfl, fun h => by omega⟩, ⟨a, by omega, h⟩, Chg.refl _ _⟩
  · have hz : (n == 0) = false := by simp; omega
    go_enter Tryd.func54, Tryd.ntmps54
    go_wp2_with fail
    refine (next_any C v a _ h (by omega)).mono ?_
    rintro _ w1 ⟨⟨r, hr, rfl⟩, h2, hc1⟩
    by_cases h3 : 200 < n
    · go_wp2_with fail
      refine (next_any C v (a + 1) _ h2 (by omega)).mono ?_
      rintro _ w2 ⟨⟨q, hq, rfl⟩, h4, hc2⟩
      have hm : ((r : Int) * 256 + (q : Int)).tmod n = ((r : Int) * 256 + (q : Int)) % n := Int.tmod_eq_emod_of_nonneg (by omega)
      have h5 : 0 ≤ ((r : Int) * 256 + (q : Int)) % n := Int.emod_nonneg _ (by omega)
      have h6 : ((r : Int) * 256 + (q : Int)) % n < n := Int.emod_lt_of_pos _ (by omega)
      go_wp2
      go_ret
      exact ⟨⟨(((r : Int) * 256 + (q : Int)) % n).toNat, by rw [Int.toNat_of_nonneg h5]; rfl, fun h => by omega, fun _ => by omega⟩, ⟨_, by omega, h4⟩, hc1.trans hc2⟩
    · have h5 : 0 ≤ (r : Int) % n := Int.emod_nonneg _ (by omega)
      have h6 : (r : Int) % n < n := Int.emod_lt_of_pos _ (by omega)
      go_wp2
      go_ret
      exact ⟨⟨((r : Int) % n).toNat, by rw [Int.toNat_of_nonneg h5]; rfl, fun h => by omega, fun _ => by omega⟩, ⟨_, by omega, h2⟩, hc1⟩

end Go.Proofs.YtnaaheddhgpnoaaDoor
