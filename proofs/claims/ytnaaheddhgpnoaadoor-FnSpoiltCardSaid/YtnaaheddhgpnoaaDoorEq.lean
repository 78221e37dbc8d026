import Derived.Test.YtnaaheddhgpnoaaDoorRows
import Derived.Test.YtnaaheddhgpnoaaDoorData
namespace Go.Proofs.YtnaaheddhgpnoaaDoor
open Go.ChangeShapes Go.WideShapes Go.ChangeAt Go.RowKit

set_option maxHeartbeats 400000 in
theorem eqGrant_same (g : Gr) (w : World) :
    Calls Tryd.prog 140 #[.agg #[.int .i64 g.ver, .int .i64 g.cel], .agg #[.int .i64 g.ver, .int .i64 g.cel]] w fun e w' => e = .returned (.bool true) ∧ Below w.heap.size w w' := by
  go_enter Tryd.func140, Tryd.ntmps140
  go_wp2
  go_ret
  exact ⟨rfl, ((Below.refl _ _).alloc (Nat.le_refl _) _).alloc (by simp) _⟩

set_option maxHeartbeats 400000 in
theorem eqIntS_same (xs : List Int) (va vb : Value) (ba bb : List Nat) (w : World) (ha : IntsAt w va xs ba) (hb : IntsAt w vb xs bb) :
    Calls Tryd.prog 113 #[va, vb] w fun e w' => e = .returned (.bool true) ∧ Below w.heap.size w w' := by
  obtain ⟨a, ca, rfl, hca, hma, ha⟩ := ha
  obtain ⟨b, cb, rfl, hcb, hmb, hb⟩ := hb
  unfold maxLen at hma hmb
  generalize hn : xs.length = n at *
  have Hn : Hid (xs.length = n) := hn
  clear hn
  go_enter Tryd.func113, Tryd.ntmps113
  go_wp2
  go_loopw [5] (fun i wr => ∃ k : Nat, k ≤ n ∧ i = .int .i64 k ∧ Below w.heap.size w wr) (fun i _ => n - (intOf i).toNat)
  case atStart => exact ⟨0, Nat.zero_le _, rfl, Below.refl _ _⟩
  case round =>
    obtain ⟨k, hk, rfl, hbw⟩ := hrel
    by_cases hlt : k < n
    · rcases ha with ⟨h0, _⟩ | ⟨b1, o1, rfl, _, hs1, hc1⟩
      · omega
      rcases hb with ⟨h0, _⟩ | ⟨b2, o2, rfl, _, hs2, hc2⟩
      · omega
      have c1 := Ext.cell (B := w.heap.size) (w := wr) hs1 (by rw [(bcell hbw).1 _ _ hs1]; exact hc1 k hlt)
      have c2 := Ext.cell (B := w.heap.size) (w := wr) hs2 (by rw [(bcell hbw).1 _ _ hs2]; exact hc2 k hlt)
      have ne : Nonempty (Ext w.heap.size wr) := ⟨⟨_, Below.refl _ _⟩⟩
      clear hc1 hc2
      go_wp2
      refine wp_region_ext w.heap.size (by kernel_rfl) (by kernel_rfl) ?_
      repeat (go_big_quiet_step (fail))
      refine wpQuiet_nil ?_
      rintro _ ⟨⟨w1, hb1⟩, rfl⟩
      clear c1 c2
      go_wp2
      go_roundw
      case rel => exact ⟨k + 1, by omega, by go_num, hbw.trans hb1⟩
      case measure => simp [intOf]; omega
    · go_wp2
      go_ret
      exact ⟨rfl, hbw⟩

set_option maxHeartbeats 400000 in
theorem eqGrantS_same (xs : List Gr) (va vb : Value) (ba bb : List Nat) (w : World) (ha : GrsAt w va xs ba) (hb : GrsAt w vb xs bb) :
    Calls Tryd.prog 114 #[va, vb] w fun e w' => e = .returned (.bool true) ∧ Below w.heap.size w w' := by
  obtain ⟨a, ca, rfl, hca, hma, ha⟩ := ha
  obtain ⟨b, cb, rfl, hcb, hmb, hb⟩ := hb
  unfold maxLen at hma hmb
  generalize hn : xs.length = n at *
  have Hn : Hid (xs.length = n) := hn
  clear hn
  go_enter Tryd.func114, Tryd.ntmps114
  go_wp2
  go_loopw [5] (fun i wr => ∃ k : Nat, k ≤ n ∧ i = .int .i64 k ∧ Below w.heap.size w wr) (fun i _ => n - (intOf i).toNat)
  case atStart => exact ⟨0, Nat.zero_le _, rfl, Below.refl _ _⟩
  case round =>
    obtain ⟨k, hk, rfl, hbw⟩ := hrel
    by_cases hlt : k < n
    · rcases ha with ⟨h0, _⟩ | ⟨b1, o1, rfl, _, hs1, hc1⟩
      · omega
      rcases hb with ⟨h0, _⟩ | ⟨b2, o2, rfl, _, hs2, hc2⟩
      · omega
      have c1 := Ext.cell (B := w.heap.size) (w := wr) hs1 (by rw [(bcell hbw).1 _ _ hs1]; exact (hc1 k hlt).1)
      have c1' := Ext.cell (B := w.heap.size) (w := wr) hs1 (by rw [(bcell hbw).1 _ _ hs1]; exact (hc1 k hlt).2)
      have c2 := Ext.cell (B := w.heap.size) (w := wr) hs2 (by rw [(bcell hbw).1 _ _ hs2]; exact (hc2 k hlt).1)
      have c2' := Ext.cell (B := w.heap.size) (w := wr) hs2 (by rw [(bcell hbw).1 _ _ hs2]; exact (hc2 k hlt).2)
      have ne : Nonempty (Ext w.heap.size wr) := ⟨⟨_, Below.refl _ _⟩⟩
      clear hc1 hc2
      go_wp2
      refine wp_region_ext w.heap.size (by kernel_rfl) (by kernel_rfl) ?_
      repeat (go_big_quiet_step (exact ext_of hbw.size _ (eqGrant_same _ _)))
      refine wpQuiet_nil ?_
      rintro _ ⟨⟨w1, hb1⟩, rfl⟩
      clear c1 c2 c1' c2'
      go_wp2
      go_roundw
      case rel => exact ⟨k + 1, by omega, by go_num, hbw.trans hb1⟩
      case measure => simp [intOf]; omega
    · go_wp2
      go_ret
      exact ⟨rfl, hbw⟩

theorem alloc2 (w : World) (o1 o2 : Obj) : Below w.heap.size w ((w.alloc o1).alloc o2) := ((Below.refl _ _).alloc (Nat.le_refl _) _).alloc (by simp) _

set_option maxHeartbeats 400000 in
theorem eqLine_same (l : Ln) (va vb : Value) (ba bb : List Nat) (w : World) (ha : LnAt w va l ba) (hb : LnAt w vb l bb) :
    Calls Tryd.prog 91 #[va, vb] w fun e w' => e = .returned (.bool true) ∧ Below w.heap.size w w' := by
  obtain ⟨vw1, vg1, bw1, bg1, rfl, _, hw1, hg1⟩ := ha
  obtain ⟨vw2, vg2, bw2, bg2, rfl, _, hw2, hg2⟩ := hb
  go_enter Tryd.func91, Tryd.ntmps91
  go_wp2_with fail
  have a2 := alloc2 w
  refine (eqIntS_same l.way _ _ _ _ _ (hw1.below (a2 _ _) hw1.lt) (hw2.below (a2 _ _) hw2.lt)).mono ?_
  clear a2
  rintro e w1 ⟨rfl, hb1⟩
  obtain ⟨hc, hf⟩ := bcell hb1
  have hz : w.heap.size + 1 < w1.heap.size := by have := hb1.size; simp at this; omega
  have hB := (alloc2 w _ _).trans (hb1.mono (by simp; omega))
  go_wp2_with fail
  refine (eqGrantS_same l.grs _ _ _ _ _ (hg1.below hB hg1.lt) (hg2.below hB hg2.lt)).mono ?_
  rintro e w2 ⟨rfl, hb2⟩
  obtain ⟨hc', hf'⟩ := bcell hb2
  have hB2 := hB.trans (hb2.mono hB.size)
  have hz0 : w.heap.size < w1.heap.size := by omega
  go_wp2
  go_ret
  exact ⟨rfl, hB2⟩

set_option maxHeartbeats 400000 in
theorem eqLineS_same (xs : List Ln) (va vb : Value) (ba bb : List Nat) (w : World) (ha : LnsAt w va xs ba) (hb : LnsAt w vb xs bb) :
    Calls Tryd.prog 66 #[va, vb] w fun e w' => e = .returned (.bool true) ∧ Below w.heap.size w w' := by
  obtain ⟨a, ca, rfl, hca, hma, ha⟩ := ha
  obtain ⟨b, cb, rfl, hcb, hmb, hb⟩ := hb
  unfold maxLen at hma hmb
  generalize hn : xs.length = n at *
  have Hn : Hid (xs.length = n) := hn
  clear hn
  go_enter Tryd.func66, Tryd.ntmps66
  go_wp2
  go_loopw [5] (fun i wr => ∃ k : Nat, k ≤ n ∧ i = .int .i64 k ∧ Below w.heap.size w wr) (fun i _ => n - (intOf i).toNat)
  case atStart => exact ⟨0, Nat.zero_le _, rfl, Below.refl _ _⟩
  case round =>
    obtain ⟨k, hk, rfl, hbw⟩ := hrel
    by_cases hlt : k < n
    · rcases ha with ⟨h0, _⟩ | ⟨b1, o1, D1, rfl, _, hs1, hc1⟩
      · omega
      rcases hb with ⟨h0, _⟩ | ⟨b2, o2, D2, rfl, _, hs2, hc2⟩
      · omega
      obtain ⟨vw1, vg1, p1, p2, p3, p4, hl1⟩ := (hc1 k hlt).at
      obtain ⟨vw2, vg2, q1, q2, q3, q4, hl2⟩ := (hc2 k hlt).at
      have c1 := Ext.cell (B := w.heap.size) (w := wr) hs1 (by rw [(bcell hbw).1 _ _ hs1]; exact p1)
      have c2 := Ext.cell (B := w.heap.size) (w := wr) hs1 (by rw [(bcell hbw).1 _ _ hs1]; exact p2)
      have c3 := Ext.cell (B := w.heap.size) (w := wr) hs1 (by rw [(bcell hbw).1 _ _ hs1]; exact p3)
      have c4 := Ext.cell (B := w.heap.size) (w := wr) hs1 (by rw [(bcell hbw).1 _ _ hs1]; exact p4)
      have d1 := Ext.cell (B := w.heap.size) (w := wr) hs2 (by rw [(bcell hbw).1 _ _ hs2]; exact q1)
      have d2 := Ext.cell (B := w.heap.size) (w := wr) hs2 (by rw [(bcell hbw).1 _ _ hs2]; exact q2)
      have d3 := Ext.cell (B := w.heap.size) (w := wr) hs2 (by rw [(bcell hbw).1 _ _ hs2]; exact q3)
      have d4 := Ext.cell (B := w.heap.size) (w := wr) hs2 (by rw [(bcell hbw).1 _ _ hs2]; exact q4)
      have hL1 : Hid (∀ x : Ext w.heap.size wr, LnAt x.val _ _ _) := fun x => hl1.below (hbw.trans x.prop) hl1.lt
      have hL2 : Hid (∀ x : Ext w.heap.size wr, LnAt x.val _ _ _) := fun x => hl2.below (hbw.trans x.prop) hl2.lt
      have ne : Nonempty (Ext w.heap.size wr) := ⟨⟨_, Below.refl _ _⟩⟩
      clear hc1 hc2 p1 p2 p3 p4 q1 q2 q3 q4 hl1 hl2
      go_wp2
      refine wp_region_ext w.heap.size (by kernel_rfl) (by kernel_rfl) ?_
      repeat (go_big_quiet_step (exact ext_of hbw.size _ (eqLine_same _ _ _ _ _ _ (hL1.out _) (hL2.out _))))
      refine wpQuiet_nil ?_
      rintro _ ⟨⟨w1, hb1⟩, rfl⟩
      clear c1 c2 c3 c4 d1 d2 d3 d4
      go_wp2
      go_roundw
      case rel => exact ⟨k + 1, by omega, by go_num, hbw.trans hb1⟩
      case measure => simp [intOf]; omega
    · go_wp2
      go_ret
      exact ⟨rfl, hbw⟩

set_option maxHeartbeats 400000 in
theorem eqBook_same (k : Bk) (va vb : Value) (ba bb : List Nat) (w : World) (ha : BkAt w va k ba) (hb : BkAt w vb k bb) :
    Calls Tryd.prog 30 #[va, vb] w fun e w' => e = .returned (.bool true) ∧ Below w.heap.size w w' := by
  obtain ⟨v1, rfl, h1⟩ := ha
  obtain ⟨v2, rfl, h2⟩ := hb
  go_enter Tryd.func30, Tryd.ntmps30
  go_wp2_with fail
  have a2 := alloc2 w
  refine (eqLineS_same k.lns _ _ _ _ _ (h1.below (a2 _ _) h1.lt) (h2.below (a2 _ _) h2.lt)).mono ?_
  clear a2
  rintro e w1 ⟨rfl, hb1⟩
  have hB := (alloc2 w _ _).trans (hb1.mono (by simp; omega))
  go_wp2
  go_ret
  exact ⟨rfl, hB⟩

end Go.Proofs.YtnaaheddhgpnoaaDoor
