import Derived.Test.YtnaaheddhgpnoaaDoorRows
import Derived.Test.YtnaaheddhgpnoaaDoorBegD
namespace Go.Proofs.YtnaaheddhgpnoaaDoor
open Go.ChangeShapes Go.WideShapes Go.ChangeAt Go.RowKit

set_option maxHeartbeats 400000 in
theorem within_yes (n a b : Int) (w : World) (h1 : a ≤ n) (h2 : n ≤ b) : Calls Tryd.prog 48 #[.int .i64 n, .int .i64 a, .int .i64 b] w fun e w' => e = .returned (.bool true) ∧ w' = w := by
  go_enter Tryd.func48, Tryd.ntmps48
  go_wp2
  go_ret
  exact ⟨by simp, rfl⟩
set_option maxHeartbeats 400000 in
theorem within_no (n a b : Int) (w : World) (h : ¬ (a ≤ n ∧ n ≤ b)) : Calls Tryd.prog 48 #[.int .i64 n, .int .i64 a, .int .i64 b] w fun e w' => e = .returned (.bool false) ∧ w' = w := by
  by_cases h1 : a ≤ n
  · have h2 : ¬ n ≤ b := fun h2 => h ⟨h1, h2⟩
    go_enter Tryd.func48, Tryd.ntmps48
    go_wp2
    go_ret
    exact ⟨by simp, rfl⟩
  · go_enter Tryd.func48, Tryd.ntmps48
    go_wp2
    go_ret
    exact ⟨by simp, rfl⟩
set_option maxHeartbeats 400000 in
theorem l1in_yes (n a b : Int) (w : World) (h1 : a ≤ n) (h2 : n ≤ b) : Calls Tryd.prog 56 #[.int .i64 n, .int .i64 a, .int .i64 b] w fun e w' => e = .returned (.bool true) ∧ w' = w := by
  go_enter Tryd.func56, Tryd.ntmps56
  go_wp2
  go_ret
  exact ⟨by simp, rfl⟩
set_option maxHeartbeats 400000 in
theorem l1in_no (n a b : Int) (w : World) (h : ¬ (a ≤ n ∧ n ≤ b)) : Calls Tryd.prog 56 #[.int .i64 n, .int .i64 a, .int .i64 b] w fun e w' => e = .returned (.bool false) ∧ w' = w := by
  by_cases h1 : a ≤ n
  · have h2 : ¬ n ≤ b := fun h2 => h ⟨h1, h2⟩
    go_enter Tryd.func56, Tryd.ntmps56
    go_wp2
    go_ret
    exact ⟨by simp, rfl⟩
  · go_enter Tryd.func56, Tryd.ntmps56
    go_wp2
    go_ret
    exact ⟨by simp, rfl⟩

set_option maxHeartbeats 400000 in
theorem implBegin_no (s t : Int) (w : World) (h : ¬ ((1 ≤ s ∧ s ≤ 200) ∧ (0 ≤ t ∧ t ≤ 20))) :
    Calls Tryd.prog 37 #[.int .i64 s, .int .i64 t] w fun e w' => ∃ v, e = .returned v ∧ NewBk w w' v (begD s t) := by
  have hd : begD s t = bk0 := by unfold begD; rw [if_neg h]
  rw [hd]
  have Hd : Hid (begD s t = bk0) := hd
  clear hd
  by_cases hs : 1 ≤ s ∧ s ≤ 200
  · have ht : ¬ (0 ≤ t ∧ t ≤ 20) := fun ht => h ⟨hs, ht⟩
    obtain ⟨hs1, hs2⟩ := hs
    clear h
    go_enter Tryd.func37, Tryd.ntmps37
    go_wp2_with fail
    refine (within_yes s 1 200 _ hs1 hs2).mono ?_
    rintro e w' ⟨rfl, rfl⟩
    go_wp2_with fail
    refine (within_no t 0 20 _ ht).mono ?_
    rintro e w' ⟨rfl, rfl⟩
    go_wp2
    exact bodyPost_ret (v := .agg #[.bool false, .int .i64 0, .slice none 0 0]) (by simp [results, Tryd.results37, go_sem]) rfl ⟨_, rfl, newBk_zero (by repeat (first | exact Below.refl _ _ | refine Below.setCell ?_ (by simp) _ | refine Below.alloc ?_ (by simp) _))⟩
  · clear h
    go_enter Tryd.func37, Tryd.ntmps37
    go_wp2_with fail
    refine (within_no s 1 200 _ hs).mono ?_
    rintro e w' ⟨rfl, rfl⟩
    go_wp2
    exact bodyPost_ret (v := .agg #[.bool false, .int .i64 0, .slice none 0 0]) (by simp [results, Tryd.results37, go_sem]) rfl ⟨_, rfl, newBk_zero (by repeat (first | exact Below.refl _ _ | refine Below.setCell ?_ (by simp) _ | refine Below.alloc ?_ (by simp) _))⟩

theorem Tryd.infoLine : (Tryd.prog.info? 38).map (fun i => (i.zero, i.size, i.bytes)) = some (some (.agg #[.int .i64 0, .slice none 0 0, .slice none 0 0, .int .i64 0]), 4, 64) := by kernel_rfl

set_option maxHeartbeats 400000 in
theorem implBegin_yes (s t : Int) (w : World) (hs1 : 1 ≤ s) (hs2 : s ≤ 200) (ht1 : 0 ≤ t) (ht2 : t ≤ 20) :
    Calls Tryd.prog 37 #[.int .i64 s, .int .i64 t] w fun e w' => ∃ v, e = .returned v ∧ NewBk w w' v (begD s t) := by
  obtain ⟨n, rfl⟩ := Int.eq_ofNat_of_zero_le ht1
  obtain ⟨i, hi, hz0, hz1, hz2⟩ := info_parts Tryd.infoLine
  have hmk := fun W : World => run_make (P := Tryd.prog) W 30 38 i _ Tryd.underlying30 hi hz0 .i64 .i64 (n : Int) (n : Int) ht1 (Int.le_refl _) (by rw [hz2]; omega) (by omega)
  rw [hz1] at hmk
  clear hi hz0 hz1 hz2
  go_enter Tryd.func37, Tryd.ntmps37
  go_wp2_with fail
  refine (within_yes s 1 200 _ hs1 hs2).mono ?_
  rintro e w' ⟨rfl, rfl⟩
  go_wp2_with fail
  refine (within_yes n 0 20 _ ht1 ht2).mono ?_
  rintro e w' ⟨rfl, rfl⟩
  go_wp2
  have hfree : Hid (∀ x o c t, w.heap.size + 1 ≤ x → (w.alloc (.cells c t)).frozen? ⟨x, o, none⟩ = false) := fun x o c t hx => by
    rw [frozen?_alloc_cells]
    unfold World.frozen?
    rw [Array.getElem?_eq_none (by simp; omega)]
  have h0 := beg_start (W0 := w.alloc (.cells #[.bool false, .int .i64 0, .slice none 0 0] 32)) (b := w.heap.size + 1) (n := n) (z := #[.int .i64 0, .slice none 0 0, .slice none 0 0, .int .i64 0]) (t := 38) (by simp) (fun x o hx => hfree.out x o _ _ hx)
  clear hfree hmk
  go_loopw [20] (fun i wr => ∃ k : Nat, k ≤ n ∧ i = .int .i64 k ∧ BegInv (w.alloc (.cells #[.bool false, .int .i64 0, .slice none 0 0] 32)) wr (w.heap.size + 1) n k) (fun i _ => n - (intOf i).toNat)
  case atStart => exact ⟨0, Nat.zero_le _, rfl, h0⟩
  case round =>
    clear h0
    obtain ⟨k, hk, rfl, hI⟩ := hrel
    by_cases hlt : k < n
    · obtain ⟨u0, c0⟩ := hI.ex (k * 4) (by omega)
      obtain ⟨u1, c1⟩ := hI.ex (k * 4 + 1) (by omega)
      obtain ⟨u2, c2⟩ := hI.ex (k * 4 + 2) (by omega)
      obtain ⟨u3, c3⟩ := hI.ex (k * 4 + 3) (by omega)
      have hb : w.heap.size + 1 < wr.heap.size := by have := hI.size; omega
      have ca : ∀ o x, (wr.alloc o).cell? ⟨w.heap.size + 1, x, none⟩ = wr.cell? ⟨w.heap.size + 1, x, none⟩ := fun o x => cell_keep (Below.heap_alloc _ _ _ hb)
      have f0 : ∀ x, wr.frozen? ⟨w.heap.size + 1, x, none⟩ = false := fun x => hI.free _ x (Nat.le_refl _)
      have fa : ∀ c t x, (wr.alloc (.cells c t)).frozen? ⟨w.heap.size + 1, x, none⟩ = false := fun c t x => by rw [frozen?_alloc_cells]; exact f0 x
      have hst := beg_step (t := 40) hI hlt
      go_wp2
      exact ⟨⟨k + 1, by omega, by go_num, hst⟩, by simp [intOf]; omega⟩
    · obtain rfl : k = n := by omega
      obtain ⟨hc, hf⟩ := bcell hI.below
      have hbw := hI.below
      have hE := beg_end hI (by omega)
      have hFree : Free wr (begBs (w.heap.size + 1) k) := fun b hb o => hI.free b o (begBs_mem hb)
      have hsz := hI.size
      have HS : Hid (wr.heap.size = w.heap.size + 1 + 1 + k) := hsz
      clear hsz
      have Hd : Hid (begD s k = ⟨true, s, List.replicate k lnB⟩) := by
        show begD s k = _
        unfold begD
        rw [if_pos ⟨⟨hs1, hs2⟩, ht1, ht2⟩, Int.toNat_natCast]
      go_wp2
      refine bodyPost_ret (v := .agg #[.bool true, .int .i64 s, .slice (some ⟨w.heap.size + 1, 0, none⟩) k k]) (by simp [results, Tryd.results37, go_sem, hc]) rfl ⟨_, rfl, begBs (w.heap.size + 1) k, ?_, begBs_nodup _ _, ?_, ?_, ?_⟩
      · rw [Hd.out]
        refine ⟨_, rfl, hE.keep fun b hb => ?_⟩
        have := begBs_mem hb
        have ne : b ≠ w.heap.size := by omega
        rw [Below.heap_setCell _ _ _ _ ne, Below.heap_setCell _ _ _ _ ne, Below.heap_setCell _ _ _ _ ne]
      · intro b hb o
        rw [World.frozen?_setCell, World.frozen?_setCell, World.frozen?_setCell]
        exact hFree b hb o
      · intro b hb
        have := begBs_mem hb
        omega
      · exact (((((Below.refl _ _).alloc (Nat.le_refl _) _).trans (hbw.mono (Nat.le_succ _))).setCell (Nat.le_refl _) _).setCell (Nat.le_refl _) _).setCell (Nat.le_refl _) _

set_option maxHeartbeats 400000 in
theorem specBegin_no (s t : Int) (w : World) (h : ¬ ((1 ≤ s ∧ s ≤ 200) ∧ (0 ≤ t ∧ t ≤ 20))) :
    Calls Tryd.prog 35 #[.int .i64 s, .int .i64 t] w fun e w' => ∃ v bs, e = .returned v ∧ BkAt w' v (begD s t) bs ∧ Below w.heap.size w w' := by
  have hd : begD s t = bk0 := by unfold begD; rw [if_neg h]
  rw [hd]
  have Hd : Hid (begD s t = bk0) := hd
  clear hd
  by_cases hs : 1 ≤ s ∧ s ≤ 200
  · have ht : ¬ (0 ≤ t ∧ t ≤ 20) := fun ht => h ⟨hs, ht⟩
    obtain ⟨hs1, hs2⟩ := hs
    clear h
    go_enter Tryd.func35, Tryd.ntmps35
    go_wp2_with fail
    refine (l1in_yes s 1 200 _ hs1 hs2).mono ?_
    rintro e w' ⟨rfl, rfl⟩
    go_wp2_with fail
    refine (l1in_no t 0 20 _ ht).mono ?_
    rintro e w' ⟨rfl, rfl⟩
    go_wp2
    exact bodyPost_ret (v := .agg #[.bool false, .int .i64 0, .slice none 0 0]) (by simp [results, Tryd.results35, go_sem]) rfl ⟨_, [], rfl, ⟨_, rfl, lnsAt_nil _⟩, by repeat (first | exact Below.refl _ _ | refine Below.setCell ?_ (by simp) _ | refine Below.alloc ?_ (by simp) _)⟩
  · clear h
    go_enter Tryd.func35, Tryd.ntmps35
    go_wp2_with fail
    refine (l1in_no s 1 200 _ hs).mono ?_
    rintro e w' ⟨rfl, rfl⟩
    go_wp2
    exact bodyPost_ret (v := .agg #[.bool false, .int .i64 0, .slice none 0 0]) (by simp [results, Tryd.results35, go_sem]) rfl ⟨_, [], rfl, ⟨_, rfl, lnsAt_nil _⟩, by repeat (first | exact Below.refl _ _ | refine Below.setCell ?_ (by simp) _ | refine Below.alloc ?_ (by simp) _)⟩

set_option maxHeartbeats 400000 in
theorem specBegin_yes (s t : Int) (w : World) (hs1 : 1 ≤ s) (hs2 : s ≤ 200) (ht1 : 0 ≤ t) (ht2 : t ≤ 20) :
    Calls Tryd.prog 35 #[.int .i64 s, .int .i64 t] w fun e w' => ∃ v bs, e = .returned v ∧ BkAt w' v (begD s t) bs ∧ Below w.heap.size w w' := by
  obtain ⟨n, rfl⟩ := Int.eq_ofNat_of_zero_le ht1
  obtain ⟨i, hi, hz0, hz1, hz2⟩ := info_parts Tryd.infoLine
  go_enter Tryd.func35, Tryd.ntmps35
  go_wp2_with fail
  refine (l1in_yes s 1 200 _ hs1 hs2).mono ?_
  rintro e w' ⟨rfl, rfl⟩
  go_wp2_with fail
  refine (l1in_yes n 0 20 _ ht1 ht2).mono ?_
  rintro e w' ⟨rfl, rfl⟩
  go_wp2
  go_loopw [6] (fun i wr => ∃ (k : Nat) (vl : Value) (G : Nat → Nat), k ≤ n ∧ i = .int .i64 k ∧ SpInv wr (w.heap.size + 2) 38 40 vl k G ∧ w.heap.size + 2 ≤ wr.heap.size ∧ BlkIs wr w.heap.size [.bool false, .int .i64 0, .slice none 0 0] 32 ∧ BlkIs wr (w.heap.size + 1) [.bool true, .int .i64 s, vl] 32 ∧ Below w.heap.size w wr) (fun i _ => n - (intOf i).toNat)
  case atStart =>
    refine ⟨0, .slice none 0 0, fun _ => 0, Nat.zero_le _, rfl, ⟨World.ownsRow_nil _ _ _ _, fun j hj => by omega⟩, by simp, ?_, ?_, ?_⟩
    · exact (BlkIs.new w [.bool false, .int .i64 0, .slice none 0 0] 32).alloc _
    · have := BlkIs.new (w.alloc (.cells #[.bool false, .int .i64 0, .slice none 0 0] 32)) [.bool true, .int .i64 s, .slice none 0 0] 32
      simpa using this
    · exact ((Below.refl _ _).alloc (Nat.le_refl _) _).alloc (by simp) _
  case round =>
    obtain ⟨k, vl, G, hk, rfl, hI, hsz, hb0, hb1, hbw⟩ := hrel
    by_cases hlt : k < n
    · have c2 : wr.cell? ⟨w.heap.size + 1, 2, none⟩ = some vl := hb1.cell 2
      have hnew := lnB_cells (wr.alloc (.cells #[.int .i64 0, .int .i64 0] 40)) wr.heap.size 38
      rw [show (wr.alloc (.cells #[.int .i64 0, .int .i64 0] 40)).heap.size = wr.heap.size + 1 by simp] at hnew
      have Hnew : Hid (∀ (j : Nat) (u : Value), (lnCellsB wr.heap.size)[j]? = some u → ((wr.alloc (.cells #[.int .i64 0, .int .i64 0] 40)).alloc (.cells #[.int .i64 0, .slice none 0 0, .slice (some ⟨wr.heap.size, 0, none⟩) 1 1, .int .i64 (-1)] 38)).cell? ((⟨wr.heap.size + 1, 0, none⟩ : Addr).add j) = some u) := hnew
      clear hnew
      go_wp2_with (first | (at_builtin; refine wpList_append_own _ rfl _ _ 30 rfl (w.heap.size + 2) 38 i _ 4 64 Tryd.underlying30 hi hz0 hz1 hz2 rfl (by decide) _ _ _ rfl ((hI.own.alloc _).alloc _) ⟨wr.heap.size + 1, 0, none⟩ 1 1 (lnCellsB wr.heap.size) rfl rfl Hnew.out (lnB_one _) (by unfold maxLen; omega) (by omega) (by simp; omega) ?_; intro v' w3 hown' hgrow3 hnil3; obtain ⟨a', c', rfl⟩ := own_slice hown'; have hb1' := ((hb1.alloc _).alloc _).grown ((hI.own.alloc _).alloc _) hgrow3 (by omega); have hb0' := ((hb0.alloc _).alloc _).grown ((hI.own.alloc _).alloc _) hgrow3 (by omega); have d2 := hb1'.cell 2; have g2 := hb1'.frozen 2))
      have hst := sp_step (u := .slice a' (k + 1) c') hI (by decide) hsz (show w.heap.size + 1 < w.heap.size + 2 by omega) hown' hgrow3 2
      have hs3 := hgrow3.size
      simp only [World.size_alloc] at hs3
      refine ⟨⟨k + 1, _, _, by omega, by go_num, hst, by rw [World.size_setCell]; omega, hb0'.other (by omega) _ _, hb1'.set 2 _, ?_⟩, by simp [intOf]; omega⟩
      exact (((hbw.alloc (by omega) _).alloc (by simp; omega) _).grown hgrow3 (by simp; omega) (fun x hx => by have := hI.own.lt x hx; omega)).setCell (by simp) _
    · obtain rfl : k = n := by omega
      obtain ⟨bs, hE, hmem⟩ := sp_end hI (by omega)
      obtain ⟨a', c', rfl⟩ := own_slice hI.own
      have c0 := hb1.cell 0
      have c1 := hb1.cell 1
      have c2 := hb1.cell 2
      have d0 := hb0.cell 0
      have d1 := hb0.cell 1
      have d2 := hb0.cell 2
      have f0 : ∀ o, wr.frozen? ⟨w.heap.size, o, none⟩ = false := fun o => hb0.frozen o
      have Hd : Hid (begD s k = ⟨true, s, List.replicate k lnB⟩) := by
        show begD s k = _
        unfold begD
        rw [if_pos ⟨⟨hs1, hs2⟩, ht1, ht2⟩, Int.toNat_natCast]
      simp only [List.getElem?_cons_zero, List.getElem?_cons_succ] at c0 c1 c2 d0 d1 d2
      go_wp2
      refine bodyPost_ret (v := .agg #[.bool true, .int .i64 s, .slice a' k c']) (by simp [results, Tryd.results35, go_sem, d0, d1, d2]) rfl ⟨_, bs, rfl, ?_, ?_⟩
      · rw [Hd.out]
        refine ⟨_, rfl, hE.keep fun b hb => ?_⟩
        have := hmem b hb
        have ne : b ≠ w.heap.size := by omega
        rw [Below.heap_setCell _ _ _ _ ne, Below.heap_setCell _ _ _ _ ne, Below.heap_setCell _ _ _ _ ne]
      · exact ((hbw.setCell (Nat.le_refl _) _).setCell (Nat.le_refl _) _).setCell (Nat.le_refl _) _

theorem specBegin_any (s t : Int) (w : World) : Calls Tryd.prog 35 #[.int .i64 s, .int .i64 t] w fun e w' => ∃ v bs, e = .returned v ∧ BkAt w' v (begD s t) bs ∧ Below w.heap.size w w' := by
  by_cases h : (1 ≤ s ∧ s ≤ 200) ∧ (0 ≤ t ∧ t ≤ 20)
  · exact specBegin_yes s t w h.1.1 h.1.2 h.2.1 h.2.2
  · exact specBegin_no s t w h

theorem implBegin_any (s t : Int) (w : World) : Calls Tryd.prog 37 #[.int .i64 s, .int .i64 t] w fun e w' => ∃ v, e = .returned v ∧ NewBk w w' v (begD s t) := by
  by_cases h : (1 ≤ s ∧ s ≤ 200) ∧ (0 ≤ t ∧ t ≤ 20)
  · exact implBegin_yes s t w h.1.1 h.1.2 h.2.1 h.2.2
  · exact implBegin_no s t w h

end Go.Proofs.YtnaaheddhgpnoaaDoor
