import Derived.Test.YtnaaheddhgpnoaaDoorBegin
import Derived.Test.YtnaaheddhgpnoaaDoorToD
import Derived.Test.YtnaaheddhgpnoaaDoorOkD
namespace Go.Proofs.YtnaaheddhgpnoaaDoor
open Go.ChangeShapes Go.WideShapes Go.ChangeAt Go.RowKit

theorem rint {k : IntKind} {a b : Int} (h : a = b) : Ending.returned (.int k a) = .returned (.int k b) := by rw [h]

set_option maxHeartbeats 400000 in
theorem total_any (l : Ln) (v : Value) (bs : List Nat) (w : World) (h : LnAt w v l bs) (h1 : 0 ≤ l.gone) (h2 : l.gone ≤ 1000000) (h3 : l.way.length ≤ 100) :
    Calls Tryd.prog 78 #[v] w fun e w' => e = .returned (.int .i64 (totD l)) ∧ Below w.heap.size w w' := by
  obtain ⟨vw, vg, b1, b2, rfl, _, ⟨a, c, rfl, hw⟩, hg⟩ := h
  unfold totD
  go_enter Tryd.func78, Tryd.ntmps78
  go_wp2
  go_ret
  exact ⟨rfl, (Below.refl _ _).alloc (Nat.le_refl _) _⟩
set_option maxHeartbeats 400000 in
theorem l1total_any (l : Ln) (v : Value) (bs : List Nat) (w : World) (h : LnAt w v l bs) (h1 : 0 ≤ l.gone) (h2 : l.gone ≤ 1000000) (h3 : l.way.length ≤ 100) :
    Calls Tryd.prog 61 #[v] w fun e w' => e = .returned (.int .i64 (totD l)) ∧ Below w.heap.size w w' := by
  obtain ⟨vw, vg, b1, b2, rfl, _, ⟨a, c, rfl, hw⟩, hg⟩ := h
  unfold totD
  go_enter Tryd.func61, Tryd.ntmps61
  go_wp2
  go_ret
  exact ⟨rfl, (Below.refl _ _).alloc (Nat.le_refl _) _⟩

set_option maxHeartbeats 400000 in
theorem l1most_any (l : Ln) (v : Value) (bs : List Nat) (w : World) (h : LnAt w v l bs) :
    Calls Tryd.prog 63 #[v] w fun e w' => e = .returned (.int .i64 (mostOf l.grs)) ∧ Below w.heap.size w w' := by
  obtain ⟨vw, vg, b1, b2, rfl, _, hw, ⟨a, c, rfl, hlc, hcm, hg⟩⟩ := h
  obtain ⟨sa, sn, sc, rfl⟩ := hw.slice
  unfold maxLen at hcm
  unfold mostOf
  generalize l.grs.length = n at *
  go_enter Tryd.func63, Tryd.ntmps63
  go_wp2
  go_loopw [3, 9] (fun m i wr => ∃ k : Nat, k ≤ n ∧ m = .int .i64 (mostTo l.grs k) ∧ i = .int .i64 k ∧ Below w.heap.size w wr) (fun _ i _ => n - (intOf i).toNat)
  case atStart => exact ⟨0, Nat.zero_le _, rfl, rfl, (Below.refl _ _).alloc (Nat.le_refl _) _⟩
  case round =>
    obtain ⟨k, hk, rfl, rfl, hbw⟩ := hrel
    by_cases hlt : k < n
    · rcases hg with ⟨h00, _⟩ | ⟨b, o, rfl, _, hs, hc⟩
      · omega
      have c1 := ((bcell hbw).1 _ _ hs).trans (hc k hlt).1
      have c2 := ((bcell hbw).1 _ _ hs).trans (hc k hlt).2
      have hm : Hid (mostTo l.grs (k + 1) = max (mostTo l.grs k) (l.grs[k]?.getD gr0).cel) := rfl
      clear hc
      by_cases hgt : mostTo l.grs k < (l.grs[k]?.getD gr0).cel
      · go_wp2
        go_roundw
        case rel => exact ⟨k + 1, by omega, by rw [hm.out]; exact congrArg (Value.int .i64) (by omega), by go_num, hbw.alloc hbw.size _⟩
        case measure => simp [intOf]; omega
      · go_wp2
        go_roundw
        case rel => exact ⟨k + 1, by omega, by rw [hm.out]; exact congrArg (Value.int .i64) (by omega), by go_num, hbw.alloc hbw.size _⟩
        case measure => simp [intOf]; omega
    · obtain rfl : k = n := by omega
      go_wp2
      go_ret
      exact ⟨rfl, hbw⟩

set_option maxHeartbeats 400000 in
theorem join_any (m : Int) (g : Gr) (w : World) :
    Calls Tryd.prog 98 #[.int .i64 m, .agg #[.int .i64 g.ver, .int .i64 g.cel]] w fun e w' => e = .returned (.int .i64 (max m g.cel)) ∧ Below w.heap.size w w' := by
  go_enter Tryd.func98, Tryd.ntmps98
  go_wp2
  all_goals
    go_ret
    exact ⟨rint (by omega), (Below.refl _ _).alloc (Nat.le_refl _) _⟩

set_option maxHeartbeats 400000 in
theorem fold_any (gs : List Gr) (v : Value) (bs : List Nat) (w : World) (h : GrsAt w v gs bs) :
    Calls Tryd.prog 97 #[v, .int .i64 0, .func (.func 98) #[] #[]] w fun e w' => e = .returned (.int .i64 (mostOf gs)) ∧ Below w.heap.size w w' := by
  obtain ⟨a, c, rfl, hlc, hcm, hg⟩ := h
  unfold maxLen at hcm
  unfold mostOf
  generalize gs.length = n at *
  go_enter Tryd.func97, Tryd.ntmps97
  go_wp2
  go_loopw [1, 11] (fun m i wr => ∃ k : Nat, k ≤ n ∧ m = .int .i64 (mostTo gs k) ∧ i = .int .i64 k ∧ Below w.heap.size w wr) (fun _ i _ => n - (intOf i).toNat)
  case atStart => exact ⟨0, Nat.zero_le _, rfl, rfl, Below.refl _ _⟩
  case round =>
    obtain ⟨k, hk, rfl, rfl, hbw⟩ := hrel
    by_cases hlt : k < n
    · rcases hg with ⟨h00, _⟩ | ⟨b, o, rfl, _, hs, hc⟩
      · omega
      have c1 := ((bcell hbw).1 _ _ hs).trans (hc k hlt).1
      have c2 := ((bcell hbw).1 _ _ hs).trans (hc k hlt).2
      have hm : Hid (mostTo gs (k + 1) = max (mostTo gs k) (gs[k]?.getD gr0).cel) := rfl
      clear hc
      go_wp2_with fail
      refine (join_any _ _ _).mono ?_
      rintro e w1 ⟨rfl, hb1⟩
      have hb := (hbw.alloc hbw.size (.cells #[.int .i64 (gs[k]?.getD gr0).ver, .int .i64 (gs[k]?.getD gr0).cel] 40)).trans (hb1.mono (by have := hbw.size; simp; omega))
      go_wp2
      go_roundw
      case rel => exact ⟨k + 1, by omega, by rw [hm.out], by go_num, hb⟩
      case measure => simp [intOf]; omega
    · obtain rfl : k = n := by omega
      go_wp2
      go_ret
      exact ⟨rfl, hbw⟩

set_option maxHeartbeats 400000 in
theorem mostCells_any (gs : List Gr) (v : Value) (bs : List Nat) (w : World) (h : GrsAt w v gs bs) :
    Calls Tryd.prog 80 #[v] w fun e w' => e = .returned (.int .i64 (mostOf gs)) ∧ Below w.heap.size w w' := by
  obtain ⟨ta, tn, tc, rfl⟩ := h.slice
  go_enter Tryd.func80, Tryd.ntmps80
  go_wp2_with fail
  refine (fold_any gs _ _ _ h).mono ?_
  rintro e w1 ⟨rfl, hb1⟩
  go_wp2
  go_ret
  exact ⟨rfl, hb1⟩

set_option maxHeartbeats 400000 in
theorem reach_any (l : Ln) (v : Value) (bs : List Nat) (w : World) (h : LnAt w v l bs) :
    Calls Tryd.prog 49 #[v] w fun e w' => e = .returned (.int .i64 (mostOf l.grs)) ∧ Below w.heap.size w w' := by
  obtain ⟨vw, vg, b1, b2, rfl, _, hw, hg⟩ := h
  obtain ⟨sa, sn, sc, rfl⟩ := hw.slice
  obtain ⟨ta, tn, tc, rfl⟩ := hg.slice
  have a1 : ∀ o, Below w.heap.size w (w.alloc o) := fun o => (Below.refl _ _).alloc (Nat.le_refl _) _
  go_enter Tryd.func49, Tryd.ntmps49
  go_wp2_with fail
  refine (mostCells_any l.grs _ _ _ (hg.below (a1 _) hg.lt)).mono ?_
  rintro e w1 ⟨rfl, hb1⟩
  have hb := (a1 _).trans (hb1.mono (by simp))
  go_wp2
  go_ret
  exact ⟨rfl, hb⟩

set_option maxHeartbeats 400000 in
theorem last_any (l : Ln) (v : Value) (bs : List Nat) (w : World) (h : LnAt w v l bs) (m : Nat) (hm : l.grs.length = m + 1) :
    Calls Tryd.prog 79 #[v] w fun e w' => e = .returned (.agg #[.int .i64 (l.grs[m]?.getD gr0).ver, .int .i64 (l.grs[m]?.getD gr0).cel]) ∧ Below w.heap.size w w' := by
  obtain ⟨vw, vg, b1, b2, rfl, _, hw, ⟨a, c, rfl, hlc, hcm, hg⟩⟩ := h
  obtain ⟨sa, sn, sc, rfl⟩ := hw.slice
  unfold maxLen at hcm
  rcases hg with ⟨h00, _⟩ | ⟨b, o, rfl, _, hs, hc⟩
  · omega
  obtain ⟨c1, c2⟩ := hc m (by omega)
  rw [hm] at hc ⊢ hlc
  clear hc hm
  generalize (l.grs[m]?.getD gr0).ver = ve at *
  generalize (l.grs[m]?.getD gr0).cel = ce at *
  have k0 : ∀ ob x, (w.alloc ob).cell? ⟨b, x, none⟩ = w.cell? ⟨b, x, none⟩ := fun ob x => cell_keep (Below.heap_alloc _ _ _ hs)
  have hm1 : (m : Int) < (m : Int) + 1 := by omega
  go_enter Tryd.func79, Tryd.ntmps79
  go_wp2
  exact bodyPost_ret (v := .agg #[.int .i64 ve, .int .i64 ce]) (by simp [results, Tryd.results79, go_sem]) rfl ⟨rfl, by repeat (first | exact Below.refl _ _ | refine Below.setCell ?_ (by simp <;> omega) _ | refine Below.alloc ?_ (by simp <;> omega) _)⟩

set_option maxHeartbeats 400000 in
theorem frameRight_yes (k : Bk) (v : Value) (bs : List Nat) (w : World) (h : BkAt w v k bs) (hk : FrameOk k) :
    Calls Tryd.prog 42 #[v] w fun e w' => e = .returned (.bool true) ∧ Below w.heap.size w w' := by
  obtain ⟨vl, rfl, a, c, rfl, hlc, hcm, hl⟩ := h
  obtain ⟨h0, h1, h2, h3⟩ := hk
  unfold maxLen at hcm
  rw [h0]
  have h3' : (k.lns.length : Int) ≤ 20 := by omega
  go_enter Tryd.func42, Tryd.ntmps42
  go_wp2_with fail
  refine (within_yes k.sec 1 200 _ h1 h2).mono ?_
  rintro e w1 ⟨rfl, rfl⟩
  go_wp2
  go_ret
  exact ⟨by simp, (Below.refl _ _).alloc (Nat.le_refl _) _⟩
set_option maxHeartbeats 400000 in
theorem frameRight_no (k : Bk) (v : Value) (bs : List Nat) (w : World) (h : BkAt w v k bs) (hk : ¬ FrameOk k) :
    Calls Tryd.prog 42 #[v] w fun e w' => e = .returned (.bool false) ∧ Below w.heap.size w w' := by
  obtain ⟨vl, rfl, a, c, rfl, hlc, hcm, hl⟩ := h
  unfold maxLen at hcm
  by_cases h0 : k.ok = true
  · rw [h0]
    by_cases h1 : 1 ≤ k.sec ∧ k.sec ≤ 200
    · have h3 : ¬ (k.lns.length : Int) ≤ 20 := fun h => hk ⟨h0, h1.1, h1.2, by omega⟩
      have h4 : decide ((k.lns.length : Int) ≤ 20) = false := by simpa using h3
      clear h0
      go_enter Tryd.func42, Tryd.ntmps42
      go_wp2_with fail
      refine (within_yes k.sec 1 200 _ h1.1 h1.2).mono ?_
      rintro e w1 ⟨rfl, rfl⟩
      go_wp2
      go_ret
      exact ⟨by simp, (Below.refl _ _).alloc (Nat.le_refl _) _⟩
    · clear h0
      go_enter Tryd.func42, Tryd.ntmps42
      go_wp2_with fail
      refine (within_no k.sec 1 200 _ h1).mono ?_
      rintro e w1 ⟨rfl, rfl⟩
      go_wp2
      go_ret
      exact ⟨rfl, (Below.refl _ _).alloc (Nat.le_refl _) _⟩
  · have h0' : k.ok = false := by simpa using h0
    rw [h0']
    clear h0 h0'
    go_enter Tryd.func42, Tryd.ntmps42
    go_wp2
    go_ret
    exact ⟨rfl, (Below.refl _ _).alloc (Nat.le_refl _) _⟩

end Go.Proofs.YtnaaheddhgpnoaaDoor
