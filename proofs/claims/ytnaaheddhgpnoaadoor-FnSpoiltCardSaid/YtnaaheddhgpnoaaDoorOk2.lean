import Derived.Test.YtnaaheddhgpnoaaDoorOk1
namespace Go.Proofs.YtnaaheddhgpnoaaDoor
open Go.ChangeShapes Go.WideShapes Go.ChangeAt Go.RowKit

set_option maxHeartbeats 400000 in
theorem wayRight_any (sec : Int) (l : Ln) (v : Value) (bs : List Nat) (w : World) (h : LnAt w v l bs) (s1 : 1 ≤ sec) (s2 : sec ≤ 200) :
    Calls Tryd.prog 43 #[v, .int .i64 sec] w fun e w' => ∃ b, e = .returned (.bool b) ∧ (b = true ↔ WayOk sec l) ∧ Below w.heap.size w w' := by
  have hL := h
  obtain ⟨vw, vg, b1, b2, rfl, _, ⟨a, c, rfl, hlc, hcm, hw⟩, hg⟩ := h
  obtain ⟨ta, tn, tc, rfl⟩ := hg.slice
  unfold maxLen at hcm
  have a1 : ∀ o, Below w.heap.size w (w.alloc o) := fun o => (Below.refl _ _).alloc (Nat.le_refl _) _
  by_cases hg1 : 0 ≤ l.gone ∧ l.gone ≤ 1000000
  · by_cases hlen : l.way.length ≤ 100
    · have hlen' : ¬ (100 : Int) < (l.way.length : Int) := by omega
      by_cases htot : totD l ≤ 1000000
      · have HH : Hid (WayHead l) := (⟨hg1.1, hg1.2, hlen, htot⟩ : WayHead l)
        have htot' : ¬ (1000000 : Int) < totD l := by omega
        have HE : Hid (WayOk sec l → ∀ i, i < l.way.length → 0 ≤ l.way[i]?.getD 0 ∧ l.way[i]?.getD 0 ≤ sec - 1) := fun h => h.each
        have HM : Hid ((∀ i, i < l.way.length → 0 ≤ l.way[i]?.getD 0 ∧ l.way[i]?.getD 0 ≤ sec - 1) → WayOk sec l) := fun h => ⟨HH.out, h⟩
        have hT := fun W h => total_any l (.agg #[.int .i64 l.gone, .slice a l.way.length c, .slice ta tn tc, .int .i64 l.drop]) bs W h hg1.1 hg1.2 hlen
        generalize totD l = T at *
        generalize l.way.length = n at *
        go_enter Tryd.func43, Tryd.ntmps43
        go_wp2_with fail
        refine (within_yes l.gone 0 1000000 _ hg1.1 hg1.2).mono ?_
        rintro e w1 ⟨rfl, rfl⟩
        go_wp2_with fail
        refine (hT _ (hL.below (a1 _) hL.lt)).mono ?_
        rintro e w1 ⟨rfl, hb1⟩
        have hb := (a1 _).trans (hb1.mono (by simp))
        obtain ⟨hc1, hf1⟩ := bcell hb1
        clear hT a1
        go_wp2
        go_loopw [25] (fun i wr => ∃ k : Nat, k ≤ n ∧ i = .int .i64 k ∧ (∀ j, j < k → 0 ≤ l.way[j]?.getD 0 ∧ l.way[j]?.getD 0 ≤ sec - 1) ∧ Below w.heap.size w wr) (fun i _ => n - (intOf i).toNat)
        case atStart => exact ⟨0, Nat.zero_le _, rfl, fun j hj => by omega, hb⟩
        case round =>
          obtain ⟨k, hk, rfl, hall, hbw⟩ := hrel
          have HA : Hid (∀ j, j < k → 0 ≤ l.way[j]?.getD 0 ∧ l.way[j]?.getD 0 ≤ sec - 1) := hall
          clear hall
          by_cases hlt : k < n
          · rcases hw with ⟨h00, _⟩ | ⟨b, o, rfl, _, hs, hc⟩
            · omega
            have c1 := ((bcell hbw).1 _ _ hs).trans (hc k hlt)
            clear hc
            have HE' := HE.out
            have HEk : Hid (¬ (0 ≤ l.way[k]?.getD 0 ∧ l.way[k]?.getD 0 ≤ sec - 1) → ¬ WayOk sec l) := fun h1 h2 => h1 (HE' h2 k hlt)
            have HAk : Hid (0 ≤ l.way[k]?.getD 0 ∧ l.way[k]?.getD 0 ≤ sec - 1 → ∀ j, j < k + 1 → 0 ≤ l.way[j]?.getD 0 ∧ l.way[j]?.getD 0 ≤ sec - 1) := fun h j hj => by
              by_cases e : j = k
              · subst e; exact h
              · exact HA.out j (by omega)
            clear HE'
            generalize l.way[k]?.getD 0 = x at *
            by_cases hx : 0 ≤ x ∧ x ≤ sec - 1
            · go_wp2_with fail
              refine (within_yes x 0 (sec - 1) _ hx.1 hx.2).mono ?_
              rintro e w2 ⟨rfl, rfl⟩
              go_wp2
              go_roundw
              case rel => exact ⟨k + 1, by omega, by go_num, HAk.out hx, hbw⟩
              case measure => simp [intOf]; omega
            · go_wp2_with fail
              refine (within_no x 0 (sec - 1) _ hx).mono ?_
              rintro e w2 ⟨rfl, rfl⟩
              go_wp2
              go_ret
              exact ⟨false, rfl, by simpa using HEk.out hx, hbw⟩
          · obtain rfl : k = n := by omega
            go_wp2
            go_ret
            exact ⟨true, rfl, by simpa using HM.out HA.out, hbw⟩
      · have hno : Hid (¬ WayOk sec l) := fun h => htot h.head.tot
        have htot' : (1000000 : Int) < totD l := by omega
        have hT := fun W h => total_any l (.agg #[.int .i64 l.gone, .slice a l.way.length c, .slice ta tn tc, .int .i64 l.drop]) bs W h hg1.1 hg1.2 hlen
        generalize totD l = T at *
        go_enter Tryd.func43, Tryd.ntmps43
        go_wp2_with fail
        refine (within_yes l.gone 0 1000000 _ hg1.1 hg1.2).mono ?_
        rintro e w1 ⟨rfl, rfl⟩
        go_wp2_with fail
        refine (hT _ (hL.below (a1 _) hL.lt)).mono ?_
        rintro e w1 ⟨rfl, hb1⟩
        have hb := (a1 _).trans (hb1.mono (by simp))
        clear hT a1
        go_wp2
        go_ret
        exact ⟨false, rfl, by simpa using hno.out, hb⟩
    · have hno : Hid (¬ WayOk sec l) := fun h => hlen h.head.len
      have hlen' : (100 : Int) < (l.way.length : Int) := by omega
      go_enter Tryd.func43, Tryd.ntmps43
      go_wp2_with fail
      refine (within_yes l.gone 0 1000000 _ hg1.1 hg1.2).mono ?_
      rintro e w1 ⟨rfl, rfl⟩
      go_wp2
      go_ret
      exact ⟨false, rfl, by simpa using hno.out, a1 _⟩
  · have hno : Hid (¬ WayOk sec l) := fun h => hg1 ⟨h.head.lo, h.head.hi⟩
    go_enter Tryd.func43, Tryd.ntmps43
    go_wp2_with fail
    refine (within_no l.gone 0 1000000 _ hg1).mono ?_
    rintro e w1 ⟨rfl, rfl⟩
    go_wp2
    go_ret
    exact ⟨false, rfl, by simpa using hno.out, a1 _⟩

end Go.Proofs.YtnaaheddhgpnoaaDoor
