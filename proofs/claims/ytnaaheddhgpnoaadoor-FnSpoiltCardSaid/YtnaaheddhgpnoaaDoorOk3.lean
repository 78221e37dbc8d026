import Derived.Test.YtnaaheddhgpnoaaDoorOk2
import Derived.Deep.RegionWith
namespace Go.Proofs.YtnaaheddhgpnoaaDoor
open Go.ChangeShapes Go.WideShapes Go.ChangeAt Go.RowKit

/-- What a round of the look at the Grants asks, and what it comes to. -/
theorem grs_no {l : Ln} {k : Nat} (hk : k < l.grs.length) (h : ¬ (0 ≤ (l.grs[k]?.getD gr0).cel ∧ (l.grs[k]?.getD gr0).cel ≤ totD l) ∨ ¬ (0 ≤ (l.grs[k]?.getD gr0).ver ∧ (l.grs[k]?.getD gr0).ver ≤ 1000000) ∨ (0 < k ∧ (l.grs[k]?.getD gr0).ver ≠ (l.grs[k - 1]?.getD gr0).ver + 1)) : ¬ GrsOk l := by
  intro hg
  have g := hg.each k hk
  rcases h with h | h | ⟨h1, h2⟩
  · exact h ⟨g.c0, g.c1⟩
  · exact h ⟨g.v0, g.v1⟩
  · exact h2 (g.next h1)
theorem grs_step {l : Ln} {k : Nat} (hA : ∀ j, j < k → GrOk l j) (h1 : 0 ≤ (l.grs[k]?.getD gr0).cel ∧ (l.grs[k]?.getD gr0).cel ≤ totD l) (h2 : 0 ≤ (l.grs[k]?.getD gr0).ver ∧ (l.grs[k]?.getD gr0).ver ≤ 1000000)
    (h3 : 0 < k → (l.grs[k]?.getD gr0).ver = (l.grs[k - 1]?.getD gr0).ver + 1) : ∀ j, j < k + 1 → GrOk l j := by
  intro j hj
  by_cases e : j = k
  · subst e; exact ⟨h1.1, h1.2, h2.1, h2.2, h3⟩
  · exact hA j (by omega)

set_option maxHeartbeats 1000000 in
theorem grantsRight_any (l : Ln) (v : Value) (bs : List Nat) (w : World) (h : LnAt w v l bs) (hh : WayHead l) :
    Calls Tryd.prog 44 #[v] w fun e w' => ∃ b, e = .returned (.bool b) ∧ (b = true ↔ GrsOk l) ∧ Below w.heap.size w w' := by
  have hL := h
  obtain ⟨vw, vg, b1, b2, rfl, hbs, hwi, ⟨a, c, rfl, hlc, hcm, hg⟩⟩ := h
  obtain ⟨ta, tn, tc, rfl⟩ := hwi.slice
  unfold maxLen at hcm
  have a1 : ∀ o, Below w.heap.size w (w.alloc o) := fun o => (Below.refl _ _).alloc (Nat.le_refl _) _
  by_cases hlen : 1 ≤ l.grs.length ∧ l.grs.length ≤ 20
  · have hT := fun W h => total_any l (.agg #[.int .i64 l.gone, .slice ta tn tc, .slice a l.grs.length c, .int .i64 l.drop]) bs W h hh.lo hh.hi hh.len
    have hR := fun W h => reach_any l (.agg #[.int .i64 l.gone, .slice ta tn tc, .slice a l.grs.length c, .int .i64 l.drop]) bs W h
    have hNo := fun k => grs_no (l := l) (k := k)
    have hSt := fun k => grs_step (l := l) (k := k)
    have hEnd : Hid ((∀ j, j < l.grs.length → GrOk l j) → (GrsOk l ↔ l.gone ≤ mostOf l.grs)) := fun h => ⟨fun g => g.reach, fun g => ⟨hlen.1, hlen.2, h, g⟩⟩
    generalize totD l = T at *
    generalize mostOf l.grs = M at *
    generalize l.grs.length = n at *
    have hn1 : (1 : Int) ≤ (n : Int) := by omega
    have hn2 : (n : Int) ≤ 20 := by omega
    have HT : Hid (∀ W, LnAt W (.agg #[.int .i64 l.gone, .slice ta tn tc, .slice a n c, .int .i64 l.drop]) l bs → Calls Tryd.prog 78 #[.agg #[.int .i64 l.gone, .slice ta tn tc, .slice a n c, .int .i64 l.drop]] W fun e w' => e = .returned (.int .i64 T) ∧ Below W.heap.size W w') := hT
    have HR : Hid (∀ W, LnAt W (.agg #[.int .i64 l.gone, .slice ta tn tc, .slice a n c, .int .i64 l.drop]) l bs → Calls Tryd.prog 49 #[.agg #[.int .i64 l.gone, .slice ta tn tc, .slice a n c, .int .i64 l.drop]] W fun e w' => e = .returned (.int .i64 M) ∧ Below W.heap.size W w') := hR
    have HNo : Hid (∀ k, k < n → ¬ (0 ≤ (l.grs[k]?.getD gr0).cel ∧ (l.grs[k]?.getD gr0).cel ≤ T) ∨ ¬ (0 ≤ (l.grs[k]?.getD gr0).ver ∧ (l.grs[k]?.getD gr0).ver ≤ 1000000) ∨ (0 < k ∧ (l.grs[k]?.getD gr0).ver ≠ (l.grs[k - 1]?.getD gr0).ver + 1) → ¬ GrsOk l) := hNo
    have HSt : Hid (∀ k, (∀ j, j < k → GrOk l j) → 0 ≤ (l.grs[k]?.getD gr0).cel ∧ (l.grs[k]?.getD gr0).cel ≤ T → 0 ≤ (l.grs[k]?.getD gr0).ver ∧ (l.grs[k]?.getD gr0).ver ≤ 1000000 → (0 < k → (l.grs[k]?.getD gr0).ver = (l.grs[k - 1]?.getD gr0).ver + 1) → ∀ j, j < k + 1 → GrOk l j) := hSt
    clear hT hR hNo hSt hlen
    have B0 := BlkIs.new w [.int .i64 l.gone, .slice ta tn tc, .slice a n c, .int .i64 l.drop] 38
    go_enter Tryd.func44, Tryd.ntmps44
    go_wp2_with fail
    refine (within_yes n 1 20 _ hn1 hn2).mono ?_
    rintro e w1 ⟨rfl, rfl⟩
    go_wp2
    go_loopw [13] (fun i wr => ∃ k : Nat, k ≤ n ∧ i = .int .i64 k ∧ (∀ j, j < k → GrOk l j) ∧ BlkIs wr w.heap.size [.int .i64 l.gone, .slice ta tn tc, .slice a n c, .int .i64 l.drop] 38 ∧ Below w.heap.size w wr) (fun i _ => n - (intOf i).toNat)
    case atStart => exact ⟨0, Nat.zero_le _, rfl, fun j hj => by omega, B0, a1 _⟩
    case round =>
      obtain ⟨k, hk, rfl, hall, hB, hbw⟩ := hrel
      have HA : Hid (∀ j, j < k → GrOk l j) := hall
      clear hall B0 a1
      obtain ⟨x0, x1, x2, x3⟩ := hB.four
      by_cases hlt : k < n
      · rcases hg with ⟨h00, _⟩ | ⟨b, o, rfl, _, hs, hc⟩
        · omega
        have c1 := ((bcell hbw).1 _ _ hs).trans (hc k hlt).1
        have c2 := ((bcell hbw).1 _ _ hs).trans (hc k hlt).2
        have HNk : Hid _ := HNo.out k hlt
        have HSk : Hid _ := HSt.out k HA.out
        have hprev : ∀ j, k = j + 1 → wr.cell? ⟨b, o + j * 2, none⟩ = some (.int .i64 (l.grs[j]?.getD gr0).ver) := fun j hj => ((bcell hbw).1 _ _ hs).trans (hc j (by omega)).1
        have HP : Hid (∀ j, k = j + 1 → 0 ≤ (l.grs[j]?.getD gr0).ver ∧ (l.grs[j]?.getD gr0).ver ≤ 1000000) := fun j hj => ⟨(HA.out j (by omega)).v0, (HA.out j (by omega)).v1⟩
        have HPC : Hid (∀ j, k = j + 1 → wr.cell? ⟨b, o + j * 2, none⟩ = some (.int .i64 (l.grs[j]?.getD gr0).ver)) := hprev
        clear hc hprev
        generalize (l.grs[k]?.getD gr0).ver = ve at *
        generalize (l.grs[k]?.getD gr0).cel = ce at *
        go_wp2
        have eG : BlkIs (wr.alloc (.cells #[.int .i64 ve, .int .i64 ce] 40)) wr.heap.size [.int .i64 ve, .int .i64 ce] 40 := BlkIs.new _ _ _
        have eL := hB.alloc (.cells #[.int .i64 ve, .int .i64 ce] 40)
        have eW := hbw.alloc hbw.size (.cells #[.int .i64 ve, .int .i64 ce] 40)
        have eS : wr.heap.size < (wr.alloc (.cells #[.int .i64 ve, .int .i64 ce] 40)).heap.size := by simp
        have ePC : Hid (∀ j, k = j + 1 → (wr.alloc (.cells #[.int .i64 ve, .int .i64 ce] 40)).cell? ⟨b, o + j * 2, none⟩ = some (.int .i64 (l.grs[j]?.getD gr0).ver)) := fun j hj => by
          rw [cell_keep (Below.heap_alloc _ _ _ (Nat.lt_of_lt_of_le hs hbw.size))]; exact HPC.out j hj
        have hsz := hbw.size
        generalize wr.alloc (.cells #[.int .i64 ve, .int .i64 ce] 40) = W at *
        clear c1 c2 x0 x1 x2 x3 hB HPC
        have hLW := (hL.below eW hL.lt)
        have g0 := eG.ext (B := W.heap.size) eG.lt 0
        have g1 := eG.ext (B := W.heap.size) eG.lt 1
        have l0 := eL.ext (B := W.heap.size) eL.lt 0
        have l1 := eL.ext (B := W.heap.size) eL.lt 1
        have l2 := eL.ext (B := W.heap.size) eL.lt 2
        have l3 := eL.ext (B := W.heap.size) eL.lt 3
        simp only [List.getElem?_cons_zero, List.getElem?_cons_succ] at g0 g1 l0 l1 l2 l3
        have hLx : Hid _ := LnAt.ext (B := W.heap.size) hLW hLW.lt
        have ne : Nonempty (Ext W.heap.size W) := ext_some
        by_cases h1 : 0 ≤ ce ∧ ce ≤ T
        · by_cases h2 : 0 ≤ ve ∧ ve ≤ 1000000
          · refine wp_region_ext W.heap.size (by kernel_rfl) (by kernel_rfl) ?_
            repeat (go_big_quiet_step (first | (go_at_call 78; exact ext_of (Nat.le_refl _) _ (HT.out _ (hLx.out _))) | (go_at_call_of 48 ce; exact ext_of_same _ (within_yes ce 0 T _ h1.1 h1.2)) | (go_at_call_of 48 ve; exact ext_of_same _ (within_yes ve 0 1000000 _ h2.1 h2.2))))
            refine wpQuiet_nil ?_
            intro w1 hx1
            have hb1 := ext_below hx1
            clear hx1
            have eG1 := eG.below hb1 eG.lt
            have eL1 := eL.below hb1 eL.lt
            have eW1 := eW.trans (hb1.mono eW.size)
            have ePC1 : Hid (∀ j, k = j + 1 → w1.cell? ⟨b, o + j * 2, none⟩ = some (.int .i64 (l.grs[j]?.getD gr0).ver)) := fun j hj => by
              rw [(bcell hb1).1 _ _ (by omega)]; exact ePC.out j hj
            clear g0 g1 l0 l1 l2 l3 hLx ne eG eL eW ePC hb1
            have g0 := eG1.ext (B := w1.heap.size) eG1.lt 0
            have g1 := eG1.ext (B := w1.heap.size) eG1.lt 1
            have l0 := eL1.ext (B := w1.heap.size) eL1.lt 0
            have l1 := eL1.ext (B := w1.heap.size) eL1.lt 1
            have l2 := eL1.ext (B := w1.heap.size) eL1.lt 2
            have l3 := eL1.ext (B := w1.heap.size) eL1.lt 3
            simp only [List.getElem?_cons_zero, List.getElem?_cons_succ] at g0 g1 l0 l1 l2 l3
            have ne : Nonempty (Ext w1.heap.size w1) := ext_some
            by_cases hk0 : k = 0
            · subst hk0
              have hfin := HSk.out h1 h2 (fun h => by omega)
              have HF : Hid (∀ j, j < 0 + 1 → GrOk l j) := hfin
              clear hfin
              go_wp2
              refine wp_region_ext w1.heap.size (by kernel_rfl) (by kernel_rfl) ?_
              repeat (go_big_quiet_step (fail))
              refine wpQuiet_nil ?_
              intro w2 hx2
              have hb2 := ext_below hx2
              clear hx2
              have eL2 := eL1.below hb2 eL1.lt
              have eW2 := eW1.trans (hb2.mono eW1.size)
              clear g0 g1 l0 l1 l2 l3 ne
              go_wp2
              go_roundw
              case rel => exact ⟨1, by omega, rfl, HF.out, eL2, eW2⟩
              case measure => simp [intOf]; omega
            · obtain ⟨j, rfl⟩ : ∃ j, k = j + 1 := ⟨k - 1, by omega⟩
              have pc0 := ePC1.out j rfl
              have hpv := HP.out j rfl
              have HSk' : Hid (ve = (l.grs[j]?.getD gr0).ver + 1 → ∀ i, i < j + 1 + 1 → GrOk l i) := fun h => HSk.out h1 h2 (fun _ => h)
              have HNk' : Hid (ve ≠ (l.grs[j]?.getD gr0).ver + 1 → ¬ GrsOk l) := fun h => HNk.out (Or.inr (Or.inr ⟨by omega, h⟩))
              generalize (l.grs[j]?.getD gr0).ver = pv at *
              obtain ⟨hp1, hp2⟩ := hpv
              have pc := Ext.cell (B := w1.heap.size) (w := w1) (Nat.lt_of_lt_of_le hs eW1.size) pc0
              have hj2 : (j : Int) < (n : Int) := by omega
              clear pc0
              by_cases hne : ve = pv + 1
              · have hne' : (ve != pv + 1) = false := by simp [hne]
                have HF : Hid (∀ i, i < j + 1 + 1 → GrOk l i) := HSk'.out hne
                have HV : Hid (ve = pv + 1) := hne
                clear hne
                go_wp2
                refine wp_region_ext w1.heap.size (by kernel_rfl) (by kernel_rfl) ?_
                repeat (go_big_quiet_step (fail))
                refine wpQuiet_nil ?_
                intro w2 hx2
                have hb2 := ext_below hx2
                clear hx2
                have eL2 := eL1.below hb2 eL1.lt
                have eW2 := eW1.trans (hb2.mono eW1.size)
                clear g0 g1 l0 l1 l2 l3 ne pc
                go_wp2
                go_roundw
                case rel => exact ⟨j + 1 + 1, by omega, by go_num, HF.out, eL2, eW2⟩
                case measure => simp [intOf]; omega
              · have hne' : (ve != pv + 1) = true := by simp [hne]
                have HF : Hid (¬ GrsOk l) := HNk'.out hne
                clear hne
                go_wp2
                refine wp_region_ext w1.heap.size (by kernel_rfl) (by kernel_rfl) ?_
                repeat (go_big_quiet_step (fail))
                refine wpQuiet_nil ?_
                intro w2 hx2
                have hb2 := ext_below hx2
                clear hx2
                have eW2 := eW1.trans (hb2.mono eW1.size)
                clear g0 g1 l0 l1 l2 l3 ne pc
                go_wp2
                go_ret
                exact ⟨false, rfl, by simpa using HF.out, eW2⟩
          · have HF : Hid (¬ GrsOk l) := HNk.out (Or.inr (Or.inl h2))
            refine wp_region_ext W.heap.size (by kernel_rfl) (by kernel_rfl) ?_
            repeat (go_big_quiet_step (first | (go_at_call 78; exact ext_of (Nat.le_refl _) _ (HT.out _ (hLx.out _))) | (go_at_call_of 48 ce; exact ext_of_same _ (within_yes ce 0 T _ h1.1 h1.2)) | (go_at_call_of 48 ve; exact ext_of_same _ (within_no ve 0 1000000 _ h2))))
            refine wpQuiet_nil ?_
            intro w1 hx1
            have hb1 := ext_below hx1
            clear hx1
            have eW1 := eW.trans (hb1.mono eW.size)
            clear g0 g1 l0 l1 l2 l3 hLx ne
            go_wp2
            go_ret
            exact ⟨false, rfl, by simpa using HF.out, eW1⟩
        · have HF : Hid (¬ GrsOk l) := HNk.out (Or.inl h1)
          refine wp_region_ext W.heap.size (by kernel_rfl) (by kernel_rfl) ?_
          repeat (go_big_quiet_step (first | (go_at_call 78; exact ext_of (Nat.le_refl _) _ (HT.out _ (hLx.out _))) | (go_at_call_of 48 ce; exact ext_of_same _ (within_no ce 0 T _ h1))))
          refine wpQuiet_nil ?_
          intro w1 hx1
          have hb1 := ext_below hx1
          clear hx1
          have eW1 := eW.trans (hb1.mono eW.size)
          clear g0 g1 l0 l1 l2 l3 hLx ne
          go_wp2
          go_ret
          exact ⟨false, rfl, by simpa using HF.out, eW1⟩
      · obtain rfl : k = n := by omega
        have hLW := hL.below hbw hL.lt
        have l0 := hB.ext (B := wr.heap.size) hB.lt 0
        have l1 := hB.ext (B := wr.heap.size) hB.lt 1
        have l2 := hB.ext (B := wr.heap.size) hB.lt 2
        have l3 := hB.ext (B := wr.heap.size) hB.lt 3
        simp only [List.getElem?_cons_zero, List.getElem?_cons_succ] at l0 l1 l2 l3
        have hLx : Hid _ := LnAt.ext (B := wr.heap.size) hLW hLW.lt
        have ne : Nonempty (Ext wr.heap.size wr) := ext_some
        have HF : Hid _ := hEnd.out HA.out
        clear hEnd HNo HSt
        go_wp2
        refine wp_region_ext wr.heap.size (by kernel_rfl) (by kernel_rfl) ?_
        repeat (go_big_quiet_step (exact ext_of (Nat.le_refl _) _ (HR.out _ (hLx.out _))))
        refine wpQuiet_nil ?_
        intro w1 hx1
        have hb1 := ext_below hx1
        clear hx1
        have eW1 := hbw.trans (hb1.mono hbw.size)
        clear l0 l1 l2 l3 hLx ne
        go_wp2
        go_ret
        exact ⟨_, rfl, by rw [HF.out]; simp, eW1⟩
  · have hno : Hid (¬ GrsOk l) := fun h => hlen ⟨h.some, h.few⟩
    have hlen' : ¬ (1 ≤ (l.grs.length : Int) ∧ (l.grs.length : Int) ≤ 20) := fun h => hlen ⟨by omega, by omega⟩
    go_enter Tryd.func44, Tryd.ntmps44
    go_wp2_with fail
    refine (within_no l.grs.length 1 20 _ hlen').mono ?_
    rintro e w1 ⟨rfl, rfl⟩
    go_wp2
    go_ret
    exact ⟨false, rfl, by simpa using hno.out, a1 _⟩

end Go.Proofs.YtnaaheddhgpnoaaDoor
