import Derived.Test.YtnaaheddhgpnoaaDoorOk3
namespace Go.Proofs.YtnaaheddhgpnoaaDoor
open Go.ChangeShapes Go.WideShapes Go.ChangeAt Go.RowKit

set_option maxHeartbeats 4000000 in
theorem l1line_any (k : Bk) (l : Ln) (vb v : Value) (bb bs : List Nat) (w : World) (hb : BkAt w vb k bb) (h : LnAt w v l bs) (s1 : 1 ≤ k.sec) (s2 : k.sec ≤ 200) :
    Calls Tryd.prog 57 #[vb, v] w fun e w' => RetLine e k.sec l ∧ Below w.heap.size w w' := by
  have hL := h
  obtain ⟨vl, rfl, hLs⟩ := hb
  obtain ⟨qa, qn, qc, rfl⟩ := hLs.slice
  obtain ⟨vw, vg, b1, b2, rfl, hbs, ⟨a, c, rfl, hlc, hcm, hw⟩, ⟨ga, gc, rfl, hglc, hgcm, hg⟩⟩ := h
  unfold maxLen at hcm hgcm
  clear hLs
  have a2 : Below w.heap.size w ((w.alloc (.cells #[.bool k.ok, .int .i64 k.sec, .slice qa qn qc] 32)).alloc (.cells #[.int .i64 l.gone, .slice a l.way.length c, .slice ga l.grs.length gc, .int .i64 l.drop] 38)) := ((Below.refl _ _).alloc (Nat.le_refl _) _).alloc (by simp) _
  by_cases hg1 : 0 ≤ l.gone ∧ l.gone ≤ 1000000
  · by_cases hlen : l.way.length ≤ 100
    · have hlen' : ¬ (100 : Int) < (l.way.length : Int) := by omega
      by_cases htot : totD l ≤ 1000000
      · have hhead : WayHead l := ⟨hg1.1, hg1.2, hlen, htot⟩
        have HH : Hid (WayHead l) := hhead
        have htot' : ¬ (1000000 : Int) < totD l := by omega
        have t0 : 0 ≤ totD l := by have := hg1.1; unfold totD; omega
        have HE : Hid (WayOk k.sec l → ∀ i, i < l.way.length → 0 ≤ l.way[i]?.getD 0 ∧ l.way[i]?.getD 0 ≤ k.sec - 1) := fun h => h.each
        have HM : Hid ((∀ i, i < l.way.length → 0 ≤ l.way[i]?.getD 0 ∧ l.way[i]?.getD 0 ≤ k.sec - 1) → WayOk k.sec l) := fun h => ⟨HH.out, h⟩
        have hT := fun W h => l1total_any l (.agg #[.int .i64 l.gone, .slice a l.way.length c, .slice ga l.grs.length gc, .int .i64 l.drop]) bs W h hg1.1 hg1.2 hlen
        have hR := fun W h => l1most_any l (.agg #[.int .i64 l.gone, .slice a l.way.length c, .slice ga l.grs.length gc, .int .i64 l.drop]) bs W h
        have hNo := fun q => grs_no (l := l) (k := q)
        have hSt := fun q => grs_step (l := l) (k := q)
        have HG0 : Hid (¬ (1 ≤ l.grs.length ∧ l.grs.length ≤ 20) → ¬ GrsOk l) := fun h h' => h ⟨h'.some, h'.few⟩
        have HEnd : Hid (1 ≤ l.grs.length → l.grs.length ≤ 20 → (∀ j, j < l.grs.length → GrOk l j) → (GrsOk l ↔ l.gone ≤ mostOf l.grs)) := fun h1 h2 h => ⟨fun g => g.reach, fun g => ⟨h1, h2, h, g⟩⟩
        have HDn : Hid (l.drop = -1 → DropOk l) := fun h => Or.inl h
        have HDr : Hid (l.drop ≠ -1 → (DropOk l ↔ l.gone ≤ l.drop ∧ l.drop ≤ totD l - 1 ∧ lastCel l ≤ l.drop ∧ totD l ≤ mostOf l.grs)) := fun hd =>
          ⟨fun h => ⟨(h.resolve_left hd).lo, (h.resolve_left hd).hi, (h.resolve_left hd).last, (h.resolve_left hd).far⟩, fun h => Or.inr ⟨h.1, h.2.1, h.2.2.1, h.2.2.2⟩⟩
        have HLast : Hid (∀ m, l.grs.length = m + 1 → (l.grs[m]?.getD gr0).cel = lastCel l) := fun m hm => by unfold lastCel; rw [hm]; rfl
        generalize totD l = T at *
        generalize mostOf l.grs = M at *
        generalize lastCel l = LC at *
        generalize l.way.length = n at *
        generalize l.grs.length = gn at *
        have HT : Hid (∀ W, LnAt W (.agg #[.int .i64 l.gone, .slice a n c, .slice ga gn gc, .int .i64 l.drop]) l bs → Calls Tryd.prog 61 #[.agg #[.int .i64 l.gone, .slice a n c, .slice ga gn gc, .int .i64 l.drop]] W fun e w' => e = .returned (.int .i64 T) ∧ Below W.heap.size W w') := hT
        have HR : Hid (∀ W, LnAt W (.agg #[.int .i64 l.gone, .slice a n c, .slice ga gn gc, .int .i64 l.drop]) l bs → Calls Tryd.prog 63 #[.agg #[.int .i64 l.gone, .slice a n c, .slice ga gn gc, .int .i64 l.drop]] W fun e w' => e = .returned (.int .i64 M) ∧ Below W.heap.size W w') := hR
        have HNo : Hid (∀ k, k < gn → ¬ (0 ≤ (l.grs[k]?.getD gr0).cel ∧ (l.grs[k]?.getD gr0).cel ≤ T) ∨ ¬ (0 ≤ (l.grs[k]?.getD gr0).ver ∧ (l.grs[k]?.getD gr0).ver ≤ 1000000) ∨ (0 < k ∧ (l.grs[k]?.getD gr0).ver ≠ (l.grs[k - 1]?.getD gr0).ver + 1) → ¬ GrsOk l) := hNo
        have HSt : Hid (∀ k, (∀ j, j < k → GrOk l j) → 0 ≤ (l.grs[k]?.getD gr0).cel ∧ (l.grs[k]?.getD gr0).cel ≤ T → 0 ≤ (l.grs[k]?.getD gr0).ver ∧ (l.grs[k]?.getD gr0).ver ≤ 1000000 → (0 < k → (l.grs[k]?.getD gr0).ver = (l.grs[k - 1]?.getD gr0).ver + 1) → ∀ j, j < k + 1 → GrOk l j) := hSt
        clear hT hR hNo hSt hhead
        have eB : BlkIs ((w.alloc (.cells #[.bool k.ok, .int .i64 k.sec, .slice qa qn qc] 32)).alloc (.cells #[.int .i64 l.gone, .slice a n c, .slice ga gn gc, .int .i64 l.drop] 38)) w.heap.size [.bool k.ok, .int .i64 k.sec, .slice qa qn qc] 32 := (BlkIs.new _ _ _).alloc _
        have eL : BlkIs ((w.alloc (.cells #[.bool k.ok, .int .i64 k.sec, .slice qa qn qc] 32)).alloc (.cells #[.int .i64 l.gone, .slice a n c, .slice ga gn gc, .int .i64 l.drop] 38)) (w.heap.size + 1) [.int .i64 l.gone, .slice a n c, .slice ga gn gc, .int .i64 l.drop] 38 := by
          have := BlkIs.new (w.alloc (.cells #[.bool k.ok, .int .i64 k.sec, .slice qa qn qc] 32)) [.int .i64 l.gone, .slice a n c, .slice ga gn gc, .int .i64 l.drop] 38
          rwa [World.size_alloc] at this
        go_enter Tryd.func57, Tryd.ntmps57
        go_wp2_with fail
        refine (l1in_yes l.gone 0 1000000 _ hg1.1 hg1.2).mono ?_
        rintro e w1 ⟨rfl, rfl⟩
        go_wp2_with fail
        generalize (w.alloc (.cells #[.bool k.ok, .int .i64 k.sec, .slice qa qn qc] 32)).alloc (.cells #[.int .i64 l.gone, .slice a n c, .slice ga gn gc, .int .i64 l.drop] 38) = W at *
        refine (HT.out _ (hL.below a2 hL.lt)).mono ?_
        rintro e w1 ⟨rfl, hb1⟩
        have eB1 := eB.below hb1 eB.lt
        have eL1 := eL.below hb1 eL.lt
        have eW1 := a2.trans (hb1.mono a2.size)
        clear eB eL a2 hb1
        obtain ⟨x0, x1, x2, x3⟩ := eL1.four
        go_wp2
        clear x0 x1 x2 x3
        go_loopw [28] (fun i wr => ∃ q : Nat, q ≤ n ∧ i = .int .i64 q ∧ (∀ j, j < q → 0 ≤ l.way[j]?.getD 0 ∧ l.way[j]?.getD 0 ≤ k.sec - 1) ∧ wr = w1) (fun i _ => n - (intOf i).toNat)
        case atStart => exact ⟨0, Nat.zero_le _, rfl, fun j hj => by omega, rfl⟩
        case round =>
          obtain ⟨q, hq, rfl, hall, rfl⟩ := hrel
          have HA : Hid (∀ j, j < q → 0 ≤ l.way[j]?.getD 0 ∧ l.way[j]?.getD 0 ≤ k.sec - 1) := hall
          clear hall
          obtain ⟨y0, y1, y2⟩ := eB1.three
          obtain ⟨x0, x1, x2, x3⟩ := eL1.four
          by_cases hlt : q < n
          · rcases hw with ⟨h00, _⟩ | ⟨b, o, rfl, _, hs, hc⟩
            · omega
            have c1 := ((bcell eW1).1 _ _ hs).trans (hc q hlt)
            clear hc
            have HEk : Hid (¬ (0 ≤ l.way[q]?.getD 0 ∧ l.way[q]?.getD 0 ≤ k.sec - 1) → ¬ WayOk k.sec l) := fun h1 h2 => h1 (HE.out h2 q hlt)
            have HAk : Hid (0 ≤ l.way[q]?.getD 0 ∧ l.way[q]?.getD 0 ≤ k.sec - 1 → ∀ j, j < q + 1 → 0 ≤ l.way[j]?.getD 0 ∧ l.way[j]?.getD 0 ≤ k.sec - 1) := fun h => all_step (P := fun j => 0 ≤ l.way[j]?.getD 0 ∧ l.way[j]?.getD 0 ≤ k.sec - 1) HA.out h
            generalize l.way[q]?.getD 0 = x at *
            by_cases hx : 0 ≤ x ∧ x ≤ k.sec - 1
            · go_wp2_with fail
              refine (l1in_yes x 0 (k.sec - 1) _ hx.1 hx.2).mono ?_
              rintro e w2 ⟨rfl, rfl⟩
              go_wp2
              go_roundw
              case rel => exact ⟨q + 1, by omega, by go_num, HAk.out hx, trivial⟩
              case measure => simp [intOf]; omega
            · go_wp2_with fail
              refine (l1in_no x 0 (k.sec - 1) _ hx).mono ?_
              rintro e w2 ⟨rfl, rfl⟩
              go_wp2
              go_ret
              exact ⟨RetLine.c2 (HEk.out hx), eW1⟩
          · obtain rfl : n = q := by omega
            have HW : Hid (WayOk k.sec l) := HM.out HA.out
            clear HA HM HE
            by_cases hgl : 1 ≤ gn ∧ gn ≤ 20
            · obtain ⟨gl1, gl2⟩ := hgl
              have ge0 : ((gn : Int) == 0) = false := by simp; omega
              have ge20 : ¬ (20 : Int) < (gn : Int) := by omega
              go_wp2
              go_loopw [52] (fun i wr => ∃ q : Nat, q ≤ gn ∧ i = .int .i64 q ∧ (∀ j, j < q → GrOk l j) ∧ BlkIs wr (w.heap.size + 1) [.int .i64 l.gone, .slice a n c, .slice ga gn gc, .int .i64 l.drop] 38 ∧ Below w.heap.size w wr) (fun i _ => gn - (intOf i).toNat)
              case atStart => exact ⟨0, Nat.zero_le _, rfl, fun j hj => by omega, eL1, eW1⟩
              case round =>
                clear eL1 eW1 eB1 x0 x1 x2 x3 y0 y1 y2
                obtain ⟨q, hq, rfl, hall, hB, hbw⟩ := hrel
                have HA : Hid (∀ j, j < q → GrOk l j) := hall
                clear hall
                obtain ⟨x0, x1, x2, x3⟩ := hB.four
                by_cases hlt : q < gn
                · rcases hg with ⟨h00, _⟩ | ⟨b, o, rfl, _, hs, hc⟩
                  · omega
                  have c1 := ((bcell hbw).1 _ _ hs).trans (hc q hlt).1
                  have c2 := ((bcell hbw).1 _ _ hs).trans (hc q hlt).2
                  have HNk : Hid _ := HNo.out q hlt
                  have HSk : Hid _ := HSt.out q HA.out
                  have HP : Hid (∀ j, q = j + 1 → 0 ≤ (l.grs[j]?.getD gr0).ver ∧ (l.grs[j]?.getD gr0).ver ≤ 1000000) := fun j hj => ⟨(HA.out j (by omega)).v0, (HA.out j (by omega)).v1⟩
                  have HPC : Hid (∀ j, q = j + 1 → wr.cell? ⟨b, o + j * 2, none⟩ = some (.int .i64 (l.grs[j]?.getD gr0).ver)) := fun j hj => ((bcell hbw).1 _ _ hs).trans (hc j (by omega)).1
                  clear hc
                  generalize (l.grs[q]?.getD gr0).ver = ve at *
                  generalize (l.grs[q]?.getD gr0).cel = ce at *
                  go_wp2
                  have eG : BlkIs (wr.alloc (.cells #[.int .i64 ve, .int .i64 ce] 40)) wr.heap.size [.int .i64 ve, .int .i64 ce] 40 := BlkIs.new _ _ _
                  have eL2 := hB.alloc (.cells #[.int .i64 ve, .int .i64 ce] 40)
                  have eW2 := hbw.alloc hbw.size (.cells #[.int .i64 ve, .int .i64 ce] 40)
                  have ePC : Hid (∀ j, q = j + 1 → (wr.alloc (.cells #[.int .i64 ve, .int .i64 ce] 40)).cell? ⟨b, o + j * 2, none⟩ = some (.int .i64 (l.grs[j]?.getD gr0).ver)) := fun j hj => by
                    rw [cell_keep (Below.heap_alloc _ _ _ (Nat.lt_of_lt_of_le hs hbw.size))]; exact HPC.out j hj
                  generalize wr.alloc (.cells #[.int .i64 ve, .int .i64 ce] 40) = W at *
                  clear c1 c2 x0 x1 x2 x3 hB HPC
                  have hLW := (hL.below eW2 hL.lt)
                  have g0 := eG.ext (B := W.heap.size) eG.lt 0
                  have g1 := eG.ext (B := W.heap.size) eG.lt 1
                  have l0 := eL2.ext (B := W.heap.size) eL2.lt 0
                  have l1 := eL2.ext (B := W.heap.size) eL2.lt 1
                  have l2 := eL2.ext (B := W.heap.size) eL2.lt 2
                  have l3 := eL2.ext (B := W.heap.size) eL2.lt 3
                  simp only [List.getElem?_cons_zero, List.getElem?_cons_succ] at g0 g1 l0 l1 l2 l3
                  have hLx : Hid _ := LnAt.ext (B := W.heap.size) hLW hLW.lt
                  have ne : Nonempty (Ext W.heap.size W) := ext_some
                  by_cases h1 : 0 ≤ ce ∧ ce ≤ T
                  · by_cases hv0 : ve < 0
                    · have HF : Hid (¬ GrsOk l) := HNk.out (Or.inr (Or.inl (fun h => by omega)))
                      refine wp_region_ext W.heap.size (by kernel_rfl) (by kernel_rfl) ?_
                      repeat (go_big_quiet_step (first | (go_at_call 61; exact ext_of (Nat.le_refl _) _ (HT.out _ (hLx.out _))) | (go_at_call 56; exact ext_of_same _ (l1in_yes ce 0 T _ h1.1 h1.2))))
                      refine wpQuiet_nil ?_
                      intro w3 hx3
                      have hb3 := ext_below hx3
                      clear hx3
                      have eL3 := eL2.below hb3 eL2.lt
                      have eW3 := eW2.trans (hb3.mono eW2.size)
                      clear g0 g1 l0 l1 l2 l3 hLx ne eL2 eW2 hb3 
                      go_wp2
                      go_ret
                      exact ⟨RetLine.c3 HW.out HF.out, eW3⟩
                    · by_cases hk0 : q = 0
                      · subst hk0
                        by_cases hv1 : 1000000 < ve
                        · have HF : Hid (¬ GrsOk l) := HNk.out (Or.inr (Or.inl (fun h => by omega)))
                          refine wp_region_ext W.heap.size (by kernel_rfl) (by kernel_rfl) ?_
                          repeat (go_big_quiet_step (first | (go_at_call 61; exact ext_of (Nat.le_refl _) _ (HT.out _ (hLx.out _))) | (go_at_call 56; exact ext_of_same _ (l1in_yes ce 0 T _ h1.1 h1.2))))
                          refine wpQuiet_nil ?_
                          intro w3 hx3
                          have hb3 := ext_below hx3
                          clear hx3
                          have eL3 := eL2.below hb3 eL2.lt
                          have eW3 := eW2.trans (hb3.mono eW2.size)
                          clear g0 g1 l0 l1 l2 l3 hLx ne eL2 eW2 hb3 
                          go_wp2
                          go_ret
                          exact ⟨RetLine.c3 HW.out HF.out, eW3⟩
                        · have HF : Hid (∀ j, j < 0 + 1 → GrOk l j) := HSk.out h1 ⟨by omega, by omega⟩ (fun h => by omega)
                          refine wp_region_ext W.heap.size (by kernel_rfl) (by kernel_rfl) ?_
                          repeat (go_big_quiet_step (first | (go_at_call 61; exact ext_of (Nat.le_refl _) _ (HT.out _ (hLx.out _))) | (go_at_call 56; exact ext_of_same _ (l1in_yes ce 0 T _ h1.1 h1.2))))
                          refine wpQuiet_nil ?_
                          intro w3 hx3
                          have hb3 := ext_below hx3
                          clear hx3
                          have eL3 := eL2.below hb3 eL2.lt
                          have eW3 := eW2.trans (hb3.mono eW2.size)
                          clear g0 g1 l0 l1 l2 l3 hLx ne eL2 eW2 hb3 
                          go_wp2
                          go_roundw
                          case rel => exact ⟨1, by omega, rfl, HF.out, eL3, eW3⟩
                          case measure => simp [intOf]; omega
                      · obtain ⟨j, rfl⟩ : ∃ j, q = j + 1 := ⟨q - 1, by omega⟩
                        have pc0 := ePC.out j rfl
                        have hpv := HP.out j rfl
                        have HSk' : Hid (ve = (l.grs[j]?.getD gr0).ver + 1 → 0 ≤ ve ∧ ve ≤ 1000000 → ∀ i, i < j + 1 + 1 → GrOk l i) := fun h h2 => HSk.out h1 h2 (fun _ => h)
                        have HNk' : Hid (ve ≠ (l.grs[j]?.getD gr0).ver + 1 → ¬ GrsOk l) := fun h => HNk.out (Or.inr (Or.inr ⟨by omega, h⟩))
                        generalize (l.grs[j]?.getD gr0).ver = pv at *
                        obtain ⟨hp1, hp2⟩ := hpv
                        have pc := Ext.cell (B := W.heap.size) (w := W) (Nat.lt_of_lt_of_le hs eW2.size) pc0
                        have hj2 : (j : Int) < (gn : Int) := by omega
                        have hj0 : (0 : Int) < (j : Int) + 1 := by omega
                        clear pc0
                        by_cases hne : ve = pv + 1
                        · have hne' : (ve != pv + 1) = false := by simp [hne]
                          have HV : Hid (ve = pv + 1) := hne
                          clear hne
                          by_cases hv1 : 1000000 < ve
                          · have HF : Hid (¬ GrsOk l) := HNk.out (Or.inr (Or.inl (fun h => by omega)))
                            refine wp_region_ext W.heap.size (by kernel_rfl) (by kernel_rfl) ?_
                            repeat (go_big_quiet_step (first | (go_at_call 61; exact ext_of (Nat.le_refl _) _ (HT.out _ (hLx.out _))) | (go_at_call 56; exact ext_of_same _ (l1in_yes ce 0 T _ h1.1 h1.2))))
                            refine wpQuiet_nil ?_
                            intro w3 hx3
                            have hb3 := ext_below hx3
                            clear hx3
                            have eL3 := eL2.below hb3 eL2.lt
                            have eW3 := eW2.trans (hb3.mono eW2.size)
                            clear g0 g1 l0 l1 l2 l3 hLx ne eL2 eW2 hb3 pc
                            go_wp2
                            go_ret
                            exact ⟨RetLine.c3 HW.out HF.out, eW3⟩
                          · have HF : Hid (∀ i, i < j + 1 + 1 → GrOk l i) := HSk'.out HV.out ⟨by omega, by omega⟩
                            refine wp_region_ext W.heap.size (by kernel_rfl) (by kernel_rfl) ?_
                            repeat (go_big_quiet_step (first | (go_at_call 61; exact ext_of (Nat.le_refl _) _ (HT.out _ (hLx.out _))) | (go_at_call 56; exact ext_of_same _ (l1in_yes ce 0 T _ h1.1 h1.2))))
                            refine wpQuiet_nil ?_
                            intro w3 hx3
                            have hb3 := ext_below hx3
                            clear hx3
                            have eL3 := eL2.below hb3 eL2.lt
                            have eW3 := eW2.trans (hb3.mono eW2.size)
                            clear g0 g1 l0 l1 l2 l3 hLx ne eL2 eW2 hb3 pc
                            go_wp2
                            go_roundw
                            case rel => exact ⟨j + 1 + 1, by omega, by go_num, HF.out, eL3, eW3⟩
                            case measure => simp [intOf]; omega
                        · have hne' : (ve != pv + 1) = true := by simp [hne]
                          have HF : Hid (¬ GrsOk l) := HNk'.out hne
                          clear hne
                          refine wp_region_ext W.heap.size (by kernel_rfl) (by kernel_rfl) ?_
                          repeat (go_big_quiet_step (first | (go_at_call 61; exact ext_of (Nat.le_refl _) _ (HT.out _ (hLx.out _))) | (go_at_call 56; exact ext_of_same _ (l1in_yes ce 0 T _ h1.1 h1.2))))
                          refine wpQuiet_nil ?_
                          intro w3 hx3
                          have hb3 := ext_below hx3
                          clear hx3
                          have eL3 := eL2.below hb3 eL2.lt
                          have eW3 := eW2.trans (hb3.mono eW2.size)
                          clear g0 g1 l0 l1 l2 l3 hLx ne eL2 eW2 hb3 pc
                          go_wp2
                          go_ret
                          exact ⟨RetLine.c3 HW.out HF.out, eW3⟩
                  · have HF : Hid (¬ GrsOk l) := HNk.out (Or.inl h1)
                    refine wp_region_ext W.heap.size (by kernel_rfl) (by kernel_rfl) ?_
                    repeat (go_big_quiet_step (first | (go_at_call 61; exact ext_of (Nat.le_refl _) _ (HT.out _ (hLx.out _))) | (go_at_call 56; exact ext_of_same _ (l1in_no ce 0 T _ h1))))
                    refine wpQuiet_nil ?_
                    intro w3 hx3
                    have hb3 := ext_below hx3
                    clear hx3
                    have eL3 := eL2.below hb3 eL2.lt
                    have eW3 := eW2.trans (hb3.mono eW2.size)
                    clear g0 g1 l0 l1 l2 l3 hLx ne eL2 eW2 hb3 
                    go_wp2
                    go_ret
                    exact ⟨RetLine.c3 HW.out HF.out, eW3⟩
                · obtain rfl : gn = q := by omega
                  have HGa : Hid (∀ j, j < gn → GrOk l j) := HA.out
                  have HE1 : Hid (GrsOk l ↔ l.gone ≤ M) := HEnd.out gl1 gl2 HA.out
                  clear HA HNo HSt HEnd HG0
                  obtain ⟨m, rfl⟩ : ∃ m, gn = m + 1 := ⟨gn - 1, by omega⟩
                  rcases hg with ⟨h00, _⟩ | ⟨b, o, rfl, _, hs, hc⟩
                  · omega
                  have c1 := ((bcell hbw).1 _ _ hs).trans (hc m (by omega)).1
                  have c2 := ((bcell hbw).1 _ _ hs).trans (hc m (by omega)).2
                  rw [HLast.out m rfl] at c2
                  clear hc HLast
                  generalize (l.grs[m]?.getD gr0).ver = ve at *
                  have hm1 : (m : Int) < (m : Int) + 1 := by omega
                  go_wp2
                  have eG : BlkIs (wr.alloc (.cells #[.int .i64 ve, .int .i64 LC] 40)) wr.heap.size [.int .i64 ve, .int .i64 LC] 40 := BlkIs.new _ _ _
                  have eL2 := hB.alloc (.cells #[.int .i64 ve, .int .i64 LC] 40)
                  have eW2 := hbw.alloc hbw.size (.cells #[.int .i64 ve, .int .i64 LC] 40)
                  generalize wr.alloc (.cells #[.int .i64 ve, .int .i64 LC] 40) = W at *
                  clear c1 c2 x0 x1 x2 x3 hB
                  have hLW := (hL.below eW2 hL.lt)
                  have g0 := eG.ext (B := W.heap.size) eG.lt 0
                  have g1 := eG.ext (B := W.heap.size) eG.lt 1
                  have l0 := eL2.ext (B := W.heap.size) eL2.lt 0
                  have l1 := eL2.ext (B := W.heap.size) eL2.lt 1
                  have l2 := eL2.ext (B := W.heap.size) eL2.lt 2
                  have l3 := eL2.ext (B := W.heap.size) eL2.lt 3
                  simp only [List.getElem?_cons_zero, List.getElem?_cons_succ] at g0 g1 l0 l1 l2 l3
                  have hLx : Hid _ := LnAt.ext (B := W.heap.size) hLW hLW.lt
                  have ne : Nonempty (Ext W.heap.size W) := ext_some
                  refine wp_region_ext W.heap.size (by kernel_rfl) (by kernel_rfl) ?_
                  repeat (go_big_quiet_step (first | (go_at_call 61; exact ext_of (Nat.le_refl _) _ (HT.out _ (hLx.out _))) | (go_at_call 63; exact ext_of (Nat.le_refl _) _ (HR.out _ (hLx.out _)))))
                  refine wpQuiet_nil ?_
                  intro w3 hx3
                  have hb3 := ext_below hx3
                  clear hx3
                  have eG3 := eG.below hb3 eG.lt
                  have eL3 := eL2.below hb3 eL2.lt
                  have eW3 := eW2.trans (hb3.mono eW2.size)
                  clear g0 g1 l0 l1 l2 l3 hLx ne eL2 eW2 hb3 eG hLW
                  by_cases hmg : M < l.gone
                  · have HF : Hid (¬ GrsOk l) := fun h => by have := HE1.out.1 h; omega
                    go_wp2
                    go_ret
                    exact ⟨RetLine.c3 HW.out HF.out, eW3⟩
                  · have HG : Hid (GrsOk l) := HE1.out.2 (by omega)
                    have hLW := (hL.below eW3 hL.lt)
                    have g0 := eG3.ext (B := w3.heap.size) eG3.lt 0
                    have g1 := eG3.ext (B := w3.heap.size) eG3.lt 1
                    have l0 := eL3.ext (B := w3.heap.size) eL3.lt 0
                    have l1 := eL3.ext (B := w3.heap.size) eL3.lt 1
                    have l2 := eL3.ext (B := w3.heap.size) eL3.lt 2
                    have l3 := eL3.ext (B := w3.heap.size) eL3.lt 3
                    simp only [List.getElem?_cons_zero, List.getElem?_cons_succ] at g0 g1 l0 l1 l2 l3
                    have hLx : Hid _ := LnAt.ext (B := w3.heap.size) hLW hLW.lt
                    have ne : Nonempty (Ext w3.heap.size w3) := ext_some
                    by_cases hd : l.drop = -1
                    · have hd' : (l.drop != -1) = false := by simp [hd]
                      have HF : Hid (DropOk l) := HDn.out hd
                      clear hd
                      go_wp2
                      refine wp_region_ext w3.heap.size (by kernel_rfl) (by kernel_rfl) ?_
                      repeat (go_big_quiet_step (first | (go_at_call 61; exact ext_of (Nat.le_refl _) _ (HT.out _ (hLx.out _))) | (go_at_call 63; exact ext_of (Nat.le_refl _) _ (HR.out _ (hLx.out _)))))
                      refine wpQuiet_nil ?_
                      intro w4 hx4
                      have eW4 := eW3.trans ((ext_below hx4).mono eW3.size)
                      clear hx4 g0 g1 l0 l1 l2 l3 hLx ne
                      go_wp2
                      go_ret
                      exact ⟨RetLine.c0 HW.out HG.out HF.out, eW4⟩
                    · have hd' : (l.drop != -1) = true := by simp [hd]
                      have HD : Hid (DropOk l ↔ l.gone ≤ l.drop ∧ l.drop ≤ T - 1 ∧ LC ≤ l.drop ∧ T ≤ M) := HDr.out hd
                      clear hd
                      by_cases h1 : l.gone ≤ l.drop ∧ l.drop ≤ T - 1
                      · by_cases h2 : l.drop < LC
                        · have HF : Hid (¬ DropOk l) := fun h => by have := (HD.out.1 h).2.2.1; omega
                          go_wp2
                          refine wp_region_ext w3.heap.size (by kernel_rfl) (by kernel_rfl) ?_
                          repeat (go_big_quiet_step (first | (go_at_call 61; exact ext_of (Nat.le_refl _) _ (HT.out _ (hLx.out _))) | (go_at_call 63; exact ext_of (Nat.le_refl _) _ (HR.out _ (hLx.out _))) | (go_at_call 56; exact ext_of_same _ (l1in_yes l.drop l.gone (T - 1) _ h1.1 h1.2))))
                          refine wpQuiet_nil ?_
                          intro w4 hx4
                          have eW4 := eW3.trans ((ext_below hx4).mono eW3.size)
                          clear hx4 g0 g1 l0 l1 l2 l3 hLx ne
                          go_wp2
                          go_ret
                          exact ⟨RetLine.c4 HW.out HG.out HF.out, eW4⟩
                        · have h2' : decide (l.drop < LC) = false := by simpa using h2
                          by_cases h3 : M < T
                          · have HF : Hid (¬ DropOk l) := fun h => by have := (HD.out.1 h).2.2.2; omega
                            go_wp2
                            refine wp_region_ext w3.heap.size (by kernel_rfl) (by kernel_rfl) ?_
                            repeat (go_big_quiet_step (first | (go_at_call 61; exact ext_of (Nat.le_refl _) _ (HT.out _ (hLx.out _))) | (go_at_call 63; exact ext_of (Nat.le_refl _) _ (HR.out _ (hLx.out _))) | (go_at_call 56; exact ext_of_same _ (l1in_yes l.drop l.gone (T - 1) _ h1.1 h1.2))))
                            refine wpQuiet_nil ?_
                            intro w4 hx4
                            have eW4 := eW3.trans ((ext_below hx4).mono eW3.size)
                            clear hx4 g0 g1 l0 l1 l2 l3 hLx ne
                            go_wp2
                            go_ret
                            exact ⟨RetLine.c4 HW.out HG.out HF.out, eW4⟩
                          · have HF : Hid (DropOk l) := HD.out.2 ⟨h1.1, h1.2, by omega, by omega⟩
                            go_wp2
                            refine wp_region_ext w3.heap.size (by kernel_rfl) (by kernel_rfl) ?_
                            repeat (go_big_quiet_step (first | (go_at_call 61; exact ext_of (Nat.le_refl _) _ (HT.out _ (hLx.out _))) | (go_at_call 63; exact ext_of (Nat.le_refl _) _ (HR.out _ (hLx.out _))) | (go_at_call 56; exact ext_of_same _ (l1in_yes l.drop l.gone (T - 1) _ h1.1 h1.2))))
                            refine wpQuiet_nil ?_
                            intro w4 hx4
                            have eW4 := eW3.trans ((ext_below hx4).mono eW3.size)
                            clear hx4 g0 g1 l0 l1 l2 l3 hLx ne
                            go_wp2
                            go_ret
                            exact ⟨RetLine.c0 HW.out HG.out HF.out, eW4⟩
                      · have HF : Hid (¬ DropOk l) := fun h => h1 ⟨(HD.out.1 h).1, (HD.out.1 h).2.1⟩
                        go_wp2
                        refine wp_region_ext w3.heap.size (by kernel_rfl) (by kernel_rfl) ?_
                        repeat (go_big_quiet_step (first | (go_at_call 61; exact ext_of (Nat.le_refl _) _ (HT.out _ (hLx.out _))) | (go_at_call 63; exact ext_of (Nat.le_refl _) _ (HR.out _ (hLx.out _))) | (go_at_call 56; exact ext_of_same _ (l1in_no l.drop l.gone (T - 1) _ h1))))
                        refine wpQuiet_nil ?_
                        intro w4 hx4
                        have eW4 := eW3.trans ((ext_below hx4).mono eW3.size)
                        clear hx4 g0 g1 l0 l1 l2 l3 hLx ne
                        go_wp2
                        go_ret
                        exact ⟨RetLine.c4 HW.out HG.out HF.out, eW4⟩
            · have HF : Hid (¬ GrsOk l) := HG0.out hgl
              by_cases hz : gn = 0
              · have ge0 : ((gn : Int) == 0) = true := by simp [hz]
                have HZ : Hid (gn = 0) := hz
                clear hz hgl
                go_wp2
                go_ret
                exact ⟨RetLine.c3 HW.out HF.out, eW1⟩
              · have ge0 : ((gn : Int) == 0) = false := by simp [hz]
                have ge20 : (20 : Int) < (gn : Int) := by omega
                clear hgl
                go_wp2
                go_ret
                exact ⟨RetLine.c3 HW.out HF.out, eW1⟩
      · have hno : Hid (¬ WayOk k.sec l) := fun h => htot h.head.tot
        have htot' : (1000000 : Int) < totD l := by omega
        have hT := fun W h => l1total_any l (.agg #[.int .i64 l.gone, .slice a l.way.length c, .slice ga l.grs.length gc, .int .i64 l.drop]) bs W h hg1.1 hg1.2 hlen
        generalize totD l = T at *
        go_enter Tryd.func57, Tryd.ntmps57
        go_wp2_with fail
        refine (l1in_yes l.gone 0 1000000 _ hg1.1 hg1.2).mono ?_
        rintro e w1 ⟨rfl, rfl⟩
        go_wp2_with fail
        refine (hT _ (hL.below a2 hL.lt)).mono ?_
        rintro e w1 ⟨rfl, hb1⟩
        have hb := a2.trans (hb1.mono a2.size)
        clear hT a2
        go_wp2
        go_ret
        exact ⟨RetLine.c2 hno.out, hb⟩
    · have hno : Hid (¬ WayOk k.sec l) := fun h => hlen h.head.len
      have hlen' : (100 : Int) < (l.way.length : Int) := by omega
      go_enter Tryd.func57, Tryd.ntmps57
      go_wp2_with fail
      refine (l1in_yes l.gone 0 1000000 _ hg1.1 hg1.2).mono ?_
      rintro e w1 ⟨rfl, rfl⟩
      go_wp2
      go_ret
      exact ⟨RetLine.c2 hno.out, a2⟩
  · have hno : Hid (¬ WayOk k.sec l) := fun h => hg1 ⟨h.head.lo, h.head.hi⟩
    go_enter Tryd.func57, Tryd.ntmps57
    go_wp2_with fail
    refine (l1in_no l.gone 0 1000000 _ hg1).mono ?_
    rintro e w1 ⟨rfl, rfl⟩
    go_wp2
    go_ret
    exact ⟨RetLine.c2 hno.out, a2⟩

end Go.Proofs.YtnaaheddhgpnoaaDoor
