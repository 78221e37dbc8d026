import Derived.Test.YtnaaheddhgpnoaaDoorOk4
import Derived.Test.YtnaaheddhgpnoaaDoorOwn
namespace Go.Proofs.YtnaaheddhgpnoaaDoor
open Go.ChangeShapes Go.WideShapes Go.ChangeAt Go.RowKit

set_option maxHeartbeats 2000000 in
theorem implBookOk_any (k : Bk) (v : Value) (bs : List Nat) (w : World) (h : BkAt w v k bs) :
    Calls Tryd.prog 13 #[v] w fun e w' => RetCode e k ∧ Below w.heap.size w w' := by
  have hK := h
  obtain ⟨vl, rfl, hLs⟩ := h
  have hLs' := hLs
  obtain ⟨a, ca, rfl, hca, hcm, h⟩ := hLs'
  unfold maxLen at hcm
  have a1 : ∀ o, Below w.heap.size w (w.alloc o) := fun o => (Below.refl _ _).alloc (Nat.le_refl _) _
  by_cases hF : FrameOk k
  · have hsec := hF.lo
    have hsec2 := hF.hi
    have hOw := fun W (hl : LnsAt W (.slice a k.lns.length ca) k.lns bs) (hA : AllWay k) => owners_any k.lns (.slice a k.lns.length ca) bs W hl hF.few (fun i hi => ⟨(hA i hi).head.len, fun c hc => ⟨((hA i hi).each c hc).1, by have := ((hA i hi).each c hc).2; have := hsec2; show sect k.lns i c ≤ 1000000; unfold sect; omega⟩⟩)
    have HO : Hid (∀ W, LnsAt W (.slice a k.lns.length ca) k.lns bs → AllWay k → Calls Tryd.prog 46 #[.slice a k.lns.length ca] W fun e w' => OwnersRet W k.lns e w') := hOw
    have HLs : Hid (LnsAt w (.slice a k.lns.length ca) k.lns bs) := hLs
    have HFr : Hid (FrameOk k) := hF
    have HA2 : Hid ((∀ i, i < k.lns.length → WayOk k.sec (k.lns[i]?.getD ln0)) → AllWay k) := fun h => h
    have HA3 : Hid ((∀ i, i < k.lns.length → GrsOk (k.lns[i]?.getD ln0)) → AllGrs k) := fun h => h
    have HA4 : Hid ((∀ i, i < k.lns.length → DropOk (k.lns[i]?.getD ln0)) → AllDrop k) := fun h => h
    have HN2 : Hid (∀ i, i < k.lns.length → ¬ WayOk k.sec (k.lns[i]?.getD ln0) → ¬ AllWay k) := fun i hi h1 h2 => h1 (h2 i hi)
    have HN3 : Hid (∀ i, i < k.lns.length → ¬ GrsOk (k.lns[i]?.getD ln0) → ¬ AllGrs k) := fun i hi h1 h2 => h1 (h2 i hi)
    have HN4 : Hid (∀ i, i < k.lns.length → ¬ DropOk (k.lns[i]?.getD ln0) → ¬ AllDrop k) := fun i hi h1 h2 => h1 (h2 i hi)
    have HE2 : Hid (AllWay k → ∀ i, i < k.lns.length → WayOk k.sec (k.lns[i]?.getD ln0)) := fun h => h
    have HE3 : Hid (AllGrs k → ∀ i, i < k.lns.length → GrsOk (k.lns[i]?.getD ln0)) := fun h => h
    have B0 := BlkIs.new w [.bool k.ok, .int .i64 k.sec, .slice a k.lns.length ca] 32
    have hFR := fun W h => frameRight_yes k (.agg #[.bool k.ok, .int .i64 k.sec, .slice a k.lns.length ca]) bs W h hF
    clear hOw hF hLs
    generalize k.lns.length = n at *
    go_enter Tryd.func13, Tryd.ntmps13
    go_wp2_with fail
    refine (hFR _ (hK.below (a1 _) hK.lt)).mono ?_
    rintro e w1 ⟨rfl, hb1⟩
    have B1 := B0.below hb1 B0.lt
    have T1 := (a1 _).trans (hb1.mono (by simp))
    clear hFR B0 hb1 a1
    obtain ⟨x0, x1, x2⟩ := B1.three
    go_wp2
    clear x0 x1 x2
    go_loopw [17] (fun i wr => ∃ j : Nat, j ≤ n ∧ i = .int .i64 j ∧ (∀ i, i < j → WayOk k.sec (k.lns[i]?.getD ln0)) ∧ BlkIs wr w.heap.size [.bool k.ok, .int .i64 k.sec, .slice a n ca] 32 ∧ Below w.heap.size w wr) (fun i _ => n - (intOf i).toNat)
    case atStart => exact ⟨0, Nat.zero_le _, rfl, fun i hi => by omega, B1, T1⟩
    case round =>
      clear B1 T1
      obtain ⟨j, hj, rfl, hall, hB, hbw⟩ := hrel
      have HA : Hid (∀ i, i < j → WayOk k.sec (k.lns[i]?.getD ln0)) := hall
      clear hall
      obtain ⟨x0, x1, x2⟩ := hB.three
      by_cases hlt : j < n
      · rcases h with ⟨h00, _⟩ | ⟨b, o, E, rfl, _, hs, hc⟩
        · omega
        obtain ⟨vw, vg, p0, p1, p2, p3, hl⟩ := (hc j hlt).at
        have hl' := hl.below hbw hl.lt
        obtain ⟨_, _, _, _, hv, _, hiw, hgw⟩ := hl
        obtain ⟨sa1, sn1, sc1, rfl⟩ := hiw.slice
        obtain ⟨sa2, sn2, sc2, rfl⟩ := hgw.slice
        simp only [Value.agg.injEq, Array.mk.injEq, List.cons.injEq, and_true, true_and] at hv
        obtain ⟨rfl, rfl⟩ := hv
        have c0 := ((bcell hbw).1 _ _ hs).trans p0
        have c1 := ((bcell hbw).1 _ _ hs).trans p1
        have c2 := ((bcell hbw).1 _ _ hs).trans p2
        have c3 := ((bcell hbw).1 _ _ hs).trans p3
        have HNj : Hid _ := HN2.out j hlt
        have HYj : Hid (WayOk k.sec (k.lns[j]?.getD ln0) → _) := fun h => all_step HA.out h
        have hb' : ∀ o, Below wr.heap.size wr (wr.alloc o) := fun o => (Below.refl _ _).alloc (Nat.le_refl _) _
        have kb : ∀ ob r, (wr.alloc ob).cell? ⟨w.heap.size, r, none⟩ = wr.cell? ⟨w.heap.size, r, none⟩ := fun ob r => cell_keep (Below.heap_alloc _ _ _ hB.lt)
        clear hc p0 p1 p2 p3 hiw hgw
        generalize k.lns[j]?.getD ln0 = l at *
        go_wp2_with fail
        refine (wayRight_any k.sec l _ _ _ (hl'.below (hb' _) hl'.lt) hsec hsec2).mono ?_
        rintro e w2 ⟨b', rfl, hb2, hbb⟩
        have B2 := (hB.alloc (.cells #[.int .i64 l.gone, .slice sa1 sn1 sc1, .slice sa2 sn2 sc2, .int .i64 l.drop] 38)).below hbb (by simp; exact Nat.lt_succ_of_lt hB.lt)
        have T2 := (hbw.alloc hbw.size _).trans (hbb.mono (by have := hbw.size; simp; omega))
        clear c0 c1 c2 c3 x0 x1 x2 kb hb'
        cases b' with
        | true =>
          have HF : Hid _ := HYj.out (hb2.1 rfl)
          clear hb2
          go_wp2
          go_roundw
          case rel => exact ⟨j + 1, by omega, by go_num, HF.out, B2, T2⟩
          case measure => simp [intOf]; omega
        | false =>
          have HF : Hid (¬ AllWay k) := HNj.out (fun h => by simpa using hb2.2 h)
          clear hb2
          go_wp2
          go_ret
          exact ⟨RetCode.c2 HFr.out HF.out, T2⟩
      · obtain rfl : n = j := by omega
        have HW : Hid (AllWay k) := HA2.out HA.out
        clear HA HA2 HN2
        go_wp2
        go_loopw [30] (fun i wr => ∃ j : Nat, j ≤ n ∧ i = .int .i64 j ∧ (∀ i, i < j → GrsOk (k.lns[i]?.getD ln0)) ∧ BlkIs wr w.heap.size [.bool k.ok, .int .i64 k.sec, .slice a n ca] 32 ∧ Below w.heap.size w wr) (fun i _ => n - (intOf i).toNat)
        case atStart => exact ⟨0, Nat.zero_le _, rfl, fun i hi => by omega, hB, hbw⟩
        case round =>
          clear hB hbw x0 x1 x2
          obtain ⟨j, hj, rfl, hall, hB, hbw⟩ := hrel
          have HA : Hid (∀ i, i < j → GrsOk (k.lns[i]?.getD ln0)) := hall
          clear hall
          obtain ⟨x0, x1, x2⟩ := hB.three
          by_cases hlt : j < n
          · rcases h with ⟨h00, _⟩ | ⟨b, o, E, rfl, _, hs, hc⟩
            · omega
            obtain ⟨vw, vg, p0, p1, p2, p3, hl⟩ := (hc j hlt).at
            have hl' := hl.below hbw hl.lt
            obtain ⟨_, _, _, _, hv, _, hiw, hgw⟩ := hl
            obtain ⟨sa1, sn1, sc1, rfl⟩ := hiw.slice
            obtain ⟨sa2, sn2, sc2, rfl⟩ := hgw.slice
            simp only [Value.agg.injEq, Array.mk.injEq, List.cons.injEq, and_true, true_and] at hv
            obtain ⟨rfl, rfl⟩ := hv
            have c0 := ((bcell hbw).1 _ _ hs).trans p0
            have c1 := ((bcell hbw).1 _ _ hs).trans p1
            have c2 := ((bcell hbw).1 _ _ hs).trans p2
            have c3 := ((bcell hbw).1 _ _ hs).trans p3
            have HNj : Hid _ := HN3.out j hlt
            have HYj : Hid (GrsOk (k.lns[j]?.getD ln0) → _) := fun h => all_step HA.out h
            have hwh : Hid (WayHead (k.lns[j]?.getD ln0)) := (HE2.out HW.out j hlt).head
            have hb' : ∀ o, Below wr.heap.size wr (wr.alloc o) := fun o => (Below.refl _ _).alloc (Nat.le_refl _) _
            have kb : ∀ ob r, (wr.alloc ob).cell? ⟨w.heap.size, r, none⟩ = wr.cell? ⟨w.heap.size, r, none⟩ := fun ob r => cell_keep (Below.heap_alloc _ _ _ hB.lt)
            clear hc p0 p1 p2 p3 hiw hgw
            generalize k.lns[j]?.getD ln0 = l at *
            go_wp2_with fail
            refine (grantsRight_any l _ _ _ (hl'.below (hb' _) hl'.lt) hwh.out).mono ?_
            rintro e w2 ⟨b', rfl, hb2, hbb⟩
            have B2 := (hB.alloc (.cells #[.int .i64 l.gone, .slice sa1 sn1 sc1, .slice sa2 sn2 sc2, .int .i64 l.drop] 38)).below hbb (by simp; exact Nat.lt_succ_of_lt hB.lt)
            have T2 := (hbw.alloc hbw.size _).trans (hbb.mono (by have := hbw.size; simp; omega))
            clear c0 c1 c2 c3 x0 x1 x2 kb hb'
            cases b' with
            | true =>
              have HF : Hid _ := HYj.out (hb2.1 rfl)
              clear hb2
              go_wp2
              go_roundw
              case rel => exact ⟨j + 1, by omega, by go_num, HF.out, B2, T2⟩
              case measure => simp [intOf]; omega
            | false =>
              have HF : Hid (¬ AllGrs k) := HNj.out (fun h => by simpa using hb2.2 h)
              clear hb2
              go_wp2
              go_ret
              exact ⟨RetCode.c3 HFr.out HW.out HF.out, T2⟩
          · obtain rfl : n = j := by omega
            have HG : Hid (AllGrs k) := HA3.out HA.out
            clear HA HA3 HN3
            go_wp2
            go_loopw [41] (fun i wr => ∃ j : Nat, j ≤ n ∧ i = .int .i64 j ∧ (∀ i, i < j → DropOk (k.lns[i]?.getD ln0)) ∧ BlkIs wr w.heap.size [.bool k.ok, .int .i64 k.sec, .slice a n ca] 32 ∧ Below w.heap.size w wr) (fun i _ => n - (intOf i).toNat)
            case atStart => exact ⟨0, Nat.zero_le _, rfl, fun i hi => by omega, hB, hbw⟩
            case round =>
              clear hB hbw x0 x1 x2
              obtain ⟨j, hj, rfl, hall, hB, hbw⟩ := hrel
              have HA : Hid (∀ i, i < j → DropOk (k.lns[i]?.getD ln0)) := hall
              clear hall
              obtain ⟨x0, x1, x2⟩ := hB.three
              by_cases hlt : j < n
              · rcases h with ⟨h00, _⟩ | ⟨b, o, E, rfl, _, hs, hc⟩
                · omega
                obtain ⟨vw, vg, p0, p1, p2, p3, hl⟩ := (hc j hlt).at
                have hl' := hl.below hbw hl.lt
                obtain ⟨_, _, _, _, hv, _, hiw, hgw⟩ := hl
                obtain ⟨sa1, sn1, sc1, rfl⟩ := hiw.slice
                obtain ⟨sa2, sn2, sc2, rfl⟩ := hgw.slice
                simp only [Value.agg.injEq, Array.mk.injEq, List.cons.injEq, and_true, true_and] at hv
                obtain ⟨rfl, rfl⟩ := hv
                have c0 := ((bcell hbw).1 _ _ hs).trans p0
                have c1 := ((bcell hbw).1 _ _ hs).trans p1
                have c2 := ((bcell hbw).1 _ _ hs).trans p2
                have c3 := ((bcell hbw).1 _ _ hs).trans p3
                have HNj : Hid _ := HN4.out j hlt
                have HYj : Hid (DropOk (k.lns[j]?.getD ln0) → _) := fun h => all_step HA.out h
                have hwh : Hid (WayHead (k.lns[j]?.getD ln0)) := (HE2.out HW.out j hlt).head
                have hgn := (HE3.out HG.out j hlt).some
                have hb' : ∀ o, Below wr.heap.size wr (wr.alloc o) := fun o => (Below.refl _ _).alloc (Nat.le_refl _) _
                have kb : ∀ ob r, (wr.alloc ob).cell? ⟨w.heap.size, r, none⟩ = wr.cell? ⟨w.heap.size, r, none⟩ := fun ob r => cell_keep (Below.heap_alloc _ _ _ hB.lt)
                clear hc p0 p1 p2 p3 hiw hgw
                generalize k.lns[j]?.getD ln0 = l at *
                go_wp2_with fail
                refine (dropRight_any l _ _ _ (hl'.below (hb' _) hl'.lt) hwh.out hgn).mono ?_
                rintro e w2 ⟨⟨b', rfl, hb2⟩, hbb⟩
                have B2 := (hB.alloc (.cells #[.int .i64 l.gone, .slice sa1 sn1 sc1, .slice sa2 sn2 sc2, .int .i64 l.drop] 38)).below hbb (by simp; exact Nat.lt_succ_of_lt hB.lt)
                have T2 := (hbw.alloc hbw.size _).trans (hbb.mono (by have := hbw.size; simp; omega))
                clear c0 c1 c2 c3 x0 x1 x2 kb hb'
                cases b' with
                | true =>
                  have HF : Hid _ := HYj.out (hb2.1 rfl)
                  clear hb2
                  go_wp2
                  go_roundw
                  case rel => exact ⟨j + 1, by omega, by go_num, HF.out, B2, T2⟩
                  case measure => simp [intOf]; omega
                | false =>
                  have HF : Hid (¬ AllDrop k) := HNj.out (fun h => by simpa using hb2.2 h)
                  clear hb2
                  go_wp2
                  go_ret
                  exact ⟨RetCode.c4 HFr.out HW.out HG.out HF.out, T2⟩
              · obtain rfl : n = j := by omega
                have HD : Hid (AllDrop k) := HA4.out HA.out
                clear HA HA4 HN4
                go_wp2_with fail
                refine (HO.out _ (HLs.out.below hbw HLs.out.lt) HW.out).mono ?_
                rintro e w3 ⟨hb3, ⟨D, m, bm, rfl, ho, hod, hom⟩ | ⟨rfl, hno⟩⟩
                · have T3 := hbw.trans (hb3.mono hbw.size)
                  have HOn : Hid (Once k.lns) := ho
                  clear ho hod hom
                  go_wp2
                  go_ret
                  exact ⟨RetCode.c0 HFr.out HW.out HG.out HD.out HOn.out, T3⟩
                · have T3 := hbw.trans (hb3.mono hbw.size)
                  have HOn : Hid (¬ Once k.lns) := hno
                  clear hno
                  go_wp2
                  go_ret
                  exact ⟨RetCode.c5 HFr.out HW.out HG.out HD.out HOn.out, T3⟩

  · have hFR := fun W h => frameRight_no k (.agg #[.bool k.ok, .int .i64 k.sec, .slice a k.lns.length ca]) bs W h hF
    have HFr : Hid (¬ FrameOk k) := hF
    clear hF
    go_enter Tryd.func13, Tryd.ntmps13
    go_wp2_with fail
    refine (hFR _ (hK.below (a1 _) hK.lt)).mono ?_
    rintro e w1 ⟨rfl, hb1⟩
    have T1 := (a1 _).trans (hb1.mono (by simp))
    clear hFR
    go_wp2
    go_ret
    exact ⟨RetCode.c1 HFr.out, T1⟩

end Go.Proofs.YtnaaheddhgpnoaaDoor
