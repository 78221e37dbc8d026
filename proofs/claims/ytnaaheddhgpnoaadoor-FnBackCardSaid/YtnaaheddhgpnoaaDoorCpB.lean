import Derived.Test.YtnaaheddhgpnoaaDoorCpJ
namespace Go.Proofs.YtnaaheddhgpnoaaDoor
open Go.ChangeShapes Go.WideShapes Go.ChangeAt Go.RowKit

set_option maxHeartbeats 4000000 in
set_option maxRecDepth 100000 in
theorem copied_any (k : Bk) (v : Value) (bs : List Nat) (w : World) (h : BkAt w v k bs) (hn0 : 0 < k.lns.length) (hn : k.lns.length ≤ 20) (hw : ∀ j, j < k.lns.length → (lnOf k.lns j).way.length ≤ 1048576 ∧ (lnOf k.lns j).grs.length ≤ 1048576) :
    Calls Tryd.prog 40 #[v] w fun e w' => ∃ lb cap VW VG, e = .returned (.agg #[.bool k.ok, .int .i64 k.sec, .slice (some ⟨lb, 0, none⟩) k.lns.length cap]) ∧ CpJ w' w.heap.size lb cap k.lns.length (lnOf k.lns) VW VG k.lns.length k.lns.length ∧ Below w.heap.size w w' := by
  obtain ⟨vl, rfl, hLs⟩ := h
  obtain ⟨a, nn, ca, rfl⟩ := hLs.slice
  have bA : Below w.heap.size w ((w.alloc (.cells #[.bool k.ok, .int .i64 k.sec, .slice a nn ca] 32)).alloc (.cells #[.bool false, .int .i64 0, .slice none 0 0] 32)) := ((Below.refl _ _).alloc (Nat.le_refl _) _).alloc (by simp) _
  have eB : BlkIs ((w.alloc (.cells #[.bool k.ok, .int .i64 k.sec, .slice a nn ca] 32)).alloc (.cells #[.bool false, .int .i64 0, .slice none 0 0] 32)) w.heap.size [.bool k.ok, .int .i64 k.sec, .slice a nn ca] 32 := (BlkIs.new _ _ _).alloc _
  have eR : BlkIs ((w.alloc (.cells #[.bool k.ok, .int .i64 k.sec, .slice a nn ca] 32)).alloc (.cells #[.bool false, .int .i64 0, .slice none 0 0] 32)) (w.heap.size + 1) [.bool false, .int .i64 0, .slice none 0 0] 32 := BlkIs.new2 _ _ _ _
  have hLs' := hLs.below bA hLs.lt
  have hAz : ((w.alloc (.cells #[.bool k.ok, .int .i64 k.sec, .slice a nn ca] 32)).alloc (.cells #[.bool false, .int .i64 0, .slice none 0 0] 32)).heap.size = w.heap.size + 2 := by simp
  have HW : Hid (∀ j, j < k.lns.length → (lnOf k.lns j).way.length ≤ 1048576 ∧ (lnOf k.lns j).grs.length ≤ 1048576) := hw
  have hlt0 := hLs.lt
  clear hw hLs
  go_enter Tryd.func40, Tryd.ntmps40
  go_wp2_with fail
  generalize ((w.alloc (.cells #[.bool k.ok, .int .i64 k.sec, .slice a nn ca] 32)).alloc (.cells #[.bool false, .int .i64 0, .slice none 0 0] 32)) = A at *
  refine (cloneLns_any k.lns _ bs _ hLs' hn0 (by omega)).mono ?_
  rintro _ w1 ⟨lb, cap, VW0, VG0, D1, D2, rfl, hown, hb1, hsrc⟩
  have hJ0 := CpJ.start hown
  have eB1 := eB.below hb1 eB.lt
  have eR1 := eR.below hb1 eR.lt
  obtain ⟨x0, x1, x2⟩ := eB1.three
  have fx : w1.frozen? ⟨w.heap.size, 2, none⟩ = false := eB1.frozen 2
  have hlbA : A.heap.size ≤ lb := hJ0.lo
  have hcap := hJ0.cap0
  have hcap1 := hJ0.cap1
  unfold maxLen at hcap1
  have hne : lb ≠ w.heap.size := by omega
  have hne1 : lb ≠ w.heap.size + 1 := by omega
  have HBS : Hid (∀ x ∈ bs, x < w.heap.size) := hlt0
  have HBA : Hid (Below w.heap.size w A) := bA
  have HSrc : Hid (∀ W, Below w.heap.size w W → ∀ j, j < k.lns.length → IntsAt W (VW0 j) (lnOf k.lns j).way (D1 j) ∧ GrsAt W (VG0 j) (lnOf k.lns j).grs (D2 j)) := fun W hW j hj => by
    obtain ⟨s1, s2, s3, s4⟩ := hsrc j hj
    have kp : ∀ x ∈ bs, W.heap[x]? = A.heap[x]? := fun x hx => (hW.block x (HBS.out x hx)).trans (HBA.out.block x (HBS.out x hx)).symm
    exact ⟨s1.keep fun x hx => kp x (s3 x hx), s2.keep fun x hx => kp x (s4 x hx)⟩
  have hJ1 : CpJ (w1.setCell ⟨w.heap.size, 2, none⟩ (.slice (some ⟨lb, 0, none⟩) k.lns.length cap)) A.heap.size lb cap k.lns.length (lnOf k.lns) VW0 VG0 0 0 := ⟨hJ0.lo, hJ0.kind.set _ _ _, hJ0.cap0, hJ0.cap1, fun j hj => by
    obtain ⟨c0, c1, c2, c3⟩ := hJ0.cells j hj
    have kk : (w1.setCell ⟨w.heap.size, 2, none⟩ (.slice (some ⟨lb, 0, none⟩) k.lns.length cap)).heap[lb]? = w1.heap[lb]? := Below.heap_setCell _ _ _ _ hne
    exact ⟨(cell_keep kk).trans c0, (cell_keep kk).trans c1, (cell_keep kk).trans c2, (cell_keep kk).trans c3⟩, fun j hj => by omega, fun j hj => by omega, fun i j hi => by omega, fun i j hi => by omega⟩
  have eB2 := eB1.set 2 (.slice (some ⟨lb, 0, none⟩) k.lns.length cap)
  have eR2 := eR1.other (x := w.heap.size) (by omega) 2 (.slice (some ⟨lb, 0, none⟩) k.lns.length cap)
  simp only [List.set_cons_succ, List.set_cons_zero] at eB2
  have bA2 : Below A.heap.size A w1 := hb1
  have bW2 : Below w.heap.size w (w1.setCell ⟨w.heap.size, 2, none⟩ (.slice (some ⟨lb, 0, none⟩) k.lns.length cap)) := (bA.trans (hb1.mono bA.size)).setCell (by simp) _
  have hz2 : A.heap.size ≤ (w1.setCell ⟨w.heap.size, 2, none⟩ (.slice (some ⟨lb, 0, none⟩) k.lns.length cap)).heap.size := by rw [World.size_setCell]; exact bA2.size
  clear hown hb1 hsrc hJ0 eB eR eB1 eR1 hLs' bA bA2 hlt0
  generalize hL : lnOf k.lns = L at *
  generalize hNN : k.lns.length = n at *
  have HL : Hid (lnOf k.lns = L) := hL
  have HNN : Hid (k.lns.length = n) := hNN
  clear hL hNN
  go_wp2_with fail
  clear x0 x1 x2 fx
  generalize w1.setCell ⟨w.heap.size, 2, none⟩ (.slice (some ⟨lb, 0, none⟩) n cap) = V at *
  go_loopw [12] (fun i wr => ∃ (j : Nat) (VW VG : Nat → Value), j ≤ n ∧ i = .int .i64 j ∧ CpJ wr A.heap.size lb cap n L VW VG j j ∧ (∀ q, j ≤ q → q < n → VW q = VW0 q ∧ VG q = VG0 q) ∧ BlkIs wr w.heap.size [.bool k.ok, .int .i64 k.sec, .slice (some ⟨lb, 0, none⟩) n cap] 32 ∧ BlkIs wr (w.heap.size + 1) [.bool false, .int .i64 0, .slice none 0 0] 32 ∧ Below w.heap.size w wr) (fun i _ => n - (intOf i).toNat)
  case atStart => exact ⟨0, VW0, VG0, Nat.zero_le _, rfl, hJ1, fun _ _ _ => ⟨rfl, rfl⟩, eB2, eR2, bW2⟩
  case round =>
    clear hJ1 eB2 eR2 bW2 hz2
    obtain ⟨j, VW, VG, hj, rfl, hJ, hsame, hB, hR, hbw⟩ := hrel
    by_cases hlt : j < n
    · obtain ⟨c0, c1, c2, c3⟩ := hJ.cells j hlt
      obtain ⟨e1, e2⟩ := hsame j (Nat.le_refl _) hlt
      rw [e1] at c1
      rw [e2] at c2
      obtain ⟨hi, hg⟩ := HSrc.out wr hbw j hlt
      obtain ⟨aw, nw, cw, hvw⟩ := hi.slice
      obtain ⟨ag, ng, cg, hvg⟩ := hg.slice
      rw [hvw] at c1
      rw [hvg] at c2
      have HVW : Hid (VW0 j = .slice aw nw cw) := hvw
      have HVG : Hid (VG0 j = .slice ag ng cg) := hvg
      have hlb : lb < wr.heap.size := hJ.kind.lt
      obtain ⟨x0, x1, x2⟩ := hB.three
      have bM : Below wr.heap.size wr (wr.alloc (.cells #[.int .i64 (L j).gone, .slice aw nw cw, .slice ag ng cg, .int .i64 (L j).drop] 38)) := (Below.refl _ _).alloc (Nat.le_refl _) _
      have eLM : BlkIs (wr.alloc (.cells #[.int .i64 (L j).gone, .slice aw nw cw, .slice ag ng cg, .int .i64 (L j).drop] 38)) wr.heap.size [.int .i64 (L j).gone, .slice aw nw cw, .slice ag ng cg, .int .i64 (L j).drop] 38 := BlkIs.new _ _ _
      have HBw : Hid (Below w.heap.size w wr) := hbw
      have HRr : Hid (BlkIs wr (w.heap.size + 1) [.bool false, .int .i64 0, .slice none 0 0] 32) := hR
      have HSame : Hid (∀ q, j ≤ q → q < n → VW q = VW0 q ∧ VG q = VG0 q) := hsame
      have hzw := hbw.size
      have hzB := hB.lt
      have hzR := hR.lt
      have HJ : Hid (CpJ wr A.heap.size lb cap n L VW VG j j) := hJ
      have HBb : Hid (BlkIs wr w.heap.size [.bool k.ok, .int .i64 k.sec, .slice (some ⟨lb, 0, none⟩) n cap] 32) := hB
      clear hsame e1 e2 hi hg hvw hvg hJ hB hR hbw
      go_wp2_with fail
      clear x0 x1 x2 c0 c3
      have hMz : (wr.alloc (.cells #[.int .i64 (L j).gone, .slice aw nw cw, .slice ag ng cg, .int .i64 (L j).drop] 38)).heap.size = wr.heap.size + 1 := by simp
      generalize wr.alloc (.cells #[.int .i64 (L j).gone, .slice aw nw cw, .slice ag ng cg, .int .i64 (L j).drop] 38) = M at *
      have JM := HJ.out.below bM
      have lbM : lb < M.heap.size := JM.kind.lt
      have hBM := HBb.out.below bM HBb.out.lt
      have hRM := HRr.out.below bM HRr.out.lt
      have q1M := ((bcell bM).1 _ _ hlb).trans c1
      have q2M := ((bcell bM).1 _ _ hlb).trans c2
      have MWl : Hid ((L j).way.length ≤ 1048576) := (HW.out j hlt).1
      have bwM : Below w.heap.size w M := HBw.out.trans (bM.mono hzw)
      have HiM : Hid (IntsAt M.drew (.slice aw nw cw) (L j).way (D1 j)) := by
        have := (HSrc.out M.drew bwM.drew j hlt).1
        rwa [HVW.out] at this
      clear c1 c2
      have hSM : Hid (∀ W, Below M.heap.size M W → W.cell? ⟨w.heap.size, 2, none⟩ = some (.slice (some ⟨lb, 0, none⟩) n cap) ∧ W.cell? ⟨wr.heap.size, 1, none⟩ = some (.slice aw nw cw)) := fun W hW => ⟨(hBM.below hW hBM.lt).cell 2, (eLM.below hW eLM.lt).cell 1⟩
      have dM : Below M.heap.size M M.drew := (Below.refl _ _).drew
      go_region_held3 (fun W => W.cell? ⟨w.heap.size, 2, none⟩ = some (.slice (some ⟨lb, 0, none⟩) n cap) ∧ W.cell? ⟨wr.heap.size, 1, none⟩ = some (.slice aw nw cw)) (first | exact hSMs _ | exact hSM.out _ tM | exact hSM.out _ dM)
        (first
        | (go_at_call 76; refine (cloneInts_any (L j).way _ (D1 j) _ ?_ ?_).mono ?_; exact HiM.out; exact MWl.out; rintro _ w2 ⟨ownAv, rfl, ownA, w2b⟩; obtain ⟨ownAa, ownAc, rfl⟩ := own_slice ownA; have tM : Below M.heap.size M w2 := dM.trans w2b; have y1 := ((bcell tM).1 _ _ lbM).trans q1M; have z1 : w2.frozen? ⟨lb, j * 4 + 1, none⟩ = false := ((bcell tM).2 _ _ lbM).trans (JM.kind.free _); have hSMs : ∀ u, (w2.setCell ⟨lb, j * 4 + 1, none⟩ u).cell? ⟨w.heap.size, 2, none⟩ = some (.slice (some ⟨lb, 0, none⟩) n cap) ∧ (w2.setCell ⟨lb, j * 4 + 1, none⟩ u).cell? ⟨wr.heap.size, 1, none⟩ = some (.slice aw nw cw) := fun u => ⟨(cell_keep (Below.heap_setCell _ _ _ _ (show w.heap.size ≠ lb by omega))).trans (hSM.out _ tM).1, (cell_keep (Below.heap_setCell _ _ _ _ (show wr.heap.size ≠ lb by omega))).trans (hSM.out _ tM).2⟩))
      go_wp2_with fail
      have JA := JM.below tM
      have hX := JA.stepW (v := (.slice ownAa (L j).way.length ownAc)) (S := M.heap.size) hlt (by have := hAz; omega) (fun q hq x hx => ((JM.ints q hq).lt x hx).2) ownA
      have eLX := (eLM.below tM eLM.lt).other (x := lb) (by omega) (j * 4 + 1) (.slice ownAa (L j).way.length ownAc)
      have hBX := (hBM.below tM hBM.lt).other (x := lb) (by omega) (j * 4 + 1) (.slice ownAa (L j).way.length ownAc)
      have hRX := (hRM.below tM hRM.lt).other (x := lb) (by omega) (j * 4 + 1) (.slice ownAa (L j).way.length ownAc)
      have bwX : Below w.heap.size w (w2.setCell ⟨lb, j * 4 + 1, none⟩ (.slice ownAa (L j).way.length ownAc)) := (bwM.trans (tM.mono bwM.size)).setCell (by simp; omega) _
      have q2X : (w2.setCell ⟨lb, j * 4 + 1, none⟩ (.slice ownAa (L j).way.length ownAc)).cell? ⟨lb, j * 4 + 2, none⟩ = some (.slice ag ng cg) := (cell_set_ne (by omega)).trans (((bcell tM).1 _ _ lbM).trans q2M)
      have hzX : M.heap.size ≤ (w2.setCell ⟨lb, j * 4 + 1, none⟩ (.slice ownAa (L j).way.length ownAc)).heap.size := by rw [World.size_setCell]; exact tM.size
      clear hSMs y1 z1 JA JM hBM hRM eLM q1M q2M dM tM w2b ownA hSM HiM
      generalize w2.setCell ⟨lb, j * 4 + 1, none⟩ (.slice ownAa (L j).way.length ownAc) = X at *
      have JX := hX
      have lbX : lb < X.heap.size := JX.kind.lt
      have XWl : Hid ((L j).grs.length ≤ 1048576) := (HW.out j hlt).2
      have HgX : Hid (GrsAt X.drew (.slice ag ng cg) (L j).grs (D2 j)) := by
        have := (HSrc.out X.drew bwX.drew j hlt).2
        rwa [HVG.out] at this
      have hSX : Hid (∀ W, Below X.heap.size X W → W.cell? ⟨w.heap.size, 2, none⟩ = some (.slice (some ⟨lb, 0, none⟩) n cap) ∧ W.cell? ⟨wr.heap.size, 2, none⟩ = some (.slice ag ng cg)) := fun W hW => ⟨(hBX.below hW hBX.lt).cell 2, (eLX.below hW eLX.lt).cell 2⟩
      have dX : Below X.heap.size X X.drew := (Below.refl _ _).drew
      go_region_held3 (fun W => W.cell? ⟨w.heap.size, 2, none⟩ = some (.slice (some ⟨lb, 0, none⟩) n cap) ∧ W.cell? ⟨wr.heap.size, 2, none⟩ = some (.slice ag ng cg)) (first | exact hSXs _ | exact hSX.out _ tX | exact hSX.out _ dX)
        (first
        | (go_at_call 77; refine (cloneGrs_any (L j).grs _ (D2 j) _ ?_ ?_).mono ?_; exact HgX.out; exact XWl.out; rintro _ w3 ⟨ownBv, rfl, ownB, w3b⟩; obtain ⟨ownBa, ownBc, rfl⟩ := own_slice ownB; have tX : Below X.heap.size X w3 := dX.trans w3b; have y2 := ((bcell tX).1 _ _ lbX).trans q2X; have z2 : w3.frozen? ⟨lb, j * 4 + 2, none⟩ = false := ((bcell tX).2 _ _ lbX).trans (JX.kind.free _); have hSXs : ∀ u, (w3.setCell ⟨lb, j * 4 + 2, none⟩ u).cell? ⟨w.heap.size, 2, none⟩ = some (.slice (some ⟨lb, 0, none⟩) n cap) ∧ (w3.setCell ⟨lb, j * 4 + 2, none⟩ u).cell? ⟨wr.heap.size, 2, none⟩ = some (.slice ag ng cg) := fun u => ⟨(cell_keep (Below.heap_setCell _ _ _ _ (show w.heap.size ≠ lb by omega))).trans (hSX.out _ tX).1, (cell_keep (Below.heap_setCell _ _ _ _ (show wr.heap.size ≠ lb by omega))).trans (hSX.out _ tX).2⟩))
      have JB := JX.below tX
      have JY := JB.stepG (v := (.slice ownBa (L j).grs.length ownBc)) (S := X.heap.size) hlt (by have := hAz; omega) (fun q hq x hx => ((JX.grs q hq).lt x hx).2) ownB
      have hBY := (hBX.below tX hBX.lt).other (x := lb) (by omega) (j * 4 + 2) (.slice ownBa (L j).grs.length ownBc)
      have hRY := (hRX.below tX hRX.lt).other (x := lb) (by omega) (j * 4 + 2) (.slice ownBa (L j).grs.length ownBc)
      have bwY : Below w.heap.size w (w3.setCell ⟨lb, j * 4 + 2, none⟩ (.slice ownBa (L j).grs.length ownBc)) := (bwX.trans (tX.mono bwX.size)).setCell (by simp; omega) _
      have HY : Hid (CpJ (w3.setCell ⟨lb, j * 4 + 2, none⟩ (.slice ownBa (L j).grs.length ownBc)) A.heap.size lb cap n L (upd VW j (.slice ownAa (L j).way.length ownAc)) (upd VG j (.slice ownBa (L j).grs.length ownBc)) (j + 1) (j + 1) ∧ BlkIs (w3.setCell ⟨lb, j * 4 + 2, none⟩ (.slice ownBa (L j).grs.length ownBc)) w.heap.size [.bool k.ok, .int .i64 k.sec, .slice (some ⟨lb, 0, none⟩) n cap] 32 ∧ BlkIs (w3.setCell ⟨lb, j * 4 + 2, none⟩ (.slice ownBa (L j).grs.length ownBc)) (w.heap.size + 1) [.bool false, .int .i64 0, .slice none 0 0] 32 ∧ Below w.heap.size w (w3.setCell ⟨lb, j * 4 + 2, none⟩ (.slice ownBa (L j).grs.length ownBc))) := ⟨JY, hBY, hRY, bwY⟩
      clear hSXs y2 z2 JB JX JY hX hBX hRX eLX q2X dX tX w3b ownB hBY hRY bwY HgX hSX
      go_wp2
      go_roundw
      case rel => exact ⟨j + 1, upd VW j (.slice ownAa (L j).way.length ownAc), upd VG j (.slice ownBa (L j).grs.length ownBc), by omega, by go_num, HY.out.1, fun q hq hqn => by rw [upd_other _ _ _ _ (by omega), upd_other _ _ _ _ (by omega)]; exact HSame.out q (by omega) hqn, HY.out.2.1, HY.out.2.2.1, HY.out.2.2.2⟩
      case measure => simp [intOf]; omega
    · obtain rfl : n = j := by omega
      obtain ⟨x0, x1, x2⟩ := hB.three
      obtain ⟨r0, r1, r2⟩ := hR.three
      have fr : ∀ o, wr.frozen? ⟨w.heap.size + 1, o, none⟩ = false := fun o => hR.frozen o
      have HJ : Hid (CpJ wr A.heap.size lb cap n L VW VG n n) := hJ
      have hlbw : w.heap.size + 1 ≠ lb := by omega
      clear hJ hsame
      have HBw : Hid (Below w.heap.size w wr) := hbw
      clear hbw
      go_wp2
      exact bodyPost_ret (v := .agg #[.bool k.ok, .int .i64 k.sec, .slice (some ⟨lb, 0, none⟩) n cap]) (by simp [results, Tryd.results40, go_sem, r0, r1, r2]) rfl ⟨lb, cap, VW, VG, by rw [HNN.out], by rw [HNN.out, HL.out]; exact (((HJ.out.other (by omega) _ _).other (by omega) _ _).other (by omega) _ _).mono (by omega), ((HBw.out.setCell (by simp) _).setCell (by simp) _).setCell (by simp) _⟩

end Go.Proofs.YtnaaheddhgpnoaaDoor
