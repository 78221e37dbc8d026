import Derived.Test.YtnaaheddhgpnoaaDoorTo
import Derived.Test.YtnaaheddhgpnoaaDoorCpD
namespace Go.Proofs.YtnaaheddhgpnoaaDoor
open Go.ChangeShapes Go.WideShapes Go.ChangeAt Go.RowKit

theorem ints_src {w : World} {v : Value} {xs : List Int} {bs : List Nat} (h : IntsAt w v xs bs) : ∃ ao c, v = .slice ao xs.length c ∧ (ao = none → xs.length = 0) ∧ ∀ ad, ao = some ad → ∀ j u, (xs.map fun x => Value.int .i64 x)[j]? = some u → w.cell? (ad.add j) = some u := by
  obtain ⟨a, c, rfl, _, _, h⟩ := h
  rcases h with ⟨h0, _⟩ | ⟨b, o, rfl, _, _, hc⟩
  · exact ⟨a, c, rfl, fun _ => h0, fun ad _ j u hu => by
      have : xs = [] := List.eq_nil_of_length_eq_zero h0
      subst this
      simp at hu⟩
  · refine ⟨_, c, rfl, fun e => by simp at e, fun ad had j u hu => ?_⟩
    obtain rfl := Option.some.inj had
    have hj : j < xs.length := by
      have := (List.getElem?_eq_some_iff.1 hu).1
      simpa using this
    rw [ints_cells xs hj] at hu
    rw [Addr.add_lit, hc j hj]; exact hu
theorem grs_src {w : World} {v : Value} {gs : List Gr} {bs : List Nat} (h : GrsAt w v gs bs) : ∃ ao c, v = .slice ao gs.length c ∧ (ao = none → gs.length = 0) ∧ ∀ ad, ao = some ad → ∀ j u, (grCells gs)[j]? = some u → w.cell? (ad.add j) = some u := by
  obtain ⟨a, c, rfl, _, _, h⟩ := h
  rcases h with ⟨h0, _⟩ | ⟨b, o, rfl, _, _, hc⟩
  · exact ⟨a, c, rfl, fun _ => h0, fun ad _ j u hu => by
      have : gs = [] := List.eq_nil_of_length_eq_zero h0
      subst this
      simp [grCells] at hu⟩
  · refine ⟨_, c, rfl, fun e => by simp at e, fun ad had j u hu => ?_⟩
    obtain rfl := Option.some.inj had
    have hj : j < gs.length * 2 := by
      have := (List.getElem?_eq_some_iff.1 hu).1
      rwa [grCells_len] at this
    rw [Addr.add_lit]
    have hm : j / 2 < gs.length := by omega
    have hg := grCells_at gs (j / 2) hm
    have hcc := hc (j / 2) hm
    rcases Nat.mod_two_eq_zero_or_one j with e | e
    · have ej : j = j / 2 * 2 := by omega
      rw [ej] at hu ⊢
      rw [hg.1] at hu
      rw [hcc.1]; exact hu
    · have ej : j = j / 2 * 2 + 1 := by omega
      rw [ej] at hu ⊢
      rw [hg.2] at hu
      rw [← Nat.add_assoc, hcc.2]; exact hu
theorem ints_one (xs : List Int) : ∀ u ∈ xs.map (fun x => Value.int .i64 x), u.oneCell' = true := by
  intro u hu
  obtain ⟨_, _, rfl⟩ := List.mem_map.1 hu
  rfl
theorem grs_one (gs : List Gr) : ∀ u ∈ grCells gs, u.oneCell' = true := by
  intro u hu
  obtain ⟨g, _, hu⟩ := List.mem_flatMap.1 hu
  simp only [List.mem_cons, List.not_mem_nil, or_false] at hu
  rcases hu with rfl | rfl <;> rfl

set_option maxHeartbeats 1000000 in
set_option maxRecDepth 100000 in
theorem l2copy_any (k : Bk) (v : Value) (bs : List Nat) (w : World) (h : BkAt w v k bs) (hn : k.lns.length ≤ 1048576) (hw : ∀ j, j < k.lns.length → (k.lns[j]?.getD ln0).way.length ≤ 1048576 ∧ (k.lns[j]?.getD ln0).grs.length ≤ 1048576) :
    Calls Tryd.prog 36 #[v] w fun e w' => ∃ vl VW VG DW DG, e = .returned (.agg #[.bool k.ok, .int .i64 k.sec, vl]) ∧ CpInv w' w.heap.size 38 3 40 vl k.lns.length (lnOf k.lns) VW VG DW DG ∧ Below w.heap.size w w' := by
  obtain ⟨vl, rfl, hLs⟩ := h
  obtain ⟨a, ca, rfl, hca, hcm, h⟩ := hLs
  unfold maxLen at hcm
  obtain ⟨iL, hiL, hzL0, hzL1, hzL2⟩ := info_parts Tryd.infoLn
  obtain ⟨iW, hiW, hzW0, hzW1, hzW2⟩ := info_parts Tryd.infoInt
  obtain ⟨iG, hiG, hzG0, hzG1, hzG2⟩ := info_parts Tryd.infoGrant
  have HW : Hid (∀ j, j < k.lns.length → (k.lns[j]?.getD ln0).way.length ≤ 1048576 ∧ (k.lns[j]?.getD ln0).grs.length ≤ 1048576) := hw
  clear hw
  have HLj : Hid (∀ j : Nat, k.lns[j]?.getD ln0 = lnOf k.lns j) := fun _ => rfl
  generalize k.lns.length = n at *
  go_enter Tryd.func36, Tryd.ntmps36
  go_wp2
  go_loopw [15] (fun i wr => ∃ (j : Nat) (vl : Value) (VW VG : Nat → Value) (DW DG : Nat → List Nat), j ≤ n ∧ i = .int .i64 j ∧ CpInv wr (w.heap.size + 3) 38 3 40 vl j (lnOf k.lns) VW VG DW DG ∧ w.heap.size + 3 ≤ wr.heap.size ∧
    BlkIs wr (w.heap.size + 1) [.bool false, .int .i64 0, .slice none 0 0] 32 ∧ BlkIs wr (w.heap.size + 2) [.bool k.ok, .int .i64 k.sec, vl] 32 ∧ Below w.heap.size w wr) (fun i _ => n - (intOf i).toNat)
  case atStart =>
    refine ⟨0, _, _, _, _, _, Nat.zero_le _, rfl, CpInv.start _ _ _ _ _ _, by simp, ?_, ?_, below3 w _ _ _⟩
    · exact (BlkIs.new2 w _ [.bool false, .int .i64 0, .slice none 0 0] _).alloc _
    · exact BlkIs.new3 w _ _ [.bool k.ok, .int .i64 k.sec, .slice none 0 0] _
  case round =>
    obtain ⟨j, vl, VW, VG, DW, DG, hj, rfl, hI, hsz, hb1, hb2, hbw⟩ := hrel
    by_cases hlt : j < n
    · rcases h with ⟨h00, _⟩ | ⟨b, o, E, rfl, _, hs, hc⟩
      · omega
      obtain ⟨vw, vg, p0, p1, p2, p3, hl⟩ := (hc j hlt).at
      obtain ⟨_, _, d1, d2, hv, _, hiw, hgw⟩ := hl
      simp only [Value.agg.injEq, Array.mk.injEq, List.cons.injEq, and_true, true_and] at hv
      obtain ⟨rfl, rfl⟩ := hv
      have c0 := ((bcell hbw).1 _ _ hs).trans p0
      have c1 := ((bcell hbw).1 _ _ hs).trans p1
      have c2 := ((bcell hbw).1 _ _ hs).trans p2
      have c3 := ((bcell hbw).1 _ _ hs).trans p3
      have hi' := hiw.below hbw hiw.lt
      have hg' := hgw.below hbw hgw.lt
      obtain ⟨hw1, hw2⟩ := HW.out j hlt
      rw [HLj.out] at c0 c3 hi' hg' hw1 hw2
      clear hc p0 p1 p2 p3 hiw hgw
      obtain ⟨aw, cw, rfl, hnw, hsw⟩ := ints_src hi'
      obtain ⟨ag, cg, rfl, hng, hsg⟩ := grs_src hg'
      generalize hll : lnOf k.lns j = l at *
      have HL : Hid (lnOf k.lns j = l) := hll
      clear hll
      have hOL : Hid (∀ b, wr.heap.size ≤ b → vl.ownBlock ≠ some b) := fun b hb e => by have := hI.own.lt b e; omega
      have hn0 : ¬ w.heap.size + 1 + 1 = wr.heap.size := by omega
      have hn1 : ¬ w.heap.size + 1 + 1 = wr.heap.size + 1 := by omega
      go_wp2_with (first
        | (at_builtin; refine wpList_append_copy _ rfl _ _ 35 rfl wr.heap.size 3 iW _ 1 8 Tryd.underlying35 hiW hzW0 hzW1 hzW2 rfl (by decide) _ rfl (BlkIs.new3 wr _ _ [] _) (by omega) aw l.way.length cw (l.way.map fun x => Value.int .i64 x) rfl hnw (by simp) (fun ad e q u hu => src_keep (hsw ad e q u hu) (below3 wr _ _ _)) (ints_one _) (by unfold maxLen; omega) (by omega) (by simp; omega) ?_
           intro v1 w1 hown1 hgrow1 hne1
           obtain ⟨oi1, oi2, oi3, oi4⟩ := own_ints hown1 hne1
           obtain ⟨g1, cap1, hv1, _⟩ := own_facts hown1 hne1
           subst hv1
           have xB1 := (((BlkIs.new wr [.int .i64 l.gone, .slice aw l.way.length cw, .slice ag l.grs.length cg, .int .i64 l.drop] 38).alloc (.cells #[.int .i64 l.gone, .slice aw l.way.length cw, .slice ag l.grs.length cg, .int .i64 l.drop] 38)).alloc (.cells #[] 3)).grew hgrow1 (by simp <;> omega)
           have yB1 := ((BlkIs.new2 wr (.cells #[.int .i64 l.gone, .slice aw l.way.length cw, .slice ag l.grs.length cg, .int .i64 l.drop] 38) [.int .i64 l.gone, .slice aw l.way.length cw, .slice ag l.grs.length cg, .int .i64 l.drop] 38).alloc (.cells #[] 3)).grew hgrow1 (by simp <;> omega)
           have oB1 := (((hb2.alloc (.cells #[.int .i64 l.gone, .slice aw l.way.length cw, .slice ag l.grs.length cg, .int .i64 l.drop] 38)).alloc (.cells #[.int .i64 l.gone, .slice aw l.way.length cw, .slice ag l.grs.length cg, .int .i64 l.drop] 38)).alloc (.cells #[] 3)).grew hgrow1 (by simp <;> omega)
           obtain ⟨xc0, xc1, xc2, xc3⟩ := xB1.four
           obtain ⟨yc0, yc1, yc2, yc3⟩ := yB1.four
           have yf1 := yB1.frozen 1
           have T1 : Below wr.heap.size wr w1 := (below3 wr _ _ _).trans (grew_below hgrow1 (by omega) (by simp; omega))
           have z1 : wr.heap.size + 3 ≤ w1.heap.size := by have := hgrow1.size; simp at this; omega
           have lt0 : wr.heap.size < w1.heap.size := by omega
           have lt1 : wr.heap.size + 1 < w1.heap.size := by omega
           have lt2 : w.heap.size + 1 + 1 < w1.heap.size := by omega
           have ow1 := (((hI.own.alloc (.cells #[.int .i64 l.gone, .slice aw l.way.length cw, .slice ag l.grs.length cg, .int .i64 l.drop] 38)).alloc (.cells #[.int .i64 l.gone, .slice aw l.way.length cw, .slice ag l.grs.length cg, .int .i64 l.drop] 38)).alloc (.cells #[] 3)).kept hgrow1 (Or.inr (hOL.out _ (by omega))))
        | (at_builtin; refine wpList_append_copy _ rfl _ _ 36 rfl wr.heap.size 40 iG _ 2 16 Tryd.underlying36 hiG hzG0 hzG1 hzG2 rfl (by decide) _ rfl (BlkIs.newS w1 _ _ [] _) (by omega) ag l.grs.length cg (grCells l.grs) rfl hng (grCells_len _) (fun ad e q u hu => src_keep (hsg ad e q u hu) ((T1.setCell (by simp) _).alloc (by simp; omega) _)) (grs_one _) (by unfold maxLen; omega) (by omega) (by simp; omega) ?_
           intro v2 w2 hown2 hgrow2 hne2
           obtain ⟨og1, og2, og3, og4⟩ := own_grs hown2 hne2
           obtain ⟨g2, cap2, hv2, _⟩ := own_facts hown2 hne2
           subst hv2
           have yB2 := ((yB1.set 1 (.slice (some ⟨g1, 0, none⟩) l.way.length cap1)).alloc (.cells #[] 40)).grew hgrow2 (by simp; omega)
           have oB2 := ((oB1.other (x := wr.heap.size + 1) (by omega) 1 (.slice (some ⟨g1, 0, none⟩) l.way.length cap1)).alloc (.cells #[] 40)).grew hgrow2 (by simp; omega)
           simp only [List.set_cons_succ, List.set_cons_zero] at yB2
           clear xc0 xc1 xc2 xc3 yc0 yc1 yc2 yc3
           obtain ⟨yd0, yd1, yd2, yd3⟩ := yB2.four
           have yf2 := yB2.frozen 2
           have oc2 := oB2.cell 2
           simp only [List.getElem?_cons_zero, List.getElem?_cons_succ] at oc2
           have z2 : w1.heap.size + 1 ≤ w2.heap.size := by have := hgrow2.size; simpa using this
           have lt3 : wr.heap.size + 1 < w2.heap.size := by omega
           have lt4 : w.heap.size + 1 + 1 < w2.heap.size := by omega
           have ow2 := ((own_set (o := 1) ow1 (hOL.out (wr.heap.size + 1) (by omega)) (.slice (some ⟨g1, 0, none⟩) l.way.length cap1)).alloc (.cells #[] 40)).kept hgrow2 (Or.inr (hOL.out _ (by omega))))
        | (at_builtin; refine wpList_append_own _ rfl _ _ 30 rfl (w.heap.size + 3) 38 iL _ 4 64 Tryd.underlying30 hiL hzL0 hzL1 hzL2 rfl (by decide) _ j _ rfl ((own_set (o := 2) ow2 (hOL.out (wr.heap.size + 1) (by omega)) (.slice (some ⟨g2, 0, none⟩) l.grs.length cap2)).alloc _) ⟨w2.heap.size, 0, none⟩ 1 1 [.int .i64 l.gone, .slice (some ⟨g1, 0, none⟩) l.way.length cap1, .slice (some ⟨g2, 0, none⟩) l.grs.length cap2, .int .i64 l.drop] rfl rfl (lnVals_cells w2 _ _ l _ _ _) (lnVals_one l _ _ _ _ _ _) (by unfold maxLen; omega) (by omega) (by simp; omega) ?_
           intro v3 w3 hown3 hgrow3 hnil3
           obtain ⟨a3, c3', hv3⟩ := own_slice hown3
           subst hv3
           have oB3 := ((oB2.other (x := wr.heap.size + 1) (by omega) 2 (.slice (some ⟨g2, 0, none⟩) l.grs.length cap2)).alloc (.cells #[.int .i64 l.gone, .slice (some ⟨g1, 0, none⟩) l.way.length cap1, .slice (some ⟨g2, 0, none⟩) l.grs.length cap2, .int .i64 l.drop] 38)).grew hgrow3 (fun e => by have := hI.own.lt _ e.symm; omega)
           clear yd0 yd1 yd2 yd3 oc2
           have oe2 := oB3.cell 2
           simp only [List.getElem?_cons_zero, List.getElem?_cons_succ] at oe2
           have of2 := oB3.frozen 2))
      have kL : ∀ b, vl.ownBlock = some b → KindAt w1 b 38 := own_kind ow1
      have kL2 : ∀ b, vl.ownBlock = some b → KindAt w2 b 38 := own_kind ow2
      have kY1 : KindAt w1 (wr.heap.size + 1) 38 := ⟨_, yB1⟩
      have kY2 : KindAt w2 (wr.heap.size + 1) 38 := ⟨_, yB2⟩
      have tG : ∀ b, b < w2.heap.size → w.heap.size + 3 ≤ b → b ≠ wr.heap.size + 1 → some b ≠ vl.ownBlock → (w3.setCell ⟨w.heap.size + 1 + 1, 2, none⟩ (.slice a3 (j + 1) c3')).heap[b]? = w2.heap[b]? := fun b hb hB hy ho => by
        rw [Below.heap_setCell _ _ _ _ (show b ≠ w.heap.size + 1 + 1 by omega), hgrow3.block b (by simp; omega) ho, Below.heap_alloc _ _ _ (by simp; omega), Below.heap_setCell _ _ _ _ hy]
      have tI : ∀ b, b < w1.heap.size → w.heap.size + 3 ≤ b → b ≠ wr.heap.size + 1 → some b ≠ vl.ownBlock → (w3.setCell ⟨w.heap.size + 1 + 1, 2, none⟩ (.slice a3 (j + 1) c3')).heap[b]? = w1.heap[b]? := fun b hb hB hy ho => by
        rw [tG b (by omega) hB hy ho, hgrow2.block b (by simp; omega) (by simp; omega), Below.heap_alloc _ _ _ (by simp; omega), Below.heap_setCell _ _ _ _ hy]
      have tR : ∀ b, b < wr.heap.size → w.heap.size + 3 ≤ b → some b ≠ vl.ownBlock → (w3.setCell ⟨w.heap.size + 1 + 1, 2, none⟩ (.slice a3 (j + 1) c3')).heap[b]? = wr.heap[b]? := fun b hb hB ho => by
        rw [tI b (by omega) hB (by omega) ho]; exact T1.block b hb
      have kI : ∀ b, KindAt w1 b 3 → wr.heap.size ≤ b → (w3.setCell ⟨w.heap.size + 1 + 1, 2, none⟩ (.slice a3 (j + 1) c3')).heap[b]? = w1.heap[b]? := fun b hb hB => tI b hb.lt (by omega) (hb.ne kY1 (by decide)) (fun e => (kL b e.symm).ne hb (by decide) rfl)
      have kG : ∀ b, KindAt w2 b 40 → wr.heap.size ≤ b → (w3.setCell ⟨w.heap.size + 1 + 1, 2, none⟩ (.slice a3 (j + 1) c3')).heap[b]? = w2.heap[b]? := fun b hb hB => tG b hb.lt (by omega) (hb.ne kY2 (by decide)) (fun e => (kL2 b e.symm).ne hb (by decide) rfl)
      have fin := CpInv.step (w' := w3.setCell ⟨w.heap.size + 1 + 1, 2, none⟩ (.slice a3 (j + 1) c3')) (v' := .slice a3 (j + 1) c3') (vw := .slice (some ⟨g1, 0, none⟩) l.way.length cap1) (vg := .slice (some ⟨g2, 0, none⟩) l.grs.length cap2) hI (by decide) (by decide) (by decide) tR
        (by rw [HL.out]; exact own_set hown3 (fun e => by have := hown3.lt _ e; omega) _) (by rw [HL.out]; exact ⟨oi1.keep fun b hb => kI b (oi3 b hb).1 (oi3 b hb).2, (oi2.keep kI).mono (by omega)⟩) (by rw [HL.out]; exact ⟨og1.keep fun b hb => kG b (og3 b hb).1 (og3 b hb).2, (og2.keep kG).mono (by omega)⟩)
        (fun b hb => ⟨(oi3 b hb).1.keep (kI b (oi3 b hb).1 (oi3 b hb).2), by have := (oi3 b hb).2; omega⟩) (fun b hb => ⟨(og3 b hb).1.keep (kG b (og3 b hb).1 (og3 b hb).2), by have := (og3 b hb).2; omega⟩) oi4 og4 (fun b hb => (oi3 b hb).2) (fun b hb => (og3 b hb).2) (fun x hx => by obtain ⟨y, hy, _, hB⟩ := oi2.own; rw [hy] at hx; cases hx; exact hB) (fun x hx => by obtain ⟨y, hy, _, hB⟩ := og2.own; rw [hy] at hx; cases hx; exact hB)
      have rB3 := (((((((hb1.alloc (.cells #[.int .i64 l.gone, .slice aw l.way.length cw, .slice ag l.grs.length cg, .int .i64 l.drop] 38)).alloc (.cells #[.int .i64 l.gone, .slice aw l.way.length cw, .slice ag l.grs.length cg, .int .i64 l.drop] 38)).alloc (.cells #[] 3)).grew hgrow1 (by simp <;> omega)).other (x := wr.heap.size + 1) (by omega) 1 (.slice (some ⟨g1, 0, none⟩) l.way.length cap1)).alloc (.cells #[] 40)).grew hgrow2 (by simp; omega))
      have rB4 := (((rB3.other (x := wr.heap.size + 1) (by omega) 2 (.slice (some ⟨g2, 0, none⟩) l.grs.length cap2)).alloc (.cells #[.int .i64 l.gone, .slice (some ⟨g1, 0, none⟩) l.way.length cap1, .slice (some ⟨g2, 0, none⟩) l.grs.length cap2, .int .i64 l.drop] 38)).grew hgrow3 (fun e => by have := hI.own.lt _ e.symm; omega)).other (x := w.heap.size + 1 + 1) (by omega) 2 (.slice a3 (j + 1) c3')
      have z3 : w2.heap.size + 1 ≤ w3.heap.size := by have := hgrow3.size; simpa using this
      have B1 : Below w.heap.size w w1 := hbw.trans (T1.mono (by omega))
      have B2 : Below w.heap.size w w2 := ((B1.setCell (p := ⟨wr.heap.size + 1, 1, none⟩) (by simp; omega) (.slice (some ⟨g1, 0, none⟩) l.way.length cap1)).alloc (by simp; omega) (.cells #[] 40)).trans (grew_below hgrow2 (by omega) (by simp; omega))
      have B3 : Below w.heap.size w w3 := ((B2.setCell (p := ⟨wr.heap.size + 1, 2, none⟩) (by simp; omega) (.slice (some ⟨g2, 0, none⟩) l.grs.length cap2)).alloc (by simp; omega) (.cells #[.int .i64 l.gone, .slice (some ⟨g1, 0, none⟩) l.way.length cap1, .slice (some ⟨g2, 0, none⟩) l.grs.length cap2, .int .i64 l.drop] 38)).grown hgrow3 (by simp; omega) (fun x hx => by have := hI.own.lt x hx; omega)
      refine ⟨⟨j + 1, _, _, _, _, _, by omega, by go_num, fin, by rw [World.size_setCell]; omega, rB4, oB3.set 2 _, B3.setCell (by simp; omega) _⟩, by simp [intOf]; omega⟩
    · obtain rfl : n = j := by omega
      obtain ⟨av, cv, hv⟩ := own_slice hI.own
      subst hv
      obtain ⟨r0, r1, r2⟩ := hb1.three
      obtain ⟨o0, o1, o2⟩ := hb2.three
      have f1 : ∀ o, wr.frozen? ⟨w.heap.size + 1, o, none⟩ = false := fun o => hb1.frozen o
      have hfin : ∀ u0 u1 u2, CpInv (((wr.setCell ⟨w.heap.size + 1, 0, none⟩ u0).setCell ⟨w.heap.size + 1, 1, none⟩ u1).setCell ⟨w.heap.size + 1, 2, none⟩ u2) w.heap.size 38 3 40 (.slice av n cv) n (lnOf k.lns) VW VG DW DG := fun u0 u1 u2 =>
        (((hI.set (by decide) (by decide) (by omega) u0).set (by decide) (by decide) (by omega) u1).set (by decide) (by decide) (by omega) u2).mono (by omega)
      have HF : Hid (∀ u0 u1 u2, CpInv (((wr.setCell ⟨w.heap.size + 1, 0, none⟩ u0).setCell ⟨w.heap.size + 1, 1, none⟩ u1).setCell ⟨w.heap.size + 1, 2, none⟩ u2) w.heap.size 38 3 40 (.slice av n cv) n (lnOf k.lns) VW VG DW DG) := hfin
      clear hfin
      go_wp2
      exact bodyPost_ret (v := .agg #[.bool k.ok, .int .i64 k.sec, .slice av n cv]) (by simp [results, Tryd.results36, go_sem, r0, r1, r2]) rfl ⟨_, VW, VG, DW, DG, rfl, HF.out _ _ _, ((hbw.setCell (by simp) _).setCell (by simp) _).setCell (by simp) _⟩

end Go.Proofs.YtnaaheddhgpnoaaDoor
