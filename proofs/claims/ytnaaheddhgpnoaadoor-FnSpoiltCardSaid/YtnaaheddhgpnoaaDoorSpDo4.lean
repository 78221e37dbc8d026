import Derived.Test.YtnaaheddhgpnoaaDoorSpDoW
namespace Go.Proofs.YtnaaheddhgpnoaaDoor
open Go.ChangeShapes Go.WideShapes Go.ChangeAt Go.RowKit

set_option maxHeartbeats 4000000 in
set_option maxRecDepth 100000 in
theorem specDo_4 (k : Bk) (e : Ev) (v : Value) (bs : List Nat) (w : World) (h : BkAt w v k bs) (hyes : EvOk k e) (hop : e.op = 4) :
    Calls Tryd.prog 26 #[v, .agg #[.int .i64 e.op, .int .i64 e.train, .int .i64 e.n]] w fun r w' => RetDo w k e r w' := by
  have Hop : Hid (e.op = 4) := hop
  clear hop
  have hK := h
  obtain ⟨vl, rfl, hLs⟩ := h
  obtain ⟨a, n0, ca, rfl⟩ := hLs.slice
  clear hLs
  have HY : Hid (EvOk k e) := hyes
  have b3 := below3 w
  have HE : Hid (∀ W, BkAt W (.agg #[.bool k.ok, .int .i64 k.sec, .slice a n0 ca]) k bs → Calls Tryd.prog 59 #[.agg #[.bool k.ok, .int .i64 k.sec, .slice a n0 ca], .agg #[.int .i64 e.op, .int .i64 e.train, .int .i64 e.n]] W fun r w' => RetB r (EvOk k e) ∧ Below W.heap.size W w') := fun W h => specEventOk_any k e (.agg #[.bool k.ok, .int .i64 k.sec, .slice a n0 ca]) bs W h
  have HC : Hid _ := fun W h => l2copy_any k (.agg #[.bool k.ok, .int .i64 k.sec, .slice a n0 ca]) bs W h (by have := hyes.right.frame.few; omega) (fun j hj => ⟨by have := (hyes.right.way j hj).head.len; omega, by have := (hyes.right.grs j hj).few; omega⟩)
  have t0 := hyes.t0
  have t1 := hyes.t1
  have o0 := hyes.o0
  have o1 := hyes.o1
  have n0' := hyes.n0
  have hn1 : e.n ≤ 1000000 := by
    by_cases h : e.op = 1
    · have := hyes.add h; have := hyes.right.frame.hi; omega
    · exact hyes.rest h
  clear hyes
  have bB : BlkIs (((w.alloc (.cells #[.bool k.ok, .int .i64 k.sec, .slice a n0 ca] 32)).alloc (.cells #[.int .i64 e.op, .int .i64 e.train, .int .i64 e.n] 46)).alloc (.cells #[.int .i64 0, .bool false, .int .i64 0, .slice none 0 0] 34)) w.heap.size [.bool k.ok, .int .i64 k.sec, .slice a n0 ca] 32 := ((BlkIs.new _ _ _).alloc _).alloc _
  have eB : BlkIs (((w.alloc (.cells #[.bool k.ok, .int .i64 k.sec, .slice a n0 ca] 32)).alloc (.cells #[.int .i64 e.op, .int .i64 e.train, .int .i64 e.n] 46)).alloc (.cells #[.int .i64 0, .bool false, .int .i64 0, .slice none 0 0] 34)) (w.heap.size + 1) [.int .i64 e.op, .int .i64 e.train, .int .i64 e.n] 46 := (BlkIs.new2 w _ _ _).alloc _
  have rB : BlkIs (((w.alloc (.cells #[.bool k.ok, .int .i64 k.sec, .slice a n0 ca] 32)).alloc (.cells #[.int .i64 e.op, .int .i64 e.train, .int .i64 e.n] 46)).alloc (.cells #[.int .i64 0, .bool false, .int .i64 0, .slice none 0 0] 34)) (w.heap.size + 1 + 1) [.int .i64 0, .bool false, .int .i64 0, .slice none 0 0] 34 := BlkIs.new3 w _ _ _ _
  have zW : (((w.alloc (.cells #[.bool k.ok, .int .i64 k.sec, .slice a n0 ca] 32)).alloc (.cells #[.int .i64 e.op, .int .i64 e.train, .int .i64 e.n] 46)).alloc (.cells #[.int .i64 0, .bool false, .int .i64 0, .slice none 0 0] 34)).heap.size = w.heap.size + 3 := by simp
  have T0 := b3 (.cells #[.bool k.ok, .int .i64 k.sec, .slice a n0 ca] 32) (.cells #[.int .i64 e.op, .int .i64 e.train, .int .i64 e.n] 46) (.cells #[.int .i64 0, .bool false, .int .i64 0, .slice none 0 0] 34)
  clear b3
  go_enter Tryd.func26, Tryd.ntmps26
  go_wp2_with fail
  generalize ((w.alloc (.cells #[.bool k.ok, .int .i64 k.sec, .slice a n0 ca] 32)).alloc (.cells #[.int .i64 e.op, .int .i64 e.train, .int .i64 e.n] 46)).alloc (.cells #[.int .i64 0, .bool false, .int .i64 0, .slice none 0 0] 34) = V at *
  refine (HE.out _ (hK.below T0 hK.lt)).mono ?_
  rintro r w1 ⟨⟨b, rfl, hb⟩, hb1⟩
  obtain rfl : b = true := hb.2 HY.out
  have T1 := T0.trans (hb1.mono T0.size)
  have b1 := bB.below hb1 bB.lt
  have e1 := eB.below hb1 eB.lt
  have r1 := rB.below hb1 rB.lt
  have z1 : w.heap.size + 3 ≤ w1.heap.size := by have := hb1.size; omega
  clear hb hb1 bB eB rB T0 zW HE
  obtain ⟨x0, x1, x2⟩ := b1.three
  go_wp2_with fail
  refine (HC.out _ (hK.below T1 hK.lt)).mono ?_
  rintro r w2 ⟨vl, VW, VG, DW, DG, rfl, hCp, hb2⟩
  have hnpos : 0 < k.lns.length := by omega
  obtain ⟨lb, cap, rfl, hlb, hkd, hnc, hcm, hcells⟩ := hCp.lines hnpos
  clear x0 x1 x2 HC
  obtain ⟨t, ht⟩ := Int.eq_ofNat_of_zero_le t0
  have htn : t < k.lns.length := by omega
  have T2 := T1.trans (hb2.mono T1.size)
  have b2 := (b1.below hb2 b1.lt).alloc (.cells #[.bool k.ok, .int .i64 k.sec, .slice (some ⟨lb, 0, none⟩) k.lns.length cap] 32)
  have e2 := (e1.below hb2 e1.lt).alloc (.cells #[.bool k.ok, .int .i64 k.sec, .slice (some ⟨lb, 0, none⟩) k.lns.length cap] 32)
  have r2 := (r1.below hb2 r1.lt).alloc (.cells #[.bool k.ok, .int .i64 k.sec, .slice (some ⟨lb, 0, none⟩) k.lns.length cap] 32)
  have z2 : w1.heap.size ≤ w2.heap.size := hb2.size
  have al := (Below.refl w2.heap.size w2).alloc (Nat.le_refl _) (.cells #[.bool k.ok, .int .i64 k.sec, .slice (some ⟨lb, 0, none⟩) k.lns.length cap] 32)
  have kl := hkd.lt
  have St := CpInv.toDo (w := w) (e := e) (va := .slice a n0 ca) (O := w2.heap.size) (t := t) (hCp.below (by decide) (by decide) al) z1 hnc hcm htn (hkd.keep (al.block _ kl)) hlb (fun j hj => by rw [(bcell al).1 _ _ kl, (bcell al).1 _ _ kl, (bcell al).1 _ _ kl, (bcell al).1 _ _ kl]; exact hcells j hj) (T2.alloc T2.size _) b2 e2 r2 (BlkIs.new w2 _ _) (by omega)
  have hRW : RoomAt w2 (VW t) 1 3 w1.heap.size := (hCp.ints t htn).2
  have hRG : RoomAt w2 (VG t) 2 40 w1.heap.size := (hCp.grs t htn).2
  have HFW : Hid (∀ b, (VW t).ownBlock = some b → FarRow w2 w1.heap.size lb k.lns.length t b (fun j => DW j ++ DG j) (DG t)) := fun b hb => hCp.farW (by decide) (by decide) hkd htn hb
  have HFG : Hid (∀ b, (VG t).ownBlock = some b → FarRow w2 w1.heap.size lb k.lns.length t b (fun j => DW j ++ DG j) (DW t)) := fun b hb => hCp.farG (by decide) (by decide) hkd htn hb
  have hRWa := hRW.keep (w' := w2.alloc (.cells #[.bool k.ok, .int .i64 k.sec, .slice (some ⟨lb, 0, none⟩) k.lns.length cap] 32)) fun b hb _ => al.block b hb.lt
  have hRGa := hRG.keep (w' := w2.alloc (.cells #[.bool k.ok, .int .i64 k.sec, .slice (some ⟨lb, 0, none⟩) k.lns.length cap] 32)) fun b hb _ => al.block b hb.lt
  obtain ⟨aw, nw, cw, hvw⟩ := St.ints.slice
  obtain ⟨ag, ng, cg, hvg⟩ := St.grs.slice
  rw [hvw, hvg] at St
  have hL := HY.out.right
  have hlW := hL.way t htn
  have hlG := hL.grs t htn
  have hlD := hL.drop t htn
  have hdo : doLn k e = lineDo (ownedB k.lns e.n) (lnOf k.lns t) e.op e.n := by unfold doLn; rw [ht]; rfl
  have hbk : doBk k e = { k with lns := k.lns.set t (settleD (doLn k e).2) } := by unfold doBk; rw [ht]; rfl
  have HDo : Hid (doLn k e = lineDo (ownedB k.lns e.n) (lnOf k.lns t) e.op e.n) := hdo
  have HBk : Hid (doBk k e = { k with lns := k.lns.set t (settleD (doLn k e).2) }) := hbk
  have hlW' : WayOk k.sec (lnOf k.lns t) := hlW
  have hlG' : GrsOk (lnOf k.lns t) := hlG
  have hlD' : DropOk (lnOf k.lns t) := hlD
  have hng : ng = (lnOf k.lns t).grs.length := by obtain ⟨a', c', hv, _⟩ := St.grs; simp at hv; exact hv.2.1
  subst hng
  have htn' : (t : Int) < (k.lns.length : Int) := by omega
  clear hL hlW hlG hlD hdo hbk hcells hCp hkd T2 b2 e2 r2 al b1 e1 r1 T1 hb2
  generalize lnOf k.lns t = l at *
  generalize hNN : k.lns.length = n at *
  have HNN : Hid (k.lns.length = n) := hNN
  clear hNN
  have y := St.ev.three
  obtain ⟨y0, y1, y2⟩ := y
  have c0 := St.c0
  have c1 := St.c1
  have c2 := St.c2
  have c3 := St.c3
  have hW := hlW'
  have hG := hlG'
  have hD0 : 0 ≤ l.drop → l.gone ≤ l.drop := fun h => by
    rcases hlD' with h' | h'
    · omega
    · exact h'.lo
  have HW' : Hid (WayOk k.sec l) := hlW'
  have HG' : Hid (GrsOk l) := hlG'
  have hT1 : totD l ≤ 1000000 := hW.head.tot
  have hT0 : 0 ≤ totD l := by have := hW.head.lo; unfold totD; omega
  generalize hTd : totD l = T at *
  have HTd : Hid (totD l = T) := hTd
  have HT : Hid (∀ W, LnAt W (.agg #[.int .i64 l.gone, .slice aw nw cw, .slice ag l.grs.length cg, .int .i64 l.drop]) l (DW t ++ DG t) → Calls Tryd.prog 61 #[.agg #[.int .i64 l.gone, .slice aw nw cw, .slice ag l.grs.length cg, .int .i64 l.drop]] W fun e w' => e = .returned (.int .i64 T) ∧ Below W.heap.size W w') := fun W h => by
    have := l1total_any l _ _ W h hW.head.lo hW.head.hi hW.head.len
    rwa [hTd] at this
  have HM : Hid (∀ W, LnAt W (.agg #[.int .i64 l.gone, .slice aw nw cw, .slice ag l.grs.length cg, .int .i64 l.drop]) l (DW t ++ DG t) → Calls Tryd.prog 63 #[.agg #[.int .i64 l.gone, .slice aw nw cw, .slice ag l.grs.length cg, .int .i64 l.drop]] W fun e w' => e = .returned (.int .i64 (mostOf l.grs)) ∧ Below W.heap.size W w') := fun W h => l1most_any l _ _ W h
  clear hTd hlW' hlG' hG
  have hop := Hop.out
  clear Hop
  have p1 : (e.op == 1) = false := by simp [hop]
  have p2 : (e.op == 2) = false := by simp [hop]
  have p3 : (e.op == 3) = false := by simp [hop]
  have p4 : (e.op == 4) = true := by simp [hop]
  have p5 : (e.op == 5) = false := by simp [hop]
  have hnw : nw = l.way.length := by obtain ⟨a', c', hv, _⟩ := St.ints; simp at hv; exact hv.2.1
  subst hnw
  rw [hvw] at hRW hRWa HFW
  rw [hvg] at hRG hRGa HFG
  obtain ⟨wb, haw⟩ := hRW.nonnil
  subst haw
  have hwc : l.way.length ≤ cw ∧ cw ≤ maxLen := by obtain ⟨a', c', hv, h1, h2, _⟩ := St.ints; simp at hv; exact ⟨by omega, by omega⟩
  obtain ⟨hwc1, hwc2⟩ := hwc
  unfold maxLen at hwc2
  have tA : Hid (e.n < l.gone → doLn k e = (2, l)) := fun h => by rw [HDo.out, hop]; simp [lineDo, h]
  have tB : Hid (mostOf l.grs < e.n → doLn k e = (2, l)) := fun h => by rw [HDo.out, hop]; simp [lineDo, h]
  have tC : Hid (∀ m : Nat, e.n - l.gone = m → ¬ mostOf l.grs < e.n → doLn k e = (0, { l with way := l.way.drop m, gone := e.n, drop := if 0 ≤ l.drop ∧ l.drop < e.n then e.n else l.drop })) := fun m a b => by
    have hlt : ¬ e.n < l.gone := by omega
    rw [HDo.out, hop]; simp [lineDo, hlt, b, a]
  clear hop
  have hmt := most_tot HW'.out HG'.out
  rw [HTd.out] at hmt
  have hTl : T = l.gone + l.way.length := HTd.out.symm
  have HTl : Hid (T = l.gone + l.way.length) := hTl
  clear hTl
  go_wp2_with fail
  generalize w2.alloc (.cells #[.bool k.ok, .int .i64 k.sec, .slice (some ⟨lb, 0, none⟩) n cap] 32) = W at *
  clear y0 y1 y2 c0 c1 c2 c3
  have ne : Nonempty (Ext W.heap.size W) := ext_some
  have g0 := Ext.cell (B := W.heap.size) (w := W) St.lt St.c0
  have g1 := Ext.cell (B := W.heap.size) (w := W) St.lt St.c1
  have g2 := Ext.cell (B := W.heap.size) (w := W) St.lt St.c2
  have g3 := Ext.cell (B := W.heap.size) (w := W) St.lt St.c3
  have h0 := St.ev.ext (B := W.heap.size) St.ev.lt 0
  have h1 := St.ev.ext (B := W.heap.size) St.ev.lt 1
  have h2 := St.ev.ext (B := W.heap.size) St.ev.lt 2
  simp only [List.getElem?_cons_zero, List.getElem?_cons_succ] at h0 h1 h2
  have hLx : Hid (∀ x : Ext W.heap.size W, LnAt x.val (.agg #[.int .i64 l.gone, .slice (some ⟨wb, 0, none⟩) l.way.length cw, .slice ag l.grs.length cg, .int .i64 l.drop]) l (DW t ++ DG t)) := LnAt.ext (B := W.heap.size) (w := W) (l := l) ⟨_, _, DW t, DG t, rfl, rfl, St.ints, St.grs⟩ St.cells.lt
  by_cases hA : e.n < l.gone
  · have HCode : Hid _ := tA.out hA
    refine wp_region_ext W.heap.size (by kernel_rfl) (by kernel_rfl) ?_
    repeat (go_big_quiet_step (first | (go_at_call 63; exact ext_of (Nat.le_refl _) _ (HM.out _ (hLx.out _)))))
    refine wpQuiet_nil ?_
    intro w3 hx
    have hbx := ext_below hx
    have St3 := St.ext hbx
    clear hx hbx ne g0 g1 g2 g3 h0 h1 h2 hLx 
    have y0 := St3.ev.cell 0
    have y1 := St3.ev.cell 1
    have y2 := St3.ev.cell 2
    simp only [List.getElem?_cons_zero, List.getElem?_cons_succ] at y0 y1 y2
    have c0 := St3.c0
    have c1 := St3.c1
    have c2 := St3.c2
    have c3 := St3.c3
    go_wp2_with fail
    refine (l2settle_any l lb (t * 4) _ _ St3.cells St3.free (fun h => (St3.dd _ h).1 rfl) hW.head.lo hW.head.hi hW.head.len hD0).mono ?_
    rintro r w9 ⟨rfl, ⟨d9, hl9, hs9⟩, ht9⟩
    obtain ⟨⟨bs9, hls9, hlo9⟩, rb9, ob9, T9⟩ := St3.done hl9 hs9 ht9
    rw [HNN.out] at hls9 ob9
    obtain ⟨u0, u1, u2, u3⟩ := rb9.four
    obtain ⟨v0, v1, v2⟩ := ob9.three
    have fr9 : ∀ x, w9.frozen? ⟨w.heap.size + 2, x, none⟩ = false := fun x => rb9.frozen x
    have HLs : Hid (LnsAt w9 (.slice (some ⟨lb, 0, none⟩) n cap) (doBk k e).lns bs9) := by
      show LnsAt w9 _ (doBk k e).lns bs9
      rw [HBk.out, HCode.out]; exact hls9
    clear hls9 hl9 hs9 ht9 c0 c1 c2 c3 y0 y1 y2
    go_wp2
    refine bodyPost_ret (v := .agg #[.int .i64 2, .bool k.ok, .int .i64 k.sec, .slice (some ⟨lb, 0, none⟩) n cap]) (by simp [results, Tryd.results26, go_sem, u0, u1, u2, u3]) rfl ⟨2, doBk k e, _, bs9, rfl, ⟨_, rfl, HLs.out.keep fun x hx => ?_⟩, Or.inr ⟨HY.out, by rw [HCode.out], rfl⟩, ?_, fun x hx => Nat.le_trans (Nat.le_add_right _ _) (hlo9 x hx)⟩
    · have hx9 : x ≠ w.heap.size + 2 := by have := hlo9 x hx; omega
      rw [Below.heap_setCell _ _ _ _ hx9, Below.heap_setCell _ _ _ _ hx9, Below.heap_setCell _ _ _ _ hx9, Below.heap_setCell _ _ _ _ hx9]
    · refine Below.setCell (Below.setCell (Below.setCell (Below.setCell ?_ (by simp <;> omega) _) (by simp <;> omega) _) (by simp <;> omega) _) (by simp <;> omega) _
      exact T9
  · by_cases hB : mostOf l.grs < e.n
    · have HCode : Hid _ := tB.out hB
      refine wp_region_ext W.heap.size (by kernel_rfl) (by kernel_rfl) ?_
      repeat (go_big_quiet_step (first | (go_at_call 63; exact ext_of (Nat.le_refl _) _ (HM.out _ (hLx.out _)))))
      refine wpQuiet_nil ?_
      intro w3 hx
      have hbx := ext_below hx
      have St3 := St.ext hbx
      clear hx hbx ne g0 g1 g2 g3 h0 h1 h2 hLx 
      have y0 := St3.ev.cell 0
      have y1 := St3.ev.cell 1
      have y2 := St3.ev.cell 2
      simp only [List.getElem?_cons_zero, List.getElem?_cons_succ] at y0 y1 y2
      have c0 := St3.c0
      have c1 := St3.c1
      have c2 := St3.c2
      have c3 := St3.c3
      go_wp2_with fail
      refine (l2settle_any l lb (t * 4) _ _ St3.cells St3.free (fun h => (St3.dd _ h).1 rfl) hW.head.lo hW.head.hi hW.head.len hD0).mono ?_
      rintro r w9 ⟨rfl, ⟨d9, hl9, hs9⟩, ht9⟩
      obtain ⟨⟨bs9, hls9, hlo9⟩, rb9, ob9, T9⟩ := St3.done hl9 hs9 ht9
      rw [HNN.out] at hls9 ob9
      obtain ⟨u0, u1, u2, u3⟩ := rb9.four
      obtain ⟨v0, v1, v2⟩ := ob9.three
      have fr9 : ∀ x, w9.frozen? ⟨w.heap.size + 2, x, none⟩ = false := fun x => rb9.frozen x
      have HLs : Hid (LnsAt w9 (.slice (some ⟨lb, 0, none⟩) n cap) (doBk k e).lns bs9) := by
        show LnsAt w9 _ (doBk k e).lns bs9
        rw [HBk.out, HCode.out]; exact hls9
      clear hls9 hl9 hs9 ht9 c0 c1 c2 c3 y0 y1 y2
      go_wp2
      refine bodyPost_ret (v := .agg #[.int .i64 2, .bool k.ok, .int .i64 k.sec, .slice (some ⟨lb, 0, none⟩) n cap]) (by simp [results, Tryd.results26, go_sem, u0, u1, u2, u3]) rfl ⟨2, doBk k e, _, bs9, rfl, ⟨_, rfl, HLs.out.keep fun x hx => ?_⟩, Or.inr ⟨HY.out, by rw [HCode.out], rfl⟩, ?_, fun x hx => Nat.le_trans (Nat.le_add_right _ _) (hlo9 x hx)⟩
      · have hx9 : x ≠ w.heap.size + 2 := by have := hlo9 x hx; omega
        rw [Below.heap_setCell _ _ _ _ hx9, Below.heap_setCell _ _ _ _ hx9, Below.heap_setCell _ _ _ _ hx9, Below.heap_setCell _ _ _ _ hx9]
      · refine Below.setCell (Below.setCell (Below.setCell (Below.setCell ?_ (by simp <;> omega) _) (by simp <;> omega) _) (by simp <;> omega) _) (by simp <;> omega) _
        exact T9
    · have hB' : decide (mostOf l.grs < e.n) = false := by simpa using hB
      refine wp_region_ext W.heap.size (by kernel_rfl) (by kernel_rfl) ?_
      repeat (go_big_quiet_step (first | (go_at_call 63; exact ext_of (Nat.le_refl _) _ (HM.out _ (hLx.out _)))))
      refine wpQuiet_nil ?_
      intro w3 hx
      have hbx := ext_below hx
      have St3 := St.ext hbx
      clear hx hbx ne g0 g1 g2 g3 h0 h1 h2 hLx 
      have y0 := St3.ev.cell 0
      have y1 := St3.ev.cell 1
      have y2 := St3.ev.cell 2
      simp only [List.getElem?_cons_zero, List.getElem?_cons_succ] at y0 y1 y2
      have c0 := St3.c0
      have c1 := St3.c1
      have c2 := St3.c2
      have c3 := St3.c3
      obtain ⟨m, hm⟩ := Int.eq_ofNat_of_zero_le (show 0 ≤ e.n - l.gone by omega)
      have Hm : Hid (e.n - l.gone = (m : Int)) := hm
      have Hml : Hid (m ≤ l.way.length) := by show m ≤ l.way.length; have := HTl.out; omega
      have hml := Hml.out
      have HCode0 : Hid _ := tC.out m Hm.out (by omega)
      by_cases hcw : cw = m
      · obtain ⟨d1', hiT, hsubT⟩ := St3.ints.drop (m := m) Hml.out (0) (fun _ => by omega)
        have hz : cw - m = 0 := by omega
        rw [hz] at hiT
        clear hz
        have hdd' : ∀ x ∈ d1' ++ DG t, x ≠ lb ∧ w.heap.size + 3 ≤ x := fun x hx => St3.dd x (by
          rcases List.mem_append.1 hx with hx | hx
          · exact List.mem_append_left _ (hsubT x hx)
          · exact List.mem_append_right _ hx)
        have St4 := (St3.turn (r := 1) (u := (.slice (some ⟨wb, 0, none⟩) (l.way.length - m) 0)) (l' := { l with way := l.way.drop m }) (by omega) (by simp) (by simp) (by simp) (by simp) hiT St3.grs hdd').drew
        have f3 := St3.free (t * 4 + 1)
        clear hiT
        go_wp2_with fail
        go_region
        clear c0 c1 c2 c3 y0 y1 y2 f3
        generalize (w3.setCell ⟨lb, t * 4 + 1, none⟩ (.slice (some ⟨wb, 0, none⟩) (l.way.length - m) 0)).drew = U at *
        have St5 := St4.turn (r := 0) (u := .int .i64 e.n) (l' := { l with way := l.way.drop m, gone := e.n }) (by omega) (by simp) (by simp) (by simp) (by simp) St4.ints St4.grs hdd'
        simp only [Nat.add_zero] at St5
        have f4 := St4.free (t * 4)
        have y0 := St4.ev.cell 0
        have y1 := St4.ev.cell 1
        have y2 := St4.ev.cell 2
        simp only [List.getElem?_cons_zero, List.getElem?_cons_succ] at y0 y1 y2
        have c0 := St4.c0
        have c1 := St4.c1
        have c2 := St4.c2
        have c3 := St4.c3
        go_wp2_with fail
        clear c0 c1 c2 c3 y0 y1 y2 f4
        generalize U.setCell ⟨lb, t * 4, none⟩ (.int .i64 e.n) = V at *
        have ne : Nonempty (Ext V.heap.size V) := ext_some
        have g0 := Ext.cell (B := V.heap.size) (w := V) St5.lt St5.c0
        have g1 := Ext.cell (B := V.heap.size) (w := V) St5.lt St5.c1
        have g2 := Ext.cell (B := V.heap.size) (w := V) St5.lt St5.c2
        have g3 := Ext.cell (B := V.heap.size) (w := V) St5.lt St5.c3
        have h0 := St5.ev.ext (B := V.heap.size) St5.ev.lt 0
        have h1 := St5.ev.ext (B := V.heap.size) St5.ev.lt 1
        have h2 := St5.ev.ext (B := V.heap.size) St5.ev.lt 2
        simp only [List.getElem?_cons_zero, List.getElem?_cons_succ] at h0 h1 h2
        by_cases hd : 0 ≤ l.drop
        · by_cases hd2 : l.drop < e.n
          · have HCode : Hid (doLn k e = (0, ({ l with way := l.way.drop m, gone := e.n, drop := e.n } : Ln))) := by
              show doLn k e = _
              rw [HCode0.out, if_pos ⟨hd, hd2⟩]
            refine wp_region_ext V.heap.size (by kernel_rfl) (by kernel_rfl) ?_
            repeat (go_big_quiet_step (fail))
            refine wpQuiet_nil ?_
            intro w5 hx
            have hbx := ext_below hx
            have St6 := St5.ext hbx
            clear hx hbx ne g0 g1 g2 g3 h0 h1 h2  
            have y0 := St6.ev.cell 0
            have y1 := St6.ev.cell 1
            have y2 := St6.ev.cell 2
            simp only [List.getElem?_cons_zero, List.getElem?_cons_succ] at y0 y1 y2
            have c0 := St6.c0
            have c1 := St6.c1
            have c2 := St6.c2
            have c3 := St6.c3
            have St7 := St6.turn (r := 3) (u := .int .i64 e.n) (l' := { l with way := l.way.drop m, gone := e.n, drop := e.n }) (by omega) (by simp) (by simp) (by simp) (by simp) St6.ints St6.grs hdd'
            have f6 := St6.free (t * 4 + 3)
            go_wp2_with fail
            refine (l2settle_any ({ l with way := l.way.drop m, gone := e.n, drop := e.n } : Ln) lb (t * 4) _ _ St7.cells St7.free (fun h => (St7.dd _ h).1 rfl) n0' hn1 (by show (l.way.drop m).length ≤ 100; have := hW.head.len; simp; omega) (fun _ => Int.le_refl _)).mono ?_
            rintro r w9 ⟨rfl, ⟨d9, hl9, hs9⟩, ht9⟩
            obtain ⟨⟨bs9, hls9, hlo9⟩, rb9, ob9, T9⟩ := St7.done hl9 hs9 ht9
            rw [HNN.out] at hls9 ob9
            obtain ⟨u0, u1, u2, u3⟩ := rb9.four
            obtain ⟨v0, v1, v2⟩ := ob9.three
            have fr9 : ∀ x, w9.frozen? ⟨w.heap.size + 2, x, none⟩ = false := fun x => rb9.frozen x
            have HLs : Hid (LnsAt w9 (.slice (some ⟨lb, 0, none⟩) n cap) (doBk k e).lns bs9) := by
              show LnsAt w9 _ (doBk k e).lns bs9
              rw [HBk.out, HCode.out]; exact hls9
            clear hls9 hl9 hs9 ht9 c0 c1 c2 c3 y0 y1 y2
            go_wp2
            refine bodyPost_ret (v := .agg #[.int .i64 0, .bool k.ok, .int .i64 k.sec, .slice (some ⟨lb, 0, none⟩) n cap]) (by simp [results, Tryd.results26, go_sem, u0, u1, u2, u3]) rfl ⟨0, doBk k e, _, bs9, rfl, ⟨_, rfl, HLs.out.keep fun x hx => ?_⟩, Or.inr ⟨HY.out, by rw [HCode.out], rfl⟩, ?_, fun x hx => Nat.le_trans (Nat.le_add_right _ _) (hlo9 x hx)⟩
            · have hx9 : x ≠ w.heap.size + 2 := by have := hlo9 x hx; omega
              rw [Below.heap_setCell _ _ _ _ hx9, Below.heap_setCell _ _ _ _ hx9, Below.heap_setCell _ _ _ _ hx9, Below.heap_setCell _ _ _ _ hx9]
            · refine Below.setCell (Below.setCell (Below.setCell (Below.setCell ?_ (by simp <;> omega) _) (by simp <;> omega) _) (by simp <;> omega) _) (by simp <;> omega) _
              exact T9
          · have HCode : Hid (doLn k e = (0, ({ l with way := l.way.drop m, gone := e.n, drop := l.drop } : Ln))) := by
              show doLn k e = _
              rw [HCode0.out, if_neg (fun h => hd2 h.2)]
            have hdf : decide (l.drop < e.n) = false := by simpa using hd2
            refine wp_region_ext V.heap.size (by kernel_rfl) (by kernel_rfl) ?_
            repeat (go_big_quiet_step (fail))
            refine wpQuiet_nil ?_
            intro w5 hx
            have hbx := ext_below hx
            have St6 := St5.ext hbx
            clear hx hbx ne g0 g1 g2 g3 h0 h1 h2  
            have y0 := St6.ev.cell 0
            have y1 := St6.ev.cell 1
            have y2 := St6.ev.cell 2
            simp only [List.getElem?_cons_zero, List.getElem?_cons_succ] at y0 y1 y2
            have c0 := St6.c0
            have c1 := St6.c1
            have c2 := St6.c2
            have c3 := St6.c3
            go_wp2_with fail
            refine (l2settle_any ({ l with way := l.way.drop m, gone := e.n, drop := l.drop } : Ln) lb (t * 4) _ _ St6.cells St6.free (fun h => (St6.dd _ h).1 rfl) n0' hn1 (by show (l.way.drop m).length ≤ 100; have := hW.head.len; simp; omega) (fun _ => by show e.n ≤ l.drop; omega)).mono ?_
            rintro r w9 ⟨rfl, ⟨d9, hl9, hs9⟩, ht9⟩
            obtain ⟨⟨bs9, hls9, hlo9⟩, rb9, ob9, T9⟩ := St6.done hl9 hs9 ht9
            rw [HNN.out] at hls9 ob9
            obtain ⟨u0, u1, u2, u3⟩ := rb9.four
            obtain ⟨v0, v1, v2⟩ := ob9.three
            have fr9 : ∀ x, w9.frozen? ⟨w.heap.size + 2, x, none⟩ = false := fun x => rb9.frozen x
            have HLs : Hid (LnsAt w9 (.slice (some ⟨lb, 0, none⟩) n cap) (doBk k e).lns bs9) := by
              show LnsAt w9 _ (doBk k e).lns bs9
              rw [HBk.out, HCode.out]; exact hls9
            clear hls9 hl9 hs9 ht9 c0 c1 c2 c3 y0 y1 y2
            go_wp2
            refine bodyPost_ret (v := .agg #[.int .i64 0, .bool k.ok, .int .i64 k.sec, .slice (some ⟨lb, 0, none⟩) n cap]) (by simp [results, Tryd.results26, go_sem, u0, u1, u2, u3]) rfl ⟨0, doBk k e, _, bs9, rfl, ⟨_, rfl, HLs.out.keep fun x hx => ?_⟩, Or.inr ⟨HY.out, by rw [HCode.out], rfl⟩, ?_, fun x hx => Nat.le_trans (Nat.le_add_right _ _) (hlo9 x hx)⟩
            · have hx9 : x ≠ w.heap.size + 2 := by have := hlo9 x hx; omega
              rw [Below.heap_setCell _ _ _ _ hx9, Below.heap_setCell _ _ _ _ hx9, Below.heap_setCell _ _ _ _ hx9, Below.heap_setCell _ _ _ _ hx9]
            · refine Below.setCell (Below.setCell (Below.setCell (Below.setCell ?_ (by simp <;> omega) _) (by simp <;> omega) _) (by simp <;> omega) _) (by simp <;> omega) _
              exact T9
        · have HCode : Hid (doLn k e = (0, ({ l with way := l.way.drop m, gone := e.n, drop := l.drop } : Ln))) := by
            show doLn k e = _
            rw [HCode0.out, if_neg (fun h => hd h.1)]
          have hdf : decide (0 ≤ l.drop) = false := by simpa using hd
          refine wp_region_ext V.heap.size (by kernel_rfl) (by kernel_rfl) ?_
          repeat (go_big_quiet_step (fail))
          refine wpQuiet_nil ?_
          intro w5 hx
          have hbx := ext_below hx
          have St6 := St5.ext hbx
          clear hx hbx ne g0 g1 g2 g3 h0 h1 h2  
          have y0 := St6.ev.cell 0
          have y1 := St6.ev.cell 1
          have y2 := St6.ev.cell 2
          simp only [List.getElem?_cons_zero, List.getElem?_cons_succ] at y0 y1 y2
          have c0 := St6.c0
          have c1 := St6.c1
          have c2 := St6.c2
          have c3 := St6.c3
          go_wp2_with fail
          refine (l2settle_any ({ l with way := l.way.drop m, gone := e.n, drop := l.drop } : Ln) lb (t * 4) _ _ St6.cells St6.free (fun h => (St6.dd _ h).1 rfl) n0' hn1 (by show (l.way.drop m).length ≤ 100; have := hW.head.len; simp; omega) (fun h => absurd h (by show ¬ 0 ≤ l.drop; omega))).mono ?_
          rintro r w9 ⟨rfl, ⟨d9, hl9, hs9⟩, ht9⟩
          obtain ⟨⟨bs9, hls9, hlo9⟩, rb9, ob9, T9⟩ := St6.done hl9 hs9 ht9
          rw [HNN.out] at hls9 ob9
          obtain ⟨u0, u1, u2, u3⟩ := rb9.four
          obtain ⟨v0, v1, v2⟩ := ob9.three
          have fr9 : ∀ x, w9.frozen? ⟨w.heap.size + 2, x, none⟩ = false := fun x => rb9.frozen x
          have HLs : Hid (LnsAt w9 (.slice (some ⟨lb, 0, none⟩) n cap) (doBk k e).lns bs9) := by
            show LnsAt w9 _ (doBk k e).lns bs9
            rw [HBk.out, HCode.out]; exact hls9
          clear hls9 hl9 hs9 ht9 c0 c1 c2 c3 y0 y1 y2
          go_wp2
          refine bodyPost_ret (v := .agg #[.int .i64 0, .bool k.ok, .int .i64 k.sec, .slice (some ⟨lb, 0, none⟩) n cap]) (by simp [results, Tryd.results26, go_sem, u0, u1, u2, u3]) rfl ⟨0, doBk k e, _, bs9, rfl, ⟨_, rfl, HLs.out.keep fun x hx => ?_⟩, Or.inr ⟨HY.out, by rw [HCode.out], rfl⟩, ?_, fun x hx => Nat.le_trans (Nat.le_add_right _ _) (hlo9 x hx)⟩
          · have hx9 : x ≠ w.heap.size + 2 := by have := hlo9 x hx; omega
            rw [Below.heap_setCell _ _ _ _ hx9, Below.heap_setCell _ _ _ _ hx9, Below.heap_setCell _ _ _ _ hx9, Below.heap_setCell _ _ _ _ hx9]
          · refine Below.setCell (Below.setCell (Below.setCell (Below.setCell ?_ (by simp <;> omega) _) (by simp <;> omega) _) (by simp <;> omega) _) (by simp <;> omega) _
            exact T9
      · obtain ⟨d1', hiT, hsubT⟩ := St3.ints.drop (m := m) Hml.out (m) (fun _ => by omega)
        have hdd' : ∀ x ∈ d1' ++ DG t, x ≠ lb ∧ w.heap.size + 3 ≤ x := fun x hx => St3.dd x (by
          rcases List.mem_append.1 hx with hx | hx
          · exact List.mem_append_left _ (hsubT x hx)
          · exact List.mem_append_right _ hx)
        have St4 := (St3.turn (r := 1) (u := (.slice (some ⟨wb, m, none⟩) (l.way.length - m) (cw - m))) (l' := { l with way := l.way.drop m }) (by omega) (by simp) (by simp) (by simp) (by simp) hiT St3.grs hdd').drew
        have f3 := St3.free (t * 4 + 1)
        clear hiT
        go_wp2_with fail
        go_region
        clear c0 c1 c2 c3 y0 y1 y2 f3
        generalize (w3.setCell ⟨lb, t * 4 + 1, none⟩ (.slice (some ⟨wb, m, none⟩) (l.way.length - m) (cw - m))).drew = U at *
        have St5 := St4.turn (r := 0) (u := .int .i64 e.n) (l' := { l with way := l.way.drop m, gone := e.n }) (by omega) (by simp) (by simp) (by simp) (by simp) St4.ints St4.grs hdd'
        simp only [Nat.add_zero] at St5
        have f4 := St4.free (t * 4)
        have y0 := St4.ev.cell 0
        have y1 := St4.ev.cell 1
        have y2 := St4.ev.cell 2
        simp only [List.getElem?_cons_zero, List.getElem?_cons_succ] at y0 y1 y2
        have c0 := St4.c0
        have c1 := St4.c1
        have c2 := St4.c2
        have c3 := St4.c3
        go_wp2_with fail
        clear c0 c1 c2 c3 y0 y1 y2 f4
        generalize U.setCell ⟨lb, t * 4, none⟩ (.int .i64 e.n) = V at *
        have ne : Nonempty (Ext V.heap.size V) := ext_some
        have g0 := Ext.cell (B := V.heap.size) (w := V) St5.lt St5.c0
        have g1 := Ext.cell (B := V.heap.size) (w := V) St5.lt St5.c1
        have g2 := Ext.cell (B := V.heap.size) (w := V) St5.lt St5.c2
        have g3 := Ext.cell (B := V.heap.size) (w := V) St5.lt St5.c3
        have h0 := St5.ev.ext (B := V.heap.size) St5.ev.lt 0
        have h1 := St5.ev.ext (B := V.heap.size) St5.ev.lt 1
        have h2 := St5.ev.ext (B := V.heap.size) St5.ev.lt 2
        simp only [List.getElem?_cons_zero, List.getElem?_cons_succ] at h0 h1 h2
        by_cases hd : 0 ≤ l.drop
        · by_cases hd2 : l.drop < e.n
          · have HCode : Hid (doLn k e = (0, ({ l with way := l.way.drop m, gone := e.n, drop := e.n } : Ln))) := by
              show doLn k e = _
              rw [HCode0.out, if_pos ⟨hd, hd2⟩]
            refine wp_region_ext V.heap.size (by kernel_rfl) (by kernel_rfl) ?_
            repeat (go_big_quiet_step (fail))
            refine wpQuiet_nil ?_
            intro w5 hx
            have hbx := ext_below hx
            have St6 := St5.ext hbx
            clear hx hbx ne g0 g1 g2 g3 h0 h1 h2  
            have y0 := St6.ev.cell 0
            have y1 := St6.ev.cell 1
            have y2 := St6.ev.cell 2
            simp only [List.getElem?_cons_zero, List.getElem?_cons_succ] at y0 y1 y2
            have c0 := St6.c0
            have c1 := St6.c1
            have c2 := St6.c2
            have c3 := St6.c3
            have St7 := St6.turn (r := 3) (u := .int .i64 e.n) (l' := { l with way := l.way.drop m, gone := e.n, drop := e.n }) (by omega) (by simp) (by simp) (by simp) (by simp) St6.ints St6.grs hdd'
            have f6 := St6.free (t * 4 + 3)
            go_wp2_with fail
            refine (l2settle_any ({ l with way := l.way.drop m, gone := e.n, drop := e.n } : Ln) lb (t * 4) _ _ St7.cells St7.free (fun h => (St7.dd _ h).1 rfl) n0' hn1 (by show (l.way.drop m).length ≤ 100; have := hW.head.len; simp; omega) (fun _ => Int.le_refl _)).mono ?_
            rintro r w9 ⟨rfl, ⟨d9, hl9, hs9⟩, ht9⟩
            obtain ⟨⟨bs9, hls9, hlo9⟩, rb9, ob9, T9⟩ := St7.done hl9 hs9 ht9
            rw [HNN.out] at hls9 ob9
            obtain ⟨u0, u1, u2, u3⟩ := rb9.four
            obtain ⟨v0, v1, v2⟩ := ob9.three
            have fr9 : ∀ x, w9.frozen? ⟨w.heap.size + 2, x, none⟩ = false := fun x => rb9.frozen x
            have HLs : Hid (LnsAt w9 (.slice (some ⟨lb, 0, none⟩) n cap) (doBk k e).lns bs9) := by
              show LnsAt w9 _ (doBk k e).lns bs9
              rw [HBk.out, HCode.out]; exact hls9
            clear hls9 hl9 hs9 ht9 c0 c1 c2 c3 y0 y1 y2
            go_wp2
            refine bodyPost_ret (v := .agg #[.int .i64 0, .bool k.ok, .int .i64 k.sec, .slice (some ⟨lb, 0, none⟩) n cap]) (by simp [results, Tryd.results26, go_sem, u0, u1, u2, u3]) rfl ⟨0, doBk k e, _, bs9, rfl, ⟨_, rfl, HLs.out.keep fun x hx => ?_⟩, Or.inr ⟨HY.out, by rw [HCode.out], rfl⟩, ?_, fun x hx => Nat.le_trans (Nat.le_add_right _ _) (hlo9 x hx)⟩
            · have hx9 : x ≠ w.heap.size + 2 := by have := hlo9 x hx; omega
              rw [Below.heap_setCell _ _ _ _ hx9, Below.heap_setCell _ _ _ _ hx9, Below.heap_setCell _ _ _ _ hx9, Below.heap_setCell _ _ _ _ hx9]
            · refine Below.setCell (Below.setCell (Below.setCell (Below.setCell ?_ (by simp <;> omega) _) (by simp <;> omega) _) (by simp <;> omega) _) (by simp <;> omega) _
              exact T9
          · have HCode : Hid (doLn k e = (0, ({ l with way := l.way.drop m, gone := e.n, drop := l.drop } : Ln))) := by
              show doLn k e = _
              rw [HCode0.out, if_neg (fun h => hd2 h.2)]
            have hdf : decide (l.drop < e.n) = false := by simpa using hd2
            refine wp_region_ext V.heap.size (by kernel_rfl) (by kernel_rfl) ?_
            repeat (go_big_quiet_step (fail))
            refine wpQuiet_nil ?_
            intro w5 hx
            have hbx := ext_below hx
            have St6 := St5.ext hbx
            clear hx hbx ne g0 g1 g2 g3 h0 h1 h2  
            have y0 := St6.ev.cell 0
            have y1 := St6.ev.cell 1
            have y2 := St6.ev.cell 2
            simp only [List.getElem?_cons_zero, List.getElem?_cons_succ] at y0 y1 y2
            have c0 := St6.c0
            have c1 := St6.c1
            have c2 := St6.c2
            have c3 := St6.c3
            go_wp2_with fail
            refine (l2settle_any ({ l with way := l.way.drop m, gone := e.n, drop := l.drop } : Ln) lb (t * 4) _ _ St6.cells St6.free (fun h => (St6.dd _ h).1 rfl) n0' hn1 (by show (l.way.drop m).length ≤ 100; have := hW.head.len; simp; omega) (fun _ => by show e.n ≤ l.drop; omega)).mono ?_
            rintro r w9 ⟨rfl, ⟨d9, hl9, hs9⟩, ht9⟩
            obtain ⟨⟨bs9, hls9, hlo9⟩, rb9, ob9, T9⟩ := St6.done hl9 hs9 ht9
            rw [HNN.out] at hls9 ob9
            obtain ⟨u0, u1, u2, u3⟩ := rb9.four
            obtain ⟨v0, v1, v2⟩ := ob9.three
            have fr9 : ∀ x, w9.frozen? ⟨w.heap.size + 2, x, none⟩ = false := fun x => rb9.frozen x
            have HLs : Hid (LnsAt w9 (.slice (some ⟨lb, 0, none⟩) n cap) (doBk k e).lns bs9) := by
              show LnsAt w9 _ (doBk k e).lns bs9
              rw [HBk.out, HCode.out]; exact hls9
            clear hls9 hl9 hs9 ht9 c0 c1 c2 c3 y0 y1 y2
            go_wp2
            refine bodyPost_ret (v := .agg #[.int .i64 0, .bool k.ok, .int .i64 k.sec, .slice (some ⟨lb, 0, none⟩) n cap]) (by simp [results, Tryd.results26, go_sem, u0, u1, u2, u3]) rfl ⟨0, doBk k e, _, bs9, rfl, ⟨_, rfl, HLs.out.keep fun x hx => ?_⟩, Or.inr ⟨HY.out, by rw [HCode.out], rfl⟩, ?_, fun x hx => Nat.le_trans (Nat.le_add_right _ _) (hlo9 x hx)⟩
            · have hx9 : x ≠ w.heap.size + 2 := by have := hlo9 x hx; omega
              rw [Below.heap_setCell _ _ _ _ hx9, Below.heap_setCell _ _ _ _ hx9, Below.heap_setCell _ _ _ _ hx9, Below.heap_setCell _ _ _ _ hx9]
            · refine Below.setCell (Below.setCell (Below.setCell (Below.setCell ?_ (by simp <;> omega) _) (by simp <;> omega) _) (by simp <;> omega) _) (by simp <;> omega) _
              exact T9
        · have HCode : Hid (doLn k e = (0, ({ l with way := l.way.drop m, gone := e.n, drop := l.drop } : Ln))) := by
            show doLn k e = _
            rw [HCode0.out, if_neg (fun h => hd h.1)]
          have hdf : decide (0 ≤ l.drop) = false := by simpa using hd
          refine wp_region_ext V.heap.size (by kernel_rfl) (by kernel_rfl) ?_
          repeat (go_big_quiet_step (fail))
          refine wpQuiet_nil ?_
          intro w5 hx
          have hbx := ext_below hx
          have St6 := St5.ext hbx
          clear hx hbx ne g0 g1 g2 g3 h0 h1 h2  
          have y0 := St6.ev.cell 0
          have y1 := St6.ev.cell 1
          have y2 := St6.ev.cell 2
          simp only [List.getElem?_cons_zero, List.getElem?_cons_succ] at y0 y1 y2
          have c0 := St6.c0
          have c1 := St6.c1
          have c2 := St6.c2
          have c3 := St6.c3
          go_wp2_with fail
          refine (l2settle_any ({ l with way := l.way.drop m, gone := e.n, drop := l.drop } : Ln) lb (t * 4) _ _ St6.cells St6.free (fun h => (St6.dd _ h).1 rfl) n0' hn1 (by show (l.way.drop m).length ≤ 100; have := hW.head.len; simp; omega) (fun h => absurd h (by show ¬ 0 ≤ l.drop; omega))).mono ?_
          rintro r w9 ⟨rfl, ⟨d9, hl9, hs9⟩, ht9⟩
          obtain ⟨⟨bs9, hls9, hlo9⟩, rb9, ob9, T9⟩ := St6.done hl9 hs9 ht9
          rw [HNN.out] at hls9 ob9
          obtain ⟨u0, u1, u2, u3⟩ := rb9.four
          obtain ⟨v0, v1, v2⟩ := ob9.three
          have fr9 : ∀ x, w9.frozen? ⟨w.heap.size + 2, x, none⟩ = false := fun x => rb9.frozen x
          have HLs : Hid (LnsAt w9 (.slice (some ⟨lb, 0, none⟩) n cap) (doBk k e).lns bs9) := by
            show LnsAt w9 _ (doBk k e).lns bs9
            rw [HBk.out, HCode.out]; exact hls9
          clear hls9 hl9 hs9 ht9 c0 c1 c2 c3 y0 y1 y2
          go_wp2
          refine bodyPost_ret (v := .agg #[.int .i64 0, .bool k.ok, .int .i64 k.sec, .slice (some ⟨lb, 0, none⟩) n cap]) (by simp [results, Tryd.results26, go_sem, u0, u1, u2, u3]) rfl ⟨0, doBk k e, _, bs9, rfl, ⟨_, rfl, HLs.out.keep fun x hx => ?_⟩, Or.inr ⟨HY.out, by rw [HCode.out], rfl⟩, ?_, fun x hx => Nat.le_trans (Nat.le_add_right _ _) (hlo9 x hx)⟩
          · have hx9 : x ≠ w.heap.size + 2 := by have := hlo9 x hx; omega
            rw [Below.heap_setCell _ _ _ _ hx9, Below.heap_setCell _ _ _ _ hx9, Below.heap_setCell _ _ _ _ hx9, Below.heap_setCell _ _ _ _ hx9]
          · refine Below.setCell (Below.setCell (Below.setCell (Below.setCell ?_ (by simp <;> omega) _) (by simp <;> omega) _) (by simp <;> omega) _) (by simp <;> omega) _
            exact T9

end Go.Proofs.YtnaaheddhgpnoaaDoor
