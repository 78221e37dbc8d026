import Derived.Test.YtnaaheddhgpnoaaDoorSpDoW
namespace Go.Proofs.YtnaaheddhgpnoaaDoor
open Go.ChangeShapes Go.WideShapes Go.ChangeAt Go.RowKit

set_option maxHeartbeats 4000000 in
set_option maxRecDepth 100000 in
theorem specDo_2f (k : Bk) (e : Ev) (v : Value) (bs : List Nat) (w : World) (h : BkAt w v k bs) (hyes : EvOk k e) (hop : e.op = 2) (hkd : ∀ t : Nat, e.train = t → 0 ≤ (lnOf k.lns t).drop) :
    Calls Tryd.prog 26 #[v, .agg #[.int .i64 e.op, .int .i64 e.train, .int .i64 e.n]] w fun r w' => RetDo w k e r w' := by
  have Hop : Hid (e.op = 2) := hop
  clear hop
  have HKd0 : Hid (∀ t : Nat, e.train = t → 0 ≤ (lnOf k.lns t).drop) := hkd
  clear hkd
  have hK := h
  obtain ⟨vl, rfl, hLs⟩ := h
  obtain ⟨a, n0, ca, rfl⟩ := hLs.slice
  clear hLs
  have HY : Hid (EvOk k e) := hyes
  have b3 := below3 w
  have HE : Hid (∀ W, BkAt W (.agg #[.bool k.ok, .int .i64 k.sec, .slice a n0 ca]) k bs → Calls Tryd.prog 59 #[.agg #[.bool k.ok, .int .i64 k.sec, .slice a n0 ca], .agg #[.int .i64 e.op, .int .i64 e.train, .int .i64 e.n]] W fun r w' => RetB r (EvOk k e) ∧ Below W.heap.size W w') := fun W h => specEventOk_any k e (.agg #[.bool k.ok, .int .i64 k.sec, .slice a n0 ca]) bs W h
  have HC : Hid _ := fun W h => l2copy_any k (.agg #[.bool k.ok, .int .i64 k.sec, .slice a n0 ca]) bs W h (by have := hyes.right.frame.few; omega) (fun j hj => ⟨by have := (hyes.right.way j hj).head.len; omega, by have := (hyes.right.grs j hj).few; omega⟩)
  have t0 := hyes.t0
  have t1 := hyes.t1
  have o0 := hyes.o0
  have o1 := hyes.o1
  have n0' := hyes.n0
  have hn1 : e.n ≤ 1000000 := by
    by_cases h : e.op = 1
    · have := hyes.add h; have := hyes.right.frame.hi; omega
    · exact hyes.rest h
  clear hyes
  have bB : BlkIs (((w.alloc (.cells #[.bool k.ok, .int .i64 k.sec, .slice a n0 ca] 32)).alloc (.cells #[.int .i64 e.op, .int .i64 e.train, .int .i64 e.n] 46)).alloc (.cells #[.int .i64 0, .bool false, .int .i64 0, .slice none 0 0] 34)) w.heap.size [.bool k.ok, .int .i64 k.sec, .slice a n0 ca] 32 := ((BlkIs.new _ _ _).alloc _).alloc _
  have eB : BlkIs (((w.alloc (.cells #[.bool k.ok, .int .i64 k.sec, .slice a n0 ca] 32)).alloc (.cells #[.int .i64 e.op, .int .i64 e.train, .int .i64 e.n] 46)).alloc (.cells #[.int .i64 0, .bool false, .int .i64 0, .slice none 0 0] 34)) (w.heap.size + 1) [.int .i64 e.op, .int .i64 e.train, .int .i64 e.n] 46 := (BlkIs.new2 w _ _ _).alloc _
  have rB : BlkIs (((w.alloc (.cells #[.bool k.ok, .int .i64 k.sec, .slice a n0 ca] 32)).alloc (.cells #[.int .i64 e.op, .int .i64 e.train, .int .i64 e.n] 46)).alloc (.cells #[.int .i64 0, .bool false, .int .i64 0, .slice none 0 0] 34)) (w.heap.size + 1 + 1) [.int .i64 0, .bool false, .int .i64 0, .slice none 0 0] 34 := BlkIs.new3 w _ _ _ _
  have zW : (((w.alloc (.cells #[.bool k.ok, .int .i64 k.sec, .slice a n0 ca] 32)).alloc (.cells #[.int .i64 e.op, .int .i64 e.train, .int .i64 e.n] 46)).alloc (.cells #[.int .i64 0, .bool false, .int .i64 0, .slice none 0 0] 34)).heap.size = w.heap.size + 3 := by simp
  have T0 := b3 (.cells #[.bool k.ok, .int .i64 k.sec, .slice a n0 ca] 32) (.cells #[.int .i64 e.op, .int .i64 e.train, .int .i64 e.n] 46) (.cells #[.int .i64 0, .bool false, .int .i64 0, .slice none 0 0] 34)
  clear b3
  go_enter Tryd.func26, Tryd.ntmps26
  go_wp2_with fail
  generalize ((w.alloc (.cells #[.bool k.ok, .int .i64 k.sec, .slice a n0 ca] 32)).alloc (.cells #[.int .i64 e.op, .int .i64 e.train, .int .i64 e.n] 46)).alloc (.cells #[.int .i64 0, .bool false, .int .i64 0, .slice none 0 0] 34) = V at *
  refine (HE.out _ (hK.below T0 hK.lt)).mono ?_
  rintro r w1 ⟨⟨b, rfl, hb⟩, hb1⟩
  obtain rfl : b = true := hb.2 HY.out
  have T1 := T0.trans (hb1.mono T0.size)
  have b1 := bB.below hb1 bB.lt
  have e1 := eB.below hb1 eB.lt
  have r1 := rB.below hb1 rB.lt
  have z1 : w.heap.size + 3 ≤ w1.heap.size := by have := hb1.size; omega
  clear hb hb1 bB eB rB T0 zW HE
  obtain ⟨x0, x1, x2⟩ := b1.three
  go_wp2_with fail
  refine (HC.out _ (hK.below T1 hK.lt)).mono ?_
  rintro r w2 ⟨vl, VW, VG, DW, DG, rfl, hCp, hb2⟩
  have hnpos : 0 < k.lns.length := by omega
  obtain ⟨lb, cap, rfl, hlb, hkd, hnc, hcm, hcells⟩ := hCp.lines hnpos
  clear x0 x1 x2 HC
  obtain ⟨t, ht⟩ := Int.eq_ofNat_of_zero_le t0
  have HKd : Hid (0 ≤ (lnOf k.lns t).drop) := HKd0.out t ht
  clear HKd0
  have htn : t < k.lns.length := by omega
  have T2 := T1.trans (hb2.mono T1.size)
  have b2 := (b1.below hb2 b1.lt).alloc (.cells #[.bool k.ok, .int .i64 k.sec, .slice (some ⟨lb, 0, none⟩) k.lns.length cap] 32)
  have e2 := (e1.below hb2 e1.lt).alloc (.cells #[.bool k.ok, .int .i64 k.sec, .slice (some ⟨lb, 0, none⟩) k.lns.length cap] 32)
  have r2 := (r1.below hb2 r1.lt).alloc (.cells #[.bool k.ok, .int .i64 k.sec, .slice (some ⟨lb, 0, none⟩) k.lns.length cap] 32)
  have z2 : w1.heap.size ≤ w2.heap.size := hb2.size
  have al := (Below.refl w2.heap.size w2).alloc (Nat.le_refl _) (.cells #[.bool k.ok, .int .i64 k.sec, .slice (some ⟨lb, 0, none⟩) k.lns.length cap] 32)
  have kl := hkd.lt
  have St := CpInv.toDo (w := w) (e := e) (va := .slice a n0 ca) (O := w2.heap.size) (t := t) (hCp.below (by decide) (by decide) al) z1 hnc hcm htn (hkd.keep (al.block _ kl)) hlb (fun j hj => by rw [(bcell al).1 _ _ kl, (bcell al).1 _ _ kl, (bcell al).1 _ _ kl, (bcell al).1 _ _ kl]; exact hcells j hj) (T2.alloc T2.size _) b2 e2 r2 (BlkIs.new w2 _ _) (by omega)
  have hRW : RoomAt w2 (VW t) 1 3 w1.heap.size := (hCp.ints t htn).2
  have hRG : RoomAt w2 (VG t) 2 40 w1.heap.size := (hCp.grs t htn).2
  have HFW : Hid (∀ b, (VW t).ownBlock = some b → FarRow w2 w1.heap.size lb k.lns.length t b (fun j => DW j ++ DG j) (DG t)) := fun b hb => hCp.farW (by decide) (by decide) hkd htn hb
  have HFG : Hid (∀ b, (VG t).ownBlock = some b → FarRow w2 w1.heap.size lb k.lns.length t b (fun j => DW j ++ DG j) (DW t)) := fun b hb => hCp.farG (by decide) (by decide) hkd htn hb
  have hRWa := hRW.keep (w' := w2.alloc (.cells #[.bool k.ok, .int .i64 k.sec, .slice (some ⟨lb, 0, none⟩) k.lns.length cap] 32)) fun b hb _ => al.block b hb.lt
  have hRGa := hRG.keep (w' := w2.alloc (.cells #[.bool k.ok, .int .i64 k.sec, .slice (some ⟨lb, 0, none⟩) k.lns.length cap] 32)) fun b hb _ => al.block b hb.lt
  obtain ⟨aw, nw, cw, hvw⟩ := St.ints.slice
  obtain ⟨ag, ng, cg, hvg⟩ := St.grs.slice
  rw [hvw, hvg] at St
  have hL := HY.out.right
  have hlW := hL.way t htn
  have hlG := hL.grs t htn
  have hlD := hL.drop t htn
  have hdo : doLn k e = lineDo (ownedB k.lns e.n) (lnOf k.lns t) e.op e.n := by unfold doLn; rw [ht]; rfl
  have hbk : doBk k e = { k with lns := k.lns.set t (settleD (doLn k e).2) } := by unfold doBk; rw [ht]; rfl
  have HDo : Hid (doLn k e = lineDo (ownedB k.lns e.n) (lnOf k.lns t) e.op e.n) := hdo
  have HBk : Hid (doBk k e = { k with lns := k.lns.set t (settleD (doLn k e).2) }) := hbk
  have hlW' : WayOk k.sec (lnOf k.lns t) := hlW
  have hlG' : GrsOk (lnOf k.lns t) := hlG
  have hlD' : DropOk (lnOf k.lns t) := hlD
  have hng : ng = (lnOf k.lns t).grs.length := by obtain ⟨a', c', hv, _⟩ := St.grs; simp at hv; exact hv.2.1
  subst hng
  have htn' : (t : Int) < (k.lns.length : Int) := by omega
  clear hL hlW hlG hlD hdo hbk hcells hCp hkd T2 b2 e2 r2 al b1 e1 r1 T1 hb2
  generalize lnOf k.lns t = l at *
  generalize hNN : k.lns.length = n at *
  have HNN : Hid (k.lns.length = n) := hNN
  clear hNN
  have y := St.ev.three
  obtain ⟨y0, y1, y2⟩ := y
  have c0 := St.c0
  have c1 := St.c1
  have c2 := St.c2
  have c3 := St.c3
  have hW := hlW'
  have hG := hlG'
  have hD0 : 0 ≤ l.drop → l.gone ≤ l.drop := fun h => by
    rcases hlD' with h' | h'
    · omega
    · exact h'.lo
  have HW' : Hid (WayOk k.sec l) := hlW'
  have HG' : Hid (GrsOk l) := hlG'
  have hT1 : totD l ≤ 1000000 := hW.head.tot
  have hT0 : 0 ≤ totD l := by have := hW.head.lo; unfold totD; omega
  generalize hTd : totD l = T at *
  have HTd : Hid (totD l = T) := hTd
  have HT : Hid (∀ W, LnAt W (.agg #[.int .i64 l.gone, .slice aw nw cw, .slice ag l.grs.length cg, .int .i64 l.drop]) l (DW t ++ DG t) → Calls Tryd.prog 61 #[.agg #[.int .i64 l.gone, .slice aw nw cw, .slice ag l.grs.length cg, .int .i64 l.drop]] W fun e w' => e = .returned (.int .i64 T) ∧ Below W.heap.size W w') := fun W h => by
    have := l1total_any l _ _ W h hW.head.lo hW.head.hi hW.head.len
    rwa [hTd] at this
  have HM : Hid (∀ W, LnAt W (.agg #[.int .i64 l.gone, .slice aw nw cw, .slice ag l.grs.length cg, .int .i64 l.drop]) l (DW t ++ DG t) → Calls Tryd.prog 63 #[.agg #[.int .i64 l.gone, .slice aw nw cw, .slice ag l.grs.length cg, .int .i64 l.drop]] W fun e w' => e = .returned (.int .i64 (mostOf l.grs)) ∧ Below W.heap.size W w') := fun W h => l1most_any l _ _ W h
  clear hTd hlW' hlG' hG
  have hop := Hop.out
  clear Hop
  have p1 : (e.op == 1) = false := by simp [hop]
  have p2 : (e.op == 2) = true := by simp [hop]
  have p3 : (e.op == 3) = false := by simp [hop]
  have p4 : (e.op == 4) = false := by simp [hop]
  have p5 : (e.op == 5) = false := by simp [hop]
  rw [hvg] at hRG hRGa HFG
  obtain ⟨gb, hag⟩ := hRG.nonnil
  subst hag
  obtain ⟨m, hm⟩ : ∃ m, l.grs.length = m + 1 := ⟨l.grs.length - 1, by have := HG'.out.some; omega⟩
  have hlast : lastVer l = (l.grs[m]?.getD gr0).ver := by unfold lastVer; rw [hm]; rfl
  have tA : Hid (e.n < l.gone → doLn k e = (2, l)) := fun h => by rw [HDo.out, hop]; simp [lineDo, h]
  have tB : Hid (T < e.n → doLn k e = (2, l)) := fun h => by rw [HDo.out, hop]; simp [lineDo, HTd.out, h]
  have tC : Hid (0 ≤ l.drop → l.drop < e.n → doLn k e = (2, l)) := fun h a => by rw [HDo.out, hop]; simp [lineDo, h, a]
  have tD : Hid (l.gone ≤ e.n → e.n ≤ T → (l.drop < 0 ∨ e.n ≤ l.drop) → (l.grs.length = 20 ∨ lastVer l = 1000000) → doLn k e = (4, l)) := fun h1 h2 h3 h4 => by
    have e1 : ¬ (e.n < l.gone ∨ T < e.n ∨ (0 ≤ l.drop ∧ l.drop < e.n)) := by omega
    rw [HDo.out, hop]; simp only [lineDo, HTd.out]; rw [if_neg (by decide), if_pos True.intro, if_neg e1, if_pos h4]
  have tE : Hid (l.gone ≤ e.n → e.n ≤ T → (l.drop < 0 ∨ e.n ≤ l.drop) → ¬ l.grs.length = 20 → ¬ lastVer l = 1000000 → doLn k e = (0, { l with grs := l.grs ++ [⟨lastVer l + 1, e.n⟩] })) := fun h1 h2 h3 h4 h5 => by
    have e1 : ¬ (e.n < l.gone ∨ T < e.n ∨ (0 ≤ l.drop ∧ l.drop < e.n)) := by omega
    have e2 : ¬ (l.grs.length = 20 ∨ lastVer l = 1000000) := by omega
    rw [HDo.out, hop]; simp only [lineDo, HTd.out]; rw [if_neg (by decide), if_pos True.intro, if_neg e1, if_neg e2]
  clear hop
  rw [hlast] at tD tE
  have hv0 := (HG'.out.each m (by omega)).v0
  have hv1 := (HG'.out.each m (by omega)).v1
  have hcell : Hid (∀ W', GrsAt W' (.slice (some ⟨gb, 0, none⟩) l.grs.length cg) l.grs (DG t) → W'.cell? ⟨gb, m * 2, none⟩ = some (.int .i64 (l.grs[m]?.getD gr0).ver)) := fun W' h => by
    obtain ⟨a', c', hv, _, _, h⟩ := h
    simp only [Value.slice.injEq] at hv
    obtain ⟨rfl, _, _⟩ := hv
    rcases h with ⟨h0, _⟩ | ⟨b', o', he, _, _, hc⟩
    · omega
    · simp only [Option.some.injEq, Addr.mk.injEq, and_true] at he
      obtain ⟨rfl, rfl⟩ := he
      have := (hc m (by omega)).1
      rwa [Nat.zero_add] at this
  generalize hver : (l.grs[m]?.getD gr0).ver = ver at *
  clear hver hlast
  have hgl1 : (1 : Int) ≤ (l.grs.length : Int) := by omega
  have hgl2 : (l.grs.length : Int) ≤ 20 := by have := HG'.out.few; omega
  have Hmm : Hid (l.grs.length = m + 1) := hm
  clear hm
  go_wp2_with fail
  generalize w2.alloc (.cells #[.bool k.ok, .int .i64 k.sec, .slice (some ⟨lb, 0, none⟩) n cap] 32) = W at *
  clear y0 y1 y2 c0 c1 c2 c3
  have ne : Nonempty (Ext W.heap.size W) := ext_some
  have g0 := Ext.cell (B := W.heap.size) (w := W) St.lt St.c0
  have g1 := Ext.cell (B := W.heap.size) (w := W) St.lt St.c1
  have g2 := Ext.cell (B := W.heap.size) (w := W) St.lt St.c2
  have g3 := Ext.cell (B := W.heap.size) (w := W) St.lt St.c3
  have h0 := St.ev.ext (B := W.heap.size) St.ev.lt 0
  have h1 := St.ev.ext (B := W.heap.size) St.ev.lt 1
  have h2 := St.ev.ext (B := W.heap.size) St.ev.lt 2
  simp only [List.getElem?_cons_zero, List.getElem?_cons_succ] at h0 h1 h2
  have hLx : Hid (∀ x : Ext W.heap.size W, LnAt x.val (.agg #[.int .i64 l.gone, .slice aw nw cw, .slice (some ⟨gb, 0, none⟩) l.grs.length cg, .int .i64 l.drop]) l (DW t ++ DG t)) := LnAt.ext (B := W.heap.size) (w := W) (l := l) ⟨_, _, DW t, DG t, rfl, rfl, St.ints, St.grs⟩ St.cells.lt
  by_cases hA : e.n < l.gone
  · have HCode : Hid _ := tA.out hA
    refine wp_region_ext W.heap.size (by kernel_rfl) (by kernel_rfl) ?_
    repeat (go_big_quiet_step (first | (go_at_call 61; exact ext_of (Nat.le_refl _) _ (HT.out _ (hLx.out _)))))
    refine wpQuiet_nil ?_
    intro w3 hx
    have hbx := ext_below hx
    have St3 := St.ext hbx
    clear hx hbx ne g0 g1 g2 g3 h0 h1 h2 hLx 
    have y0 := St3.ev.cell 0
    have y1 := St3.ev.cell 1
    have y2 := St3.ev.cell 2
    simp only [List.getElem?_cons_zero, List.getElem?_cons_succ] at y0 y1 y2
    have c0 := St3.c0
    have c1 := St3.c1
    have c2 := St3.c2
    have c3 := St3.c3
    go_wp2_with fail
    refine (l2settle_any l lb (t * 4) _ _ St3.cells St3.free (fun h => (St3.dd _ h).1 rfl) hW.head.lo hW.head.hi hW.head.len hD0).mono ?_
    rintro r w9 ⟨rfl, ⟨d9, hl9, hs9⟩, ht9⟩
    obtain ⟨⟨bs9, hls9, hlo9⟩, rb9, ob9, T9⟩ := St3.done hl9 hs9 ht9
    rw [HNN.out] at hls9 ob9
    obtain ⟨u0, u1, u2, u3⟩ := rb9.four
    obtain ⟨v0, v1, v2⟩ := ob9.three
    have fr9 : ∀ x, w9.frozen? ⟨w.heap.size + 2, x, none⟩ = false := fun x => rb9.frozen x
    have HLs : Hid (LnsAt w9 (.slice (some ⟨lb, 0, none⟩) n cap) (doBk k e).lns bs9) := by
      show LnsAt w9 _ (doBk k e).lns bs9
      rw [HBk.out, HCode.out]; exact hls9
    clear hls9 hl9 hs9 ht9 c0 c1 c2 c3 y0 y1 y2
    go_wp2
    refine bodyPost_ret (v := .agg #[.int .i64 2, .bool k.ok, .int .i64 k.sec, .slice (some ⟨lb, 0, none⟩) n cap]) (by simp [results, Tryd.results26, go_sem, u0, u1, u2, u3]) rfl ⟨2, doBk k e, _, bs9, rfl, ⟨_, rfl, HLs.out.keep fun x hx => ?_⟩, Or.inr ⟨HY.out, by rw [HCode.out], rfl⟩, ?_, fun x hx => Nat.le_trans (Nat.le_add_right _ _) (hlo9 x hx)⟩
    · have hx9 : x ≠ w.heap.size + 2 := by have := hlo9 x hx; omega
      rw [Below.heap_setCell _ _ _ _ hx9, Below.heap_setCell _ _ _ _ hx9, Below.heap_setCell _ _ _ _ hx9, Below.heap_setCell _ _ _ _ hx9]
    · refine Below.setCell (Below.setCell (Below.setCell (Below.setCell ?_ (by simp <;> omega) _) (by simp <;> omega) _) (by simp <;> omega) _) (by simp <;> omega) _
      exact T9
  · by_cases hB : T < e.n
    · have HCode : Hid _ := tB.out hB
      refine wp_region_ext W.heap.size (by kernel_rfl) (by kernel_rfl) ?_
      repeat (go_big_quiet_step (first | (go_at_call 61; exact ext_of (Nat.le_refl _) _ (HT.out _ (hLx.out _)))))
      refine wpQuiet_nil ?_
      intro w3 hx
      have hbx := ext_below hx
      have St3 := St.ext hbx
      clear hx hbx ne g0 g1 g2 g3 h0 h1 h2 hLx 
      have y0 := St3.ev.cell 0
      have y1 := St3.ev.cell 1
      have y2 := St3.ev.cell 2
      simp only [List.getElem?_cons_zero, List.getElem?_cons_succ] at y0 y1 y2
      have c0 := St3.c0
      have c1 := St3.c1
      have c2 := St3.c2
      have c3 := St3.c3
      go_wp2_with fail
      refine (l2settle_any l lb (t * 4) _ _ St3.cells St3.free (fun h => (St3.dd _ h).1 rfl) hW.head.lo hW.head.hi hW.head.len hD0).mono ?_
      rintro r w9 ⟨rfl, ⟨d9, hl9, hs9⟩, ht9⟩
      obtain ⟨⟨bs9, hls9, hlo9⟩, rb9, ob9, T9⟩ := St3.done hl9 hs9 ht9
      rw [HNN.out] at hls9 ob9
      obtain ⟨u0, u1, u2, u3⟩ := rb9.four
      obtain ⟨v0, v1, v2⟩ := ob9.three
      have fr9 : ∀ x, w9.frozen? ⟨w.heap.size + 2, x, none⟩ = false := fun x => rb9.frozen x
      have HLs : Hid (LnsAt w9 (.slice (some ⟨lb, 0, none⟩) n cap) (doBk k e).lns bs9) := by
        show LnsAt w9 _ (doBk k e).lns bs9
        rw [HBk.out, HCode.out]; exact hls9
      clear hls9 hl9 hs9 ht9 c0 c1 c2 c3 y0 y1 y2
      go_wp2
      refine bodyPost_ret (v := .agg #[.int .i64 2, .bool k.ok, .int .i64 k.sec, .slice (some ⟨lb, 0, none⟩) n cap]) (by simp [results, Tryd.results26, go_sem, u0, u1, u2, u3]) rfl ⟨2, doBk k e, _, bs9, rfl, ⟨_, rfl, HLs.out.keep fun x hx => ?_⟩, Or.inr ⟨HY.out, by rw [HCode.out], rfl⟩, ?_, fun x hx => Nat.le_trans (Nat.le_add_right _ _) (hlo9 x hx)⟩
      · have hx9 : x ≠ w.heap.size + 2 := by have := hlo9 x hx; omega
        rw [Below.heap_setCell _ _ _ _ hx9, Below.heap_setCell _ _ _ _ hx9, Below.heap_setCell _ _ _ _ hx9, Below.heap_setCell _ _ _ _ hx9]
      · refine Below.setCell (Below.setCell (Below.setCell (Below.setCell ?_ (by simp <;> omega) _) (by simp <;> omega) _) (by simp <;> omega) _) (by simp <;> omega) _
        exact T9
    · have hB' : decide (T < e.n) = false := by simpa using hB
      by_cases hd : 0 ≤ l.drop
      · by_cases hd2 : l.drop < e.n
        · have HCode : Hid _ := tC.out hd hd2
          refine wp_region_ext W.heap.size (by kernel_rfl) (by kernel_rfl) ?_
          repeat (go_big_quiet_step (first | (go_at_call 61; exact ext_of (Nat.le_refl _) _ (HT.out _ (hLx.out _)))))
          refine wpQuiet_nil ?_
          intro w3 hx
          have hbx := ext_below hx
          have St3 := St.ext hbx
          clear hx hbx ne g0 g1 g2 g3 h0 h1 h2 hLx 
          have y0 := St3.ev.cell 0
          have y1 := St3.ev.cell 1
          have y2 := St3.ev.cell 2
          simp only [List.getElem?_cons_zero, List.getElem?_cons_succ] at y0 y1 y2
          have c0 := St3.c0
          have c1 := St3.c1
          have c2 := St3.c2
          have c3 := St3.c3
          go_wp2_with fail
          refine (l2settle_any l lb (t * 4) _ _ St3.cells St3.free (fun h => (St3.dd _ h).1 rfl) hW.head.lo hW.head.hi hW.head.len hD0).mono ?_
          rintro r w9 ⟨rfl, ⟨d9, hl9, hs9⟩, ht9⟩
          obtain ⟨⟨bs9, hls9, hlo9⟩, rb9, ob9, T9⟩ := St3.done hl9 hs9 ht9
          rw [HNN.out] at hls9 ob9
          obtain ⟨u0, u1, u2, u3⟩ := rb9.four
          obtain ⟨v0, v1, v2⟩ := ob9.three
          have fr9 : ∀ x, w9.frozen? ⟨w.heap.size + 2, x, none⟩ = false := fun x => rb9.frozen x
          have HLs : Hid (LnsAt w9 (.slice (some ⟨lb, 0, none⟩) n cap) (doBk k e).lns bs9) := by
            show LnsAt w9 _ (doBk k e).lns bs9
            rw [HBk.out, HCode.out]; exact hls9
          clear hls9 hl9 hs9 ht9 c0 c1 c2 c3 y0 y1 y2
          go_wp2
          refine bodyPost_ret (v := .agg #[.int .i64 2, .bool k.ok, .int .i64 k.sec, .slice (some ⟨lb, 0, none⟩) n cap]) (by simp [results, Tryd.results26, go_sem, u0, u1, u2, u3]) rfl ⟨2, doBk k e, _, bs9, rfl, ⟨_, rfl, HLs.out.keep fun x hx => ?_⟩, Or.inr ⟨HY.out, by rw [HCode.out], rfl⟩, ?_, fun x hx => Nat.le_trans (Nat.le_add_right _ _) (hlo9 x hx)⟩
          · have hx9 : x ≠ w.heap.size + 2 := by have := hlo9 x hx; omega
            rw [Below.heap_setCell _ _ _ _ hx9, Below.heap_setCell _ _ _ _ hx9, Below.heap_setCell _ _ _ _ hx9, Below.heap_setCell _ _ _ _ hx9]
          · refine Below.setCell (Below.setCell (Below.setCell (Below.setCell ?_ (by simp <;> omega) _) (by simp <;> omega) _) (by simp <;> omega) _) (by simp <;> omega) _
            exact T9
        · have hB' : decide (T < e.n) = false := by simpa using hB
          have hdf : decide (l.drop < e.n) = false := by simpa using hd2
          have HD : Hid (l.drop < 0 ∨ e.n ≤ l.drop) := Or.inr (by omega)
          refine wp_region_ext W.heap.size (by kernel_rfl) (by kernel_rfl) ?_
          repeat (go_big_quiet_step (first | (go_at_call 61; exact ext_of (Nat.le_refl _) _ (HT.out _ (hLx.out _)))))
          refine wpQuiet_nil ?_
          intro w3 hx
          have hbx := ext_below hx
          have St3 := St.ext hbx
          have hRG3 := hRGa.keep fun b hb _ => hbx.block b hb.lt
          clear hx hbx ne g0 g1 g2 g3 h0 h1 h2 hLx 
          have y0 := St3.ev.cell 0
          have y1 := St3.ev.cell 1
          have y2 := St3.ev.cell 2
          simp only [List.getElem?_cons_zero, List.getElem?_cons_succ] at y0 y1 y2
          have c0 := St3.c0
          have c1 := St3.c1
          have c2 := St3.c2
          have c3 := St3.c3
          have hmi : (l.grs.length : Int) - 1 = (m : Int) := by have := Hmm.out; omega
          have hml : (m : Int) < (l.grs.length : Int) := by have := Hmm.out; omega
          have hcv := hcell.out _ St3.grs
          by_cases hE : l.grs.length = 20
          · have HCode : Hid _ := tD.out (by omega) (by omega) HD.out (Or.inl hE)
            have hE' : ((l.grs.length : Int) == 20) = true := by simp [hE]
            clear hE hmi hml
            go_wp2_with fail
            refine (l2settle_any l lb (t * 4) _ _ St3.cells St3.free (fun h => (St3.dd _ h).1 rfl) hW.head.lo hW.head.hi hW.head.len hD0).mono ?_
            rintro r w9 ⟨rfl, ⟨d9, hl9, hs9⟩, ht9⟩
            obtain ⟨⟨bs9, hls9, hlo9⟩, rb9, ob9, T9⟩ := St3.done hl9 hs9 ht9
            rw [HNN.out] at hls9 ob9
            obtain ⟨u0, u1, u2, u3⟩ := rb9.four
            obtain ⟨v0, v1, v2⟩ := ob9.three
            have fr9 : ∀ x, w9.frozen? ⟨w.heap.size + 2, x, none⟩ = false := fun x => rb9.frozen x
            have HLs : Hid (LnsAt w9 (.slice (some ⟨lb, 0, none⟩) n cap) (doBk k e).lns bs9) := by
              show LnsAt w9 _ (doBk k e).lns bs9
              rw [HBk.out, HCode.out]; exact hls9
            clear hls9 hl9 hs9 ht9 c0 c1 c2 c3 y0 y1 y2
            go_wp2
            refine bodyPost_ret (v := .agg #[.int .i64 4, .bool k.ok, .int .i64 k.sec, .slice (some ⟨lb, 0, none⟩) n cap]) (by simp [results, Tryd.results26, go_sem, u0, u1, u2, u3]) rfl ⟨4, doBk k e, _, bs9, rfl, ⟨_, rfl, HLs.out.keep fun x hx => ?_⟩, Or.inr ⟨HY.out, by rw [HCode.out], rfl⟩, ?_, fun x hx => Nat.le_trans (Nat.le_add_right _ _) (hlo9 x hx)⟩
            · have hx9 : x ≠ w.heap.size + 2 := by have := hlo9 x hx; omega
              rw [Below.heap_setCell _ _ _ _ hx9, Below.heap_setCell _ _ _ _ hx9, Below.heap_setCell _ _ _ _ hx9, Below.heap_setCell _ _ _ _ hx9]
            · refine Below.setCell (Below.setCell (Below.setCell (Below.setCell ?_ (by simp <;> omega) _) (by simp <;> omega) _) (by simp <;> omega) _) (by simp <;> omega) _
              exact T9
          · have HnE : Hid (¬ l.grs.length = 20) := hE
            have hE' : ((l.grs.length : Int) == 20) = false := by simp; omega
            clear hE
            by_cases hF : ver = 1000000
            · have HCode : Hid _ := tD.out (by omega) (by omega) HD.out (Or.inr hF)
              have hF' : (ver == 1000000) = true := by simp [hF]
              clear hF
              go_wp2_with fail
              refine (l2settle_any l lb (t * 4) _ _ St3.cells St3.free (fun h => (St3.dd _ h).1 rfl) hW.head.lo hW.head.hi hW.head.len hD0).mono ?_
              rintro r w9 ⟨rfl, ⟨d9, hl9, hs9⟩, ht9⟩
              obtain ⟨⟨bs9, hls9, hlo9⟩, rb9, ob9, T9⟩ := St3.done hl9 hs9 ht9
              rw [HNN.out] at hls9 ob9
              obtain ⟨u0, u1, u2, u3⟩ := rb9.four
              obtain ⟨v0, v1, v2⟩ := ob9.three
              have fr9 : ∀ x, w9.frozen? ⟨w.heap.size + 2, x, none⟩ = false := fun x => rb9.frozen x
              have HLs : Hid (LnsAt w9 (.slice (some ⟨lb, 0, none⟩) n cap) (doBk k e).lns bs9) := by
                show LnsAt w9 _ (doBk k e).lns bs9
                rw [HBk.out, HCode.out]; exact hls9
              clear hls9 hl9 hs9 ht9 c0 c1 c2 c3 y0 y1 y2
              go_wp2
              refine bodyPost_ret (v := .agg #[.int .i64 4, .bool k.ok, .int .i64 k.sec, .slice (some ⟨lb, 0, none⟩) n cap]) (by simp [results, Tryd.results26, go_sem, u0, u1, u2, u3]) rfl ⟨4, doBk k e, _, bs9, rfl, ⟨_, rfl, HLs.out.keep fun x hx => ?_⟩, Or.inr ⟨HY.out, by rw [HCode.out], rfl⟩, ?_, fun x hx => Nat.le_trans (Nat.le_add_right _ _) (hlo9 x hx)⟩
              · have hx9 : x ≠ w.heap.size + 2 := by have := hlo9 x hx; omega
                rw [Below.heap_setCell _ _ _ _ hx9, Below.heap_setCell _ _ _ _ hx9, Below.heap_setCell _ _ _ _ hx9, Below.heap_setCell _ _ _ _ hx9]
              · refine Below.setCell (Below.setCell (Below.setCell (Below.setCell ?_ (by simp <;> omega) _) (by simp <;> omega) _) (by simp <;> omega) _) (by simp <;> omega) _
                exact T9
            · have HCode : Hid _ := tE.out (by omega) (by omega) HD.out HnE.out hF
              have hF' : (ver == 1000000) = false := by simp [hF]
              clear hF
              obtain ⟨iG, hiG, hzG0, hzG1, hzG2⟩ := info_parts Tryd.infoGrant
              have hRow := row_grs hRG3 St3.grs
              have HFg : Hid _ := HFG.out gb rfl
              have hz4 : w1.heap.size ≤ w3.heap.size ∧ gb < w3.heap.size ∧ lb < w3.heap.size ∧ w.heap.size + 1 < w3.heap.size := by have h1 := World.block_lt_of_cell? _ _ hcv; have h2 := HFg.out.lo; exact ⟨by simp at h1; omega, h1, St3.lt, St3.ev.lt⟩
              obtain ⟨hz4a, hz4b, hz4c, hz4d⟩ := hz4
              have hne1 : ¬ lb = gb := fun h => HFg.out.ne h.symm
              have hne2 : ¬ w.heap.size + 1 = gb := by have := HFg.out.lo; omega
              have hca : (w3.alloc (.cells #[.int .i64 (IntKind.i64.wrap (ver + 1)), .int .i64 e.n] 40)).drew.cell? ⟨lb, t * 4 + 2, none⟩ = some (.slice (some ⟨gb, 0, none⟩) l.grs.length cg) := (World.cell?_of_block (a := ⟨lb, t * 4 + 2, none⟩) (Below.heap_alloc _ _ _ St3.lt)).trans St3.c2
              have hfa : (w3.alloc (.cells #[.int .i64 (IntKind.i64.wrap (ver + 1)), .int .i64 e.n] 40)).drew.frozen? ⟨lb, t * 4 + 2, none⟩ = false := (World.frozen?_of_block (a := ⟨lb, t * 4 + 2, none⟩) (Below.heap_alloc _ _ _ St3.lt)).trans (St3.free (t * 4 + 2))
              go_wp2_with fail
              clear hmi hml
              have Hw1 : Hid (IntKind.i64.wrap (ver + 1) = ver + 1) := by show _ = _; rw [IntKind.wrap_i64]; omega
              have hwe : IntKind.i64.wrap ((l.grs.length : Int) - 1) = (m : Int) := by have := Hmm.out; rw [IntKind.wrap_i64]; omega
              have hwr1 : 0 ≤ IntKind.i64.wrap ((l.grs.length : Int) - 1) := by rw [hwe]; omega
              have hwr2 : IntKind.i64.wrap ((l.grs.length : Int) - 1) < (l.grs.length : Int) := by rw [hwe]; have := Hmm.out; omega
              have hcv3 : w3.cell? ⟨gb, (IntKind.i64.wrap ((l.grs.length : Int) - 1)).toNat * 2, none⟩ = some (.int .i64 ver) := by rw [hwe, Int.toNat_natCast]; exact hcv
              clear hwe
              go_region_law
                ((refine step_append_lies _ (by rfl) _ _ _ (by rfl) w1.heap.size 40 iG _ 2 16 Tryd.underlying36 hiG hzG0 hzG1 hzG2 rfl (by omega) (.slice (some ⟨gb, 0, none⟩) l.grs.length cg) l.grs.length (grCells l.grs) (by rfl) (by first | exact hRow.alloc _ | exact (hRow.alloc _).drew)
                    ⟨w3.heap.size, 0, none⟩ 1 1 [.int .i64 (IntKind.i64.wrap (ver + 1)), .int .i64 e.n] (by rfl) (by rfl) (World.news_of_block (cs := #[.int .i64 (IntKind.i64.wrap (ver + 1)), .int .i64 e.n]) (t := 40) (fr := (0, 0)) (heap_alloc_new w3 _)) (by simp [Value.oneCell'])
                    (by omega) (by unfold maxLen; omega) (by omega) (by simp; omega) (w3.heap.size + 1) (by simp) ?_; intro gg cap2 w5 hown1 hgrow hat hlt; have f5 : w5.frozen? ⟨lb, t * 4 + 2, none⟩ = false := (by rw [hgrow.frozen_far _ (by simp; omega) (by simp [Value.ownBlock]; omega)]; exact hfa); have c5 : w5.cell? ⟨lb, t * 4 + 2, none⟩ = some (.slice (some ⟨gb, 0, none⟩) l.grs.length cg) := (by rw [hgrow.cell_far _ (by simp; omega) (by simp [Value.ownBlock]; omega)]; exact hca)))
              all_goals (
                rw [Hw1.out] at hown1
                have hgr : w3.grownBy w5 (some gb) := ⟨hgrow.os, hgrow.tape, hgrow.output, Nat.le_trans (by simp) hgrow.size, fun q hq hne => (hgrow.block q (by simp; omega) hne).trans (Below.heap_alloc _ _ _ hq)⟩
                have hgg : gg ≠ lb ∧ w.heap.size + 3 ≤ gg := by
                  rcases hat with hat | hat
                  · obtain rfl : gb = gg := Option.some.inj hat
                    have h2 := HFg.out.lo
                    exact ⟨HFg.out.ne, by omega⟩
                  · omega
                have hown2 := own_grs (gs := l.grs ++ [⟨ver + 1, e.n⟩]) (v := .slice (some ⟨gg, 0, none⟩) (l.grs.length + 1) cap2) (T := 40) (B := w1.heap.size) (w := w5) (by simpa [grCells] using hown1) (by simp)
                have hg5 := hown2.1
                have hi5 : IntsAt w5 (.slice aw nw cw) l.way (DW t) := St3.ints.keep fun x hx => hgr.block x (St3.ints.lt x hx) fun h => HFg.out.own (by rw [← Option.some.inj h]; exact hx)
                have hd5 : ∀ x ∈ DW t ++ ownBs (.slice (some ⟨gg, 0, none⟩) (l.grs.length + 1) cap2) (l.grs ++ [(⟨ver + 1, e.n⟩ : Gr)]).length, x ≠ lb ∧ w.heap.size + 3 ≤ x := fun x hx => by
                  rcases List.mem_append.1 hx with hx | hx
                  · exact St3.dd x (List.mem_append_left _ hx)
                  · have : x = gg := by simpa [ownBs] using hx
                    subst this; exact hgg
                have St5 := St3.after (r := 2) (u := .slice (some ⟨gg, 0, none⟩) (l.grs.length + 1) cap2) (l' := { l with grs := l.grs ++ [⟨ver + 1, e.n⟩] }) hgr HFg.out.ne (by have := HFg.out.hi; omega) (by have := HFg.out.lo; omega) (fun j hj hn => HFg.out.off j (by rw [← HNN.out]; exact hj) hn) (by omega) (by simp) (by simp) (by simp) (by simp) hi5 hg5 hd5
                clear hown1 hown2 hgrow hat hi5 hg5 hd5 hgr f5 c5 hca hfa
                go_wp2_with fail
                refine (l2settle_any ({ l with grs := l.grs ++ [⟨ver + 1, e.n⟩] } : Ln) lb (t * 4) _ _ St5.cells St5.free (fun h => (St5.dd _ h).1 rfl) hW.head.lo hW.head.hi hW.head.len hD0).mono ?_
                rintro r w9 ⟨rfl, ⟨d9, hl9, hs9⟩, ht9⟩
                obtain ⟨⟨bs9, hls9, hlo9⟩, rb9, ob9, T9⟩ := St5.done hl9 hs9 ht9
                rw [HNN.out] at hls9 ob9
                obtain ⟨u0, u1, u2, u3⟩ := rb9.four
                obtain ⟨v0, v1, v2⟩ := ob9.three
                have fr9 : ∀ x, w9.frozen? ⟨w.heap.size + 2, x, none⟩ = false := fun x => rb9.frozen x
                have HLs : Hid (LnsAt w9 (.slice (some ⟨lb, 0, none⟩) n cap) (doBk k e).lns bs9) := by
                  show LnsAt w9 _ (doBk k e).lns bs9
                  rw [HBk.out, HCode.out]; exact hls9
                clear hls9 hl9 hs9 ht9 c0 c1 c2 c3 y0 y1 y2
                go_wp2
                refine bodyPost_ret (v := .agg #[.int .i64 0, .bool k.ok, .int .i64 k.sec, .slice (some ⟨lb, 0, none⟩) n cap]) (by simp [results, Tryd.results26, go_sem, u0, u1, u2, u3]) rfl ⟨0, doBk k e, _, bs9, rfl, ⟨_, rfl, HLs.out.keep fun x hx => ?_⟩, Or.inr ⟨HY.out, by rw [HCode.out], rfl⟩, ?_, fun x hx => Nat.le_trans (Nat.le_add_right _ _) (hlo9 x hx)⟩
                · have hx9 : x ≠ w.heap.size + 2 := by have := hlo9 x hx; omega
                  rw [Below.heap_setCell _ _ _ _ hx9, Below.heap_setCell _ _ _ _ hx9, Below.heap_setCell _ _ _ _ hx9, Below.heap_setCell _ _ _ _ hx9]
                · refine Below.setCell (Below.setCell (Below.setCell (Below.setCell ?_ (by simp <;> omega) _) (by simp <;> omega) _) (by simp <;> omega) _) (by simp <;> omega) _
                  exact T9)
      · exact absurd HKd.out hd

end Go.Proofs.YtnaaheddhgpnoaaDoor
