import Derived.Test.YtnaaheddhgpnoaaDoorKind
import Derived.Test.YtnaaheddhgpnoaaDoorCpB
import Derived.Test.YtnaaheddhgpnoaaDoorBeh5
import Derived.Test.YtnaaheddhgpnoaaDoorChg2
namespace Go.Proofs.YtnaaheddhgpnoaaDoor
open Go.ChangeShapes Go.WideShapes Go.ChangeAt Go.RowKit

set_option maxHeartbeats 4000000 in
set_option maxRecDepth 100000 in
theorem behind_2 (k : Bk) (e : Ev) (v : Value) (bs : List Nat) (w : World) (a0 a1 a2 : Addr) (h : BkAt w v k bs) (he : Errs w a0 a1 a2) (hyes : EvOk k e) (hop : e.op = 2) (h4 : (doLn k e).1 ≠ 4) :
    Calls Tryd.prog 38 #[v, .agg #[.int .i64 e.op, .int .i64 e.train, .int .i64 e.n]] w fun r w' => RetBeh w k e a0 a1 a2 r w' := by
  obtain ⟨op, train, n⟩ := e
  obtain ⟨t, ht⟩ := Int.eq_ofNat_of_zero_le hyes.t0
  simp only at ht hop
  subst ht hop
  have hK := h
  have HE : Hid (∀ W, Below w.heap.size w W → Errs W a0 a1 a2) := fun W hw => he.below hw he.lt
  obtain ⟨vl, rfl, hLs⟩ := h
  obtain ⟨a, nn, ca, rfl⟩ := hLs.slice
  have HY : Hid (EvOk k ⟨2, (t : Int), n⟩) := hyes
  have bA : Below w.heap.size w (((w.alloc (.cells #[.bool k.ok, .int .i64 k.sec, .slice a nn ca] 32)).alloc (.cells #[.int .i64 2, .int .i64 (t : Int), .int .i64 n] 46)).alloc (.cells #[.bool false, .int .i64 0, .slice none 0 0] 32)) := below3 w _ _ _
  have eB : BlkIs (((w.alloc (.cells #[.bool k.ok, .int .i64 k.sec, .slice a nn ca] 32)).alloc (.cells #[.int .i64 2, .int .i64 (t : Int), .int .i64 n] 46)).alloc (.cells #[.bool false, .int .i64 0, .slice none 0 0] 32)) w.heap.size [.bool k.ok, .int .i64 k.sec, .slice a nn ca] 32 := ((BlkIs.new _ _ _).alloc _).alloc _
  have eE : BlkIs (((w.alloc (.cells #[.bool k.ok, .int .i64 k.sec, .slice a nn ca] 32)).alloc (.cells #[.int .i64 2, .int .i64 (t : Int), .int .i64 n] 46)).alloc (.cells #[.bool false, .int .i64 0, .slice none 0 0] 32)) (w.heap.size + 1) [.int .i64 2, .int .i64 (t : Int), .int .i64 n] 46 := (BlkIs.new2 _ _ _ _).alloc _
  have eR : BlkIs (((w.alloc (.cells #[.bool k.ok, .int .i64 k.sec, .slice a nn ca] 32)).alloc (.cells #[.int .i64 2, .int .i64 (t : Int), .int .i64 n] 46)).alloc (.cells #[.bool false, .int .i64 0, .slice none 0 0] 32)) (w.heap.size + 1 + 1) [.bool false, .int .i64 0, .slice none 0 0] 32 := BlkIs.new3 _ _ _ _ _
  have hAz : (((w.alloc (.cells #[.bool k.ok, .int .i64 k.sec, .slice a nn ca] 32)).alloc (.cells #[.int .i64 2, .int .i64 (t : Int), .int .i64 n] 46)).alloc (.cells #[.bool false, .int .i64 0, .slice none 0 0] 32)).heap.size = w.heap.size + 3 := by simp
  have htn : t < k.lns.length := by have := hyes.t1; simp only at this; omega
  have hn20 : k.lns.length ≤ 20 := hyes.right.frame.few
  have HWs : Hid (∀ j, j < k.lns.length → (lnOf k.lns j).way.length ≤ 1048576 ∧ (lnOf k.lns j).grs.length ≤ 1048576) := fun j hj => ⟨by have := (hyes.right.way j hj).head.len; unfold lnOf; omega, by have := (hyes.right.grs j hj).few; unfold lnOf; omega⟩
  clear hyes he hLs
  go_enter Tryd.func38, Tryd.ntmps38
  go_wp2_with fail
  generalize (((w.alloc (.cells #[.bool k.ok, .int .i64 k.sec, .slice a nn ca] 32)).alloc (.cells #[.int .i64 2, .int .i64 (t : Int), .int .i64 n] 46)).alloc (.cells #[.bool false, .int .i64 0, .slice none 0 0] 32)) = A at *
  refine (implEventOk_any k ⟨2, (t : Int), n⟩ _ bs _ (hK.below bA hK.lt)).mono ?_
  rintro _ w1 ⟨⟨c, rfl, hc⟩, hb1⟩
  obtain rfl : c = true := hc.2 HY.out
  have b1 := bA.trans (hb1.mono bA.size)
  have eB1 := eB.below hb1 eB.lt
  have eE1 := eE.below hb1 eE.lt
  have eR1 := eR.below hb1 eR.lt
  have z1 := hb1.size
  clear hc hb1 eB eE eR bA
  obtain ⟨x0, x1, x2⟩ := eB1.three
  go_wp2_with fail
  refine (copied_any k _ bs _ (hK.below b1 hK.lt) (by omega) hn20 HWs.out).mono ?_
  rintro _ w2 ⟨lb, cap, VW, VG, rfl, hJ, hb2⟩
  have b2 := b1.trans (hb2.mono b1.size)
  have eB2 := eB1.below hb2 eB1.lt
  have eE2 := eE1.below hb2 eE1.lt
  have eR2 := eR1.below hb2 eR1.lt
  have z2 := hb2.size
  have hlo := hJ.lo
  clear eB1 eE1 eR1 hb2 x0 x1 x2 b1
  obtain ⟨x0, x1, x2⟩ := eB2.three
  obtain ⟨y0, y1, y2⟩ := eE2.three
  have bF : Below w2.heap.size w2 (w2.alloc (.cells #[.bool k.ok, .int .i64 k.sec, .slice (some ⟨lb, 0, none⟩) k.lns.length cap] 32)) := (Below.refl _ _).alloc (Nat.le_refl _) _
  have eF : BlkIs (w2.alloc (.cells #[.bool k.ok, .int .i64 k.sec, .slice (some ⟨lb, 0, none⟩) k.lns.length cap] 32)) w2.heap.size [.bool k.ok, .int .i64 k.sec, .slice (some ⟨lb, 0, none⟩) k.lns.length cap] 32 := BlkIs.new _ _ _
  have hFz : (w2.alloc (.cells #[.bool k.ok, .int .i64 k.sec, .slice (some ⟨lb, 0, none⟩) k.lns.length cap] 32)).heap.size = w2.heap.size + 1 := by simp
  go_wp2_with fail
  clear x0 x1 x2 y0 y1 y2
  generalize (w2.alloc (.cells #[.bool k.ok, .int .i64 k.sec, .slice (some ⟨lb, 0, none⟩) k.lns.length cap] 32)) = F at *
  have JF := hJ.below bF
  have hlbw2 : lb < w2.heap.size := hJ.kind.lt
  have b3 := b2.trans (bF.mono b2.size)
  have eB3 := eB2.below bF eB2.lt
  have eE3 := eE2.below bF eE2.lt
  have eR3 := eR2.below bF eR2.lt
  have htl : (t : Int) < (k.lns.length : Int) := by omega
  have HFz : Hid (F.heap.size = w2.heap.size + 1) := hFz
  clear hFz
  clear hJ eB2 eE2 eR2 b2
  have ne : Nonempty (Ext F.heap.size F) := ext_some
  have u0 := eE3.ext (B := F.heap.size) eE3.lt 0
  have u1 := eE3.ext (B := F.heap.size) eE3.lt 1
  have u2 := eE3.ext (B := F.heap.size) eE3.lt 2
  have u3 := eF.ext (B := F.heap.size) eF.lt 2
  simp only [List.getElem?_cons_zero, List.getElem?_cons_succ] at u0 u1 u2 u3
  refine wp_region_ext F.heap.size (by kernel_rfl) (by kernel_rfl) ?_
  repeat (go_big_quiet_step (first | (go_at_call 71; exact ext_of (Nat.le_refl _) _ (kindOf_2 ⟨2, (t : Int), n⟩ _ rfl))))
  refine wpQuiet_nil ?_
  intro w3 hx3
  have hb3 := ext_below hx3
  clear hx3 u0 u1 u2 u3 ne
  have b4 := b3.trans (hb3.mono b3.size)
  have J3 := JF.below hb3
  have eB4 := eB3.below hb3 eB3.lt
  have eR4 := eR3.below hb3 eR3.lt
  have eF4 := eF.below hb3 eF.lt
  clear JF eB3 eE3 eR3 eF hb3 b3
  obtain ⟨c0, c1, c2, c3⟩ := J3.cells t htn
  have hiw := own_intsN (J3.ints t htn)
  have hgw := own_grsN (J3.grs t htn)
  obtain ⟨aw, nw, cw, hvw⟩ := hiw.slice
  obtain ⟨ag, ng, cg, hvg⟩ := hgw.slice
  rw [hvw] at c1 hiw
  rw [hvg] at c2 hgw
  have HVW : Hid (VW t = .slice aw nw cw) := hvw
  have HVG : Hid (VG t = .slice ag ng cg) := hvg
  have HRt : Hid (Right k) := HY.out.right
  have hWt : WayOk k.sec (lnOf k.lns t) := HRt.out.way t htn
  have hGt : GrsOk (lnOf k.lns t) := HRt.out.grs t htn
  have hDt : DropOk (lnOf k.lns t) := HRt.out.drop t htn
  have H4 : Hid ((doLn k ⟨2, (t : Int), n⟩).1 ≠ 4) := h4
  clear h4
  have HDo : Hid (doLn k ⟨2, (t : Int), n⟩ = lineDo (ownedB k.lns n) (lnOf k.lns t) 2 n) := rfl
  generalize hl : lnOf k.lns t = l at *
  have HLt : Hid (lnOf k.lns t = l) := hl
  have HW : Hid (WayOk k.sec l) := hWt
  have HG : Hid (GrsOk l) := hGt
  have HD : Hid (DropOk l) := hDt
  clear hl hvw hvg hWt hGt hDt
  have lb3 : lb < w3.heap.size := J3.kind.lt
  have HK3 : Hid (BkAt w3 (.agg #[.bool k.ok, .int .i64 k.sec, .slice a nn ca]) k bs) := hK.below b4 hK.lt
  have HL3 : Hid (LnAt w3 (.agg #[.int .i64 l.gone, .slice aw nw cw, .slice ag ng cg, .int .i64 l.drop]) l (ownBs (.slice aw nw cw) l.way.length ++ ownBs (.slice ag ng cg) l.grs.length)) := ⟨_, _, _, _, rfl, rfl, hiw, hgw⟩
  have hmf : ∀ (fn : Fn) (first cp : Array Value) (x : World), (Instr.makeFunc fn first cp).run Tryd.prog x = .ok (.func fn first cp) x := fun _ _ _ _ => rfl
  have hMe : ∀ (u : Value) (x : World), (Go.method 366 148 u "loop.example/tether/impl.refusal").run Tryd.prog x = .ok (163, u) x := fun _ _ => by kernel_rfl
  have hNa : ∀ x : World, (nilAhead 366 148 (.agg #[.int .i64 n]) "loop.example/tether/impl.refusal").run Tryd.prog x = .ok (some false) x := fun _ => by kernel_rfl
  have ne : Nonempty (Ext w3.heap.size w3) := ext_some
  have u0 := eB4.ext (B := w3.heap.size) eB4.lt 0
  have u1 := eB4.ext (B := w3.heap.size) eB4.lt 1
  have u2 := eB4.ext (B := w3.heap.size) eB4.lt 2
  simp only [List.getElem?_cons_zero, List.getElem?_cons_succ] at u0 u1 u2
  have v0 := Ext.cell (B := w3.heap.size) (w := w3) lb3 c0
  have v1 := Ext.cell (B := w3.heap.size) (w := w3) lb3 c1
  have v2 := Ext.cell (B := w3.heap.size) (w := w3) lb3 c2
  have v3 := Ext.cell (B := w3.heap.size) (w := w3) lb3 c3
  have HEx : Hid (∀ x : Ext w3.heap.size w3, Errs x.val a0 a1 a2) := fun x => HE.out _ (b4.trans (x.prop.mono b4.size))
  have HKx : Hid (∀ x : Ext w3.heap.size w3, BkAt x.val (.agg #[.bool k.ok, .int .i64 k.sec, .slice a nn ca]) k bs) := fun x => HK3.out.below x.prop HK3.out.lt
  have HLx : Hid (∀ x : Ext w3.heap.size w3, LnAt x.val (.agg #[.int .i64 l.gone, .slice aw nw cw, .slice ag ng cg, .int .i64 l.drop]) l (ownBs (.slice aw nw cw) l.way.length ++ ownBs (.slice ag ng cg) l.grs.length)) := fun x => HL3.out.below x.prop HL3.out.lt
  clear c0 c1 c2 c3 hiw hgw
  go_wp2_with fail
  refine wp_region_ext w3.heap.size (by kernel_rfl) (by kernel_rfl) ?_
  repeat (go_big_quiet_step (first | (go_at_call 163; exact ext_of (Nat.le_refl _) _ (refusal2 k l n _ _ bs _ _ a0 a1 a2 (HKx.out _) (HLx.out _) (HEx.out _) HW.out HG.out HD.out (by rw [← HDo.out]; exact H4.out)))))
  refine wpQuiet_nil ?_
  intro w4 hx4
  have hb4 := ext_below hx4
  clear hx4 u0 u1 u2 v0 v1 v2 v3 ne HEx HKx HLx hmf hMe hNa
  have b5 := b4.trans (hb4.mono b4.size)
  have J4 := J3.below hb4
  have eR5 := eR4.below hb4 eR4.lt
  have eF5 := eF4.below hb4 eF4.lt
  clear J3 eB4 eR4 eF4 hb4 b4
  have tS : Hid ((lineDo (ownedB k.lns n) l 2 n).1 ≠ 0 → (doBk k ⟨2, (t : Int), n⟩).lns = k.lns.set t (lnOf k.lns t)) := fun hne => by
    show k.lns.set (t : Int).toNat (settleD (doLn k ⟨2, (t : Int), n⟩).2) = _
    rw [HDo.out, lineDo_same hne, settle_right HD.out, HLt.out]; rfl
  have t0 : Hid ((lineDo (ownedB k.lns n) l 2 n).1 = 0 → (l.grs.length < 20 ∧ (l.drop = -1 ∨ l.gone ≤ l.drop)) ∧ (doBk k ⟨2, (t : Int), n⟩).lns = k.lns.set t (settleD { l with grs := l.grs ++ [⟨lastVer l + 1, n⟩] })) := fun h0 => by
    have hx : ¬ (n < l.gone ∨ totD l < n ∨ (0 ≤ l.drop ∧ l.drop < n)) := fun hh => by simp [lineDo, hh] at h0
    have hy : ¬ (l.grs.length = 20 ∨ lastVer l = 1000000) := fun hh => by simp only [lineDo] at h0; rw [if_neg (by decide), if_pos trivial, if_neg hx, if_pos hh] at h0; simp at h0
    have hf := HG.out.few
    refine ⟨⟨by omega, HD.out.imp id fun h => h.lo⟩, ?_⟩
    show k.lns.set (t : Int).toNat (settleD (doLn k ⟨2, (t : Int), n⟩).2) = _
    rw [HDo.out]; simp only [lineDo]; rw [if_neg (by decide), if_pos trivial, if_neg hx, if_neg hy]; rfl
  have hcc : (lineDo (ownedB k.lns n) l 2 n).1 = 0 ∨ (lineDo (ownedB k.lns n) l 2 n).1 = 2 := by
    have h4 := H4.out
    rw [HDo.out] at h4
    simp only [lineDo] at h4 ⊢
    (repeat' split) <;> simp_all
  have HFin : Hid (∀ W vl bs', LnsAt W vl (doBk k ⟨2, (t : Int), n⟩).lns bs' → (∀ x ∈ bs', w1.heap.size ≤ x) → Below w.heap.size w W → ∀ u0 u1 u2, RetBeh w k ⟨2, (t : Int), n⟩ a0 a1 a2 (.returned (.tuple #[.agg #[.bool k.ok, .int .i64 k.sec, vl], errV a0 a1 a2 (lineDo (ownedB k.lns n) l 2 n).1])) (((W.setCell ⟨w.heap.size + 1 + 1, 0, none⟩ u0).setCell ⟨w.heap.size + 1 + 1, 1, none⟩ u1).setCell ⟨w.heap.size + 1 + 1, 2, none⟩ u2)) := fun W vl bs' h1 h2 h3 u0 u1 u2 => ⟨vl, bs', by rw [HDo.out], h1.keep fun x hx => by
      have hx2 := h2 x hx
      have hne : x ≠ w.heap.size + 1 + 1 := by omega
      rw [Below.heap_setCell _ _ _ _ hne, Below.heap_setCell _ _ _ _ hne, Below.heap_setCell _ _ _ _ hne], ((h3.setCell (by simp; omega) _).setCell (by simp; omega) _).setCell (by simp; omega) _, fun x hx => by have := h2 x hx; omega⟩
  generalize hcg : (lineDo (ownedB k.lns n) l 2 n).1 = c at *
  have HC : Hid ((lineDo (ownedB k.lns n) l 2 n).1 = c) := hcg
  clear hcg
  obtain ⟨f0, f1, f2⟩ := eF5.three
  obtain ⟨r0, r1, r2⟩ := eR5.three
  have rf : ∀ x, w4.frozen? ⟨w.heap.size + 1 + 1, x, none⟩ = false := fun x => eR5.frozen x
  rcases hcc with rfl | rfl
  · rw [show errV a0 a1 a2 0 = .nilIface from rfl]
    obtain ⟨hgn, hln0⟩ := t0.out rfl
    have HLn : Hid ((doBk k ⟨2, (t : Int), n⟩).lns = k.lns.set t (settleD { l with grs := l.grs ++ [⟨lastVer l + 1, n⟩] })) := hln0
    clear hln0 t0 tS
    obtain ⟨c0, c1, c2, c3⟩ := J4.cells t htn
    rw [HLt.out] at c0 c3
    have hi4 := own_intsN (J4.ints t htn)
    have hg4 := own_grsN (J4.grs t htn)
    rw [HLt.out] at hi4 hg4
    have hLC : LnCells w4 lb (t * 4) l (ownBs (VW t) l.way.length ++ ownBs (VG t) l.grs.length) := ⟨_, _, _, _, c0, c1, c2, c3, rfl, hi4, hg4⟩
    have hBd : ∀ x ∈ ownBs (VW t) l.way.length ++ ownBs (VG t) l.grs.length, w1.heap.size ≤ x ∧ x ≠ lb := fun x hx => by
      rcases List.mem_append.1 hx with hx | hx
      · exact ⟨((J4.ints t htn).lt x (ownBs_own hx)).1, (own_kind (J4.ints t htn) x (ownBs_own hx)).ne J4.kind (by decide)⟩
      · exact ⟨((J4.grs t htn).lt x (ownBs_own hx)).1, (own_kind (J4.grs t htn) x (ownBs_own hx)).ne J4.kind (by decide)⟩
    have hfr : ∀ x, w4.frozen? ⟨lb, x, none⟩ = false := fun x => J4.kind.free x
    obtain ⟨ag', cg', hvg'⟩ := own_slice (J4.grs t htn)
    have hrow := J4.grs t htn
    rw [HLt.out] at hrow hvg'
    have hogb : (VG t).ownBlock ≠ some lb := own_neK hrow J4.kind (by decide)
    have hog2 : ∀ x ∈ ownBs (VW t) l.way.length, some x ≠ (VG t).ownBlock := fun x hx e => (own_kind (J4.ints t htn) x (ownBs_own hx)).ne (own_kind hrow x e.symm) (by decide) rfl
    have hown1 : ∀ x, (VG t).ownBlock = some x → w1.heap.size ≤ x := fun x hx => (hrow.lt x hx).1
    have hg4' := own_grsN hrow
    rw [hvg'] at c2 hrow hogb hog2 hown1 hg4'
    have HOw : Hid ((VG t).ownBlock = (Value.slice ag' l.grs.length cg').ownBlock) := by show (VG t).ownBlock = _; rw [hvg']
    have HO1 : Hid (∀ x, (Value.slice ag' l.grs.length cg').ownBlock = some x → w1.heap.size ≤ x) := hown1
    have HCh : Hid _ := change2 l n lb (t * 4) w1.heap.size cg' ag' (VW t) _ _ w4 c0 c1 c2 c3 hi4 hg4' hrow (Nat.le_trans hlo (Nat.le_of_lt J4.kind.lt)) hfr (fun hx => (hBd _ (List.mem_append_left _ hx)).2 rfl) (fun e => hogb e.symm) hog2 HW.out.head.lo HW.out.head.hi HW.out.head.len hgn.2 HG.out hgn.1 (fun x hx => (hBd x (List.mem_append_left _ hx)).1)
    clear hrow hogb hog2 hown1 hvg' hg4'
    have HFn : Hid ((VG t).ownBlock ≠ some w2.heap.size) := fun e => (own_kind (J4.grs t htn) _ e).ne ⟨_, eF5⟩ (by decide) rfl
    clear c0 c1 c2 c3 hi4 hg4 hLC hfr
    go_wp2_with fail
    refine Calls.mono HCh.out ?_
    rintro _ w5 ⟨rfl, ⟨d5, hl5, hs5⟩, ht5⟩
    have hgr := ht5
    obtain ⟨bs', hls, hlo'⟩ := J4.done htn hl5 hs5 hgr (Or.inr (Or.inr HOw.out.symm))
    have HLS : Hid (LnsAt w5 (.slice (some ⟨lb, 0, none⟩) k.lns.length cap) (doBk k ⟨2, (t : Int), n⟩).lns bs') := by
      show LnsAt w5 _ (doBk k ⟨2, (t : Int), n⟩).lns bs'
      rw [HLn.out]; exact hls
    have eF6 := eF5.keep (hgr.block _ eF5.lt (by omega) (fun e => HFn.out (HOw.out.trans e.symm)))
    have eR6 := eR5.keep (hgr.block _ eR5.lt (by omega) (fun e => by have := HO1.out _ e.symm; omega))
    have b6 : Below w.heap.size w w5 := b5.trans (hgr.below (by omega) (fun x hx => by have := HO1.out x hx; omega) b5.size)
    clear hls hl5 hs5 ht5 hgr HCh hBd f0 f1 f2 r0 r1 r2 rf
    obtain ⟨f0, f1, f2⟩ := eF6.three
    obtain ⟨r0, r1, r2⟩ := eR6.three
    have rf : ∀ x, w5.frozen? ⟨w.heap.size + 1 + 1, x, none⟩ = false := fun x => eR6.frozen x
    go_wp2_with fail
    exact bodyPost_ret (v := .tuple #[.agg #[.bool k.ok, .int .i64 k.sec, .slice (some ⟨lb, 0, none⟩) k.lns.length cap], .nilIface]) (by simp [results, Tryd.results38, go_sem, r0, r1, r2]) rfl (HFin.out w5 _ bs' HLS.out hlo' b6 _ _ _)
  · rw [show errV a0 a1 a2 2 = .iface 231 (.pointer (some a1)) from rfl]
    obtain ⟨bs', hls, hlo'⟩ := J4.same htn
    have HLS : Hid (LnsAt w4 (.slice (some ⟨lb, 0, none⟩) k.lns.length cap) (doBk k ⟨2, (t : Int), n⟩).lns bs') := by
      show LnsAt w4 _ (doBk k ⟨2, (t : Int), n⟩).lns bs'
      rw [tS.out (by decide)]; exact hls
    clear hls
    go_wp2_with fail
    exact bodyPost_ret (v := .tuple #[.agg #[.bool k.ok, .int .i64 k.sec, .slice (some ⟨lb, 0, none⟩) k.lns.length cap], .iface 231 (.pointer (some a1))]) (by simp [results, Tryd.results38, go_sem, r0, r1, r2]) rfl (HFin.out w4 _ bs' HLS.out hlo' b5 _ _ _)

end Go.Proofs.YtnaaheddhgpnoaaDoor
