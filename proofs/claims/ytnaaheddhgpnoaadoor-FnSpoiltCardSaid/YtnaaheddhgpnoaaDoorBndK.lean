import Derived.Test.YtnaaheddhgpnoaaDoorBndD
import Derived.Test.YtnaaheddhgpnoaaDoorEvt
import Derived.Deep.RegionLaw
import Derived.Deep.RegionHeld3
import Derived.Deep.AppendLies
namespace Go.Proofs.YtnaaheddhgpnoaaDoor
open Go.ChangeShapes Go.WideShapes Go.ChangeAt Go.RowKit

theorem CpInv.empty {wr : World} {B T TW TG : Nat} {vl : Value} {L : Nat → Ln} {VW VG : Nat → Value} {DW DG : Nat → List Nat} (h : CpInv wr B T TW TG vl 0 L VW VG DW DG) : LnsAt wr vl [] [] := by
  by_cases hv : vl = .slice none 0 0
  · rw [hv]; exact lnsAt_nil _
  · obtain ⟨g, cap, rfl, _, _, h1, h2, _⟩ := own_facts h.own hv
    exact ⟨_, cap, rfl, h1, h2, Or.inl ⟨rfl, rfl⟩⟩
/-- A book behind three stores into a box that is none of its blocks. -/
theorem BkAt.set3 {W : World} {v u0 u1 u2 : Value} {k : Bk} {bs : List Nat} {R : Nat} (h : BkAt W v k bs) (hf : ∀ x ∈ bs, x ≠ R) : BkAt (((W.setCell ⟨R, 0, none⟩ u0).setCell ⟨R, 1, none⟩ u1).setCell ⟨R, 2, none⟩ u2) v k bs :=
  h.keep fun x hx => ((Below.heap_setCell _ _ _ _ (hf x hx)).trans (Below.heap_setCell _ _ _ _ (hf x hx))).trans (Below.heap_setCell _ _ _ _ (hf x hx))
theorem CpInv.set3 {W : World} {B T TW TG k b : Nat} {vl u0 u1 u2 : Value} {L : Nat → Ln} {VW VG : Nat → Value} {DW DG : Nat → List Nat} (h : CpInv W B T TW TG vl k L VW VG DW DG) (hTW : T ≠ TW) (hTG : T ≠ TG) (hb : b < B) : CpInv (((W.setCell ⟨b, 0, none⟩ u0).setCell ⟨b, 1, none⟩ u1).setCell ⟨b, 2, none⟩ u2) B T TW TG vl k L VW VG DW DG := ((h.set hTW hTG hb _).set hTW hTG hb _).set hTW hTG hb _
theorem CurAt.set3 {W : World} {C a b : Nat} {v u0 u1 u2 : Value} (h : CurAt W C v a) (hb : C < b) : CurAt (((W.setCell ⟨b, 0, none⟩ u0).setCell ⟨b, 1, none⟩ u1).setCell ⟨b, 2, none⟩ u2) C v a := ((h.setNew hb).setNew hb).setNew hb
theorem Chg.set3 {bs : List Nat} {a W : World} {b : Nat} {u0 u1 u2 : Value} (h : Chg bs a W) (hb : a.heap.size ≤ b) : Chg bs a (((W.setCell ⟨b, 0, none⟩ u0).setCell ⟨b, 1, none⟩ u1).setCell ⟨b, 2, none⟩ u2) := ((h.setNew hb _).setNew hb _).setNew hb _
theorem RoomAt.chg1 {C : Nat} {w w' : World} {v : Value} {sz B : Nat} {t : TypeId} (h : RoomAt w v sz t B) (hc : Chg [C] w w') (hC : C < B) : RoomAt w' v sz t B := h.keep fun b hb hB => hc.block b hb.lt (by simp only [List.mem_singleton]; omega)

set_option maxHeartbeats 8000000 in
set_option maxRecDepth 100000 in
def bendPack (C : Nat) (v : Value) (a m : Nat) (k : Bk) (w : World) :
    { G : Nat → Prop // (∀ r : Nat, r < 11 → G r) → ∀ (vb : Value) (bs : List Nat), CurAt w C v a → a < 576460752303423488 → BkAt w vb k bs → m ≤ 1000000 → BendOk m k → Calls Tryd.prog 55 #[.pointer (some ⟨C, 0, none⟩), vb] w fun r w' => (∃ v' k' bs', r = .returned v' ∧ BkAt w' v' k' bs' ∧ BendOk (m + 30) k' ∧ ∀ x ∈ bs', w.heap.size ≤ x) ∧ (∃ a', a' ≤ a + 100 ∧ CurAt w' C v a') ∧ Chg [C] w w' } := by
  apply Subtype.mk
  intro hGG vb bs h ha hk hm hb
  have HGG : Hid _ := hGG
  clear hGG
  have hCl := h.lt
  have hkk := hk
  have hCp : Hid (∀ W, BkAt W vb k bs → Calls Tryd.prog 36 #[vb] W fun e w' => ∃ vl VW VG DW DG, e = .returned (.agg #[.bool k.ok, .int .i64 k.sec, vl]) ∧ CpInv w' W.heap.size 38 3 40 vl k.lns.length (lnOf k.lns) VW VG DW DG ∧ Below W.heap.size W w') := fun W h => l2copy_any k vb bs W h (by have := hb.few; omega) (fun j hj => ⟨by have := hb.way j hj; omega, by have := hb.grs j hj; omega⟩)
  have Hb : Hid (BendOk m k) := hb
  have hs0 := hb.lo
  have hs1 := hb.sec
  have hfew := hb.few
  obtain ⟨vl, rfl, hLs⟩ := hk
  obtain ⟨la, ln, lc, rfl⟩ := hLs.slice
  clear hLs hb
  have b0 : BlkIs ((w.alloc (.cells #[.bool k.ok, .int .i64 k.sec, .slice la ln lc] 32)).alloc (.cells #[.bool false, .int .i64 0, .slice none 0 0] 32)) w.heap.size [.bool k.ok, .int .i64 k.sec, .slice la ln lc] 32 := (BlkIs.new _ _ _).alloc _
  have r0 : BlkIs ((w.alloc (.cells #[.bool k.ok, .int .i64 k.sec, .slice la ln lc] 32)).alloc (.cells #[.bool false, .int .i64 0, .slice none 0 0] 32)) (w.heap.size + 1) [.bool false, .int .i64 0, .slice none 0 0] 32 := BlkIs.new2 w _ _ _
  have h0 := (h.alloc #[.bool k.ok, .int .i64 k.sec, .slice la ln lc] 32).alloc #[.bool false, .int .i64 0, .slice none 0 0] 32
  have g0 : Chg [C] w ((w.alloc (.cells #[.bool k.ok, .int .i64 k.sec, .slice la ln lc] 32)).alloc (.cells #[.bool false, .int .i64 0, .slice none 0 0] 32)) := ((Chg.refl _ _).alloc _ _).alloc _ _
  have T0 : Below w.heap.size w ((w.alloc (.cells #[.bool k.ok, .int .i64 k.sec, .slice la ln lc] 32)).alloc (.cells #[.bool false, .int .i64 0, .slice none 0 0] 32)) := ((Below.refl _ _).alloc (Nat.le_refl _) _).alloc (by simp) _
  have Hz : Hid (((w.alloc (.cells #[.bool k.ok, .int .i64 k.sec, .slice la ln lc] 32)).alloc (.cells #[.bool false, .int .i64 0, .slice none 0 0] 32)).heap.size = w.heap.size + 2) := by show _ = _; simp
  clear h
  go_enter Tryd.func55, Tryd.ntmps55
  go_wp2_with fail
  generalize ((w.alloc (.cells #[.bool k.ok, .int .i64 k.sec, .slice la ln lc] 32)).alloc (.cells #[.bool false, .int .i64 0, .slice none 0 0] 32)) = V at *
  refine (hCp.out _ (hkk.below T0 hkk.lt)).mono ?_
  rintro _ w1 ⟨vl1, VW, VG, DW, DG, rfl, hCI, hb1⟩
  obtain ⟨la1, lc1, rfl⟩ := own_slice hCI.own
  have hz := Hz.out
  have c1 : Chg [C] V w1 := Chg.ofBelow hb1
  have b1 := b0.below hb1 b0.lt
  have r1 := r0.below hb1 r0.lt
  have hrn := Nat.le_refl w.heap.size
  have B1 : BlkIs (((w1.setCell ⟨w.heap.size, 0, none⟩ (.bool k.ok)).setCell ⟨w.heap.size, 1, none⟩ (.int .i64 k.sec)).setCell ⟨w.heap.size, 2, none⟩ (.slice la1 k.lns.length lc1)) w.heap.size [.bool k.ok, .int .i64 k.sec, .slice la1 k.lns.length lc1] 32 := ((b1.set 0 _).set 1 _).set 2 _
  have R1 : BlkIs (((w1.setCell ⟨w.heap.size, 0, none⟩ (.bool k.ok)).setCell ⟨w.heap.size, 1, none⟩ (.int .i64 k.sec)).setCell ⟨w.heap.size, 2, none⟩ (.slice la1 k.lns.length lc1)) (w.heap.size + 1) [.bool false, .int .i64 0, .slice none 0 0] 32 := ((r1.other (by omega) _ _).other (by omega) _ _).other (by omega) _ _
  have h1 : CurAt (((w1.setCell ⟨w.heap.size, 0, none⟩ (.bool k.ok)).setCell ⟨w.heap.size, 1, none⟩ (.int .i64 k.sec)).setCell ⟨w.heap.size, 2, none⟩ (.slice la1 k.lns.length lc1)) C v a := (h0.below hb1 h0.lt).set3 hCl
  have g1 : Chg [C] w (((w1.setCell ⟨w.heap.size, 0, none⟩ (.bool k.ok)).setCell ⟨w.heap.size, 1, none⟩ (.int .i64 k.sec)).setCell ⟨w.heap.size, 2, none⟩ (.slice la1 k.lns.length lc1)) := (g0.trans c1).set3 hrn
  have CI : CpInv (((w1.setCell ⟨w.heap.size, 0, none⟩ (.bool k.ok)).setCell ⟨w.heap.size, 1, none⟩ (.int .i64 k.sec)).setCell ⟨w.heap.size, 2, none⟩ (.slice la1 k.lns.length lc1)) (w.heap.size + 2) 38 3 40 (.slice la1 k.lns.length lc1) k.lns.length (lnOf k.lns) VW VG DW DG := by
    rw [hz] at hCI
    exact hCI.set3 (by decide) (by decide) (by omega)
  have fb : ∀ x, w1.frozen? ⟨w.heap.size, x, none⟩ = false := fun x => b1.frozen x
  obtain ⟨y0, y1, y2⟩ := b1.three
  have Hgo : Hid True := trivial
  clear hCI c1 h0 g0 T0 hb1 b0 r0 r1 hz Hz hCp hkk
  go_upto_region 2 with fail
  clear y0 y1 y2 fb b1
  generalize (((w1.setCell ⟨w.heap.size, 0, none⟩ (.bool k.ok)).setCell ⟨w.heap.size, 1, none⟩ (.int .i64 k.sec)).setCell ⟨w.heap.size, 2, none⟩ (.slice la1 k.lns.length lc1)) = W1 at *
  clear w1
  have HW : Hid (∀ i, i < k.lns.length → (lnOf k.lns i).way.length ≤ m) := Hb.out.way
  have HG : Hid (∀ i, i < k.lns.length → (lnOf k.lns i).grs.length ≤ m) := Hb.out.grs
  generalize hnn : k.lns.length = n at *
  have Hn : Hid (k.lns.length = n) := hnn
  clear hnn
  by_cases hA : n = 0
  · subst hA
    have hL := CI.empty
    obtain ⟨y0, y1, y2⟩ := B1.three
    obtain ⟨p0, p1, p2⟩ := R1.three
    have fo : ∀ x, W1.frozen? ⟨w.heap.size, x, none⟩ = false := fun x => B1.frozen x
    have fR : ∀ x, W1.frozen? ⟨w.heap.size + 1, x, none⟩ = false := fun x => R1.frozen x
    have hRC : C < w.heap.size + 1 := by omega
    have hwR : w.heap.size ≤ w.heap.size + 1 := by omega
    have hk0 : k.lns = [] := List.eq_nil_of_length_eq_zero Hn.out
    go_wp2
    refine bodyPost_ret (v := .agg #[.bool false, .int .i64 k.sec, .slice la1 0 lc1]) (by simp [results, Tryd.results55, go_sem, p0, p1, p2]) rfl ⟨⟨_, ⟨false, k.sec, []⟩, [], rfl, ⟨_, rfl, hL.keep fun x hx => by simp at hx⟩, ⟨by simp, hs0, hs1, fun i hi => by simp at hi, fun i hi => by simp at hi⟩, by simp⟩, ⟨a, by omega, (h1.setNew hCl).set3 hRC⟩, (g1.setNew hrn _).set3 hwR⟩
  · have hA' : ((n : Int) == 0) = false := by simp; omega
    have hn1 : 0 < n := by omega
    obtain ⟨lb, cap, hvl, hlb, hkd, hnc, hcm, hcells⟩ := CI.lines hn1
    simp only [Value.slice.injEq, true_and] at hvl
    obtain ⟨rfl, rfl⟩ := hvl
    have HS : Hid (∀ t, t < n → BdSt C w W1 lb lc1 t k (lnOf k.lns t) (VW t) (VG t) (DW t) (DG t) (fun j => DW j ++ DG j)) := fun t ht => CpInv.toBd (by rw [Hn.out]; exact CI) (Nat.le_refl _) (by rw [Hn.out]; exact hnc) hcm (by rw [Hn.out]; exact ht) hkd hlb (by rw [Hn.out]; exact hcells) g1 (by rw [Hn.out]; exact B1) R1
    have HR : Hid (∀ t, t < n → RoomAt W1 (VW t) 1 3 (w.heap.size + 2) ∧ RoomAt W1 (VG t) 2 40 (w.heap.size + 2)) := fun t ht => ⟨(CI.ints t ht).2, (CI.grs t ht).2⟩
    have HFW : Hid (∀ t b, t < n → (VW t).ownBlock = some b → FarRow W1 (w.heap.size + 2) lb n t b (fun j => DW j ++ DG j) (DG t)) := fun t b ht hb => CI.farW (by decide) (by decide) hkd ht hb
    have HFG : Hid (∀ t b, t < n → (VG t).ownBlock = some b → FarRow W1 (w.heap.size + 2) lb n t b (fun j => DW j ++ DG j) (DW t)) := fun t b ht hb => CI.farG (by decide) (by decide) hkd ht hb
    obtain ⟨y0, y1, y2⟩ := B1.three
    clear CI hcells hkd hlb R1
    go_upto_region 5 with fail
    go_cut [5] from 6 (fun s5 W => ∃ (t a1 : Nat), s5 = .pointer (some ⟨lb, t * 4, none⟩) ∧ t < n ∧ a1 ≤ a + 2 ∧ CurAt W C v a1 ∧ Chg [C] W1 W)
    case first =>
      have Hq : Hid (∀ W, CurAt W C v a → Chg [C] W1 W → Calls Tryd.prog 54 #[.pointer (some ⟨C, 0, none⟩), .int .i64 (n : Int)] W fun e w' => (∃ r : Nat, e = .returned (.int .i64 (r : Int)) ∧ r < n) ∧ (∃ a', a' ≤ a + 2 ∧ CurAt w' C v a') ∧ Chg [C] W1 w') := fun W h1 h2 => (pick_any C v a n _ h1 (by omega) (by omega)).mono fun e w' ⟨⟨r, q1, q2, q3⟩, ⟨a', q4, q5⟩, q6⟩ => ⟨⟨r, q1, pick_lt q2 q3 hn1⟩, ⟨a', by omega, q5⟩, h2.trans q6⟩
      go_region_with (go_at_call 54; (with_reducible refine (Hq.out W1.drew h1.drew (Chg.refl [C] W1).drew).mono ?_); rintro _ w5 ⟨⟨r5, rfl, hr5⟩, ⟨a5, ha5, h5⟩, k5⟩; obtain ⟨z0, z1, z2⟩ := (B1.chg1 k5 (by omega)).three; have hr5' : (r5 : Int) < (n : Int) := Int.ofNat_lt.2 hr5)
      all_goals (go_wp2_with fail; go_meet; exact ⟨r5, a5, rfl, hr5, ha5, h5, k5⟩)
    case rest =>
      obtain ⟨t, a1, rfl, ht, ha1, h2, k2⟩ := hcut
      have St := (HS.out t ht).chg1 k2 hCl
      have zc := k2.size
      obtain ⟨hRW, hRG⟩ := HR.out t ht
      replace hRW := hRW.chg1 k2 (by omega)
      replace hRG := hRG.chg1 k2 (by omega)
      have hFW := HFW.out t
      have hFG := HFG.out t
      have hw30 := HW.out t ht
      have hg30 := HG.out t ht
      generalize lnOf k.lns t = l at *
      generalize VW t = vw at *
      generalize VG t = vg at *
      generalize DW t = d1 at *
      generalize DG t = d2 at *
      generalize (fun j => DW j ++ DG j) = D at *
      clear HS HR HFW HFG h1 y0 y1 y2 B1
      obtain ⟨aw, cw, rfl, hw1, hw2, -⟩ := id St.ints
      obtain ⟨ag, cg, rfl, hg1, hg2, -⟩ := id St.grs
      obtain ⟨wb, rfl⟩ := hRW.nonnil
      obtain ⟨gb, rfl⟩ := hRG.nonnil
      have FW := hFW wb ht rfl
      have FG := hFG gb ht rfl
      unfold maxLen at hw2 hg2
      generalize hnw : l.way.length = nw at *
      generalize hng : l.grs.length = ng at *
      have Hnw : Hid (l.way.length = nw) := hnw
      have Hng : Hid (l.grs.length = ng) := hng
      clear hFW hFG hnw hng k2 g1
      have e0 := St.c0
      have e1 := St.c1
      have e2 := St.c2
      have e3 := St.c3
      obtain ⟨y0, y1, y2⟩ := St.out.three
      rw [Hn.out] at y2
      by_cases hG0 : ng = 0
      · have hG0' : ((ng : Int) == 0) = true := by simp [hG0]
        clear hG0
        obtain ⟨kk, bb, hBk, hOk, hLo⟩ := St.done (m := m + 30) (by rw [Hn.out]; exact hfew) hs0 hs1 (fun i hi => by have := HW.out i (by rw [← Hn.out]; exact hi); unfold lnOf at this; show (k.lns[i]?.getD ln0).way.length ≤ _; omega) (fun i hi => by have := HG.out i (by rw [← Hn.out]; exact hi); unfold lnOf at this; show (k.lns[i]?.getD ln0).grs.length ≤ _; omega) (by rw [Hnw.out]; omega) (by rw [Hng.out]; omega)
        obtain ⟨p0, p1, p2⟩ := St.res.three
        have HBk : Hid (BkAt wc (.agg #[.bool k.ok, .int .i64 k.sec, .slice (some ⟨lb, 0, none⟩) n lc1]) kk bb) := by rw [← Hn.out]; exact hBk
        have fR : ∀ x, wc.frozen? ⟨w.heap.size + 1, x, none⟩ = false := fun x => St.res.frozen x
        have hRC : C < w.heap.size + 1 := by omega
        have hwR : w.heap.size ≤ w.heap.size + 1 := by omega
        have HLo : Hid (∀ x ∈ bb, w.heap.size + 2 ≤ x) := hLo
        have HOk : Hid (BendOk (m + 30) kk) := hOk
        clear hBk hLo hOk
        go_wp2
        have hf3 : ∀ x ∈ bb, x ≠ w.heap.size + 1 := fun x hx => by have := HLo.out x hx; omega
        have hg3 : ∀ x ∈ bb, w.heap.size ≤ x := fun x hx => by have := HLo.out x hx; omega
        have ha9 : a1 ≤ a + 100 := by omega
        refine bodyPost_ret (v := .agg #[.bool k.ok, .int .i64 k.sec, .slice (some ⟨lb, 0, none⟩) n lc1]) (by simp [results, Tryd.results55, go_sem, p0, p1, p2]) rfl ?_
        first
          | exact ⟨⟨_, kk, bb, rfl, HBk.out.set3 hf3, HOk.out, hg3⟩, ⟨a1, ha9, h2.set3 hRC⟩, St.chg.set3 hwR⟩
          | exact ⟨⟨_, rfl, kk, bb, HBk.out.set3 hf3, HOk.out, hg3⟩, ⟨a1, ha9, h2.set3 hRC⟩, St.chg.set3 hwR⟩
      · have hG0' : ((ng : Int) == 0) = false := by simp; omega
        have Hg1 : Hid (1 ≤ ng) := by show 1 ≤ ng; omega
        clear hG0
        go_wp2_with fail
        refine (pick_any C v a1 11 _ h2 (by omega) (by omega)).mono ?_
        rintro _ w3 ⟨⟨r3, rfl, _, hr3⟩, ⟨a3, ha3, h3⟩, k3⟩
        have hr11 : r3 < 11 := by have := hr3 (by omega); omega
        have St3 := St.chg1 k3 hCl
        have hRW3 := hRW.chg1 k3 (by omega)
        have hRG3 := hRG.chg1 k3 (by omega)
        have zW : W1.heap.size ≤ w3.heap.size := Nat.le_trans zc k3.size
        clear St e0 e1 e2 e3 y0 y1 y2 hRW hRG h2 k3 hr3
        have e0 := St3.c0
        have e1 := St3.c1
        have e2 := St3.c2
        have e3 := St3.c3
        obtain ⟨y0, y1, y2⟩ := St3.out.three
        rw [Hn.out] at y2
        have fl : ∀ x, w3.frozen? ⟨lb, x, none⟩ = false := fun x => St3.free x
        have fo : ∀ x, w3.frozen? ⟨w.heap.size, x, none⟩ = false := fun x => St3.out.frozen x
        have hlo := St3.lo
        have hCL : C < lb := by omega
        go_upto_block 0 with fail
        go_cut [] from 6 (fun W => ∃ (bo : Bool) (se : Int) (l' : Ln) (vw' vg' : Value) (d1' d2' : List Nat) (a' : Nat), a' ≤ a + 90 ∧ CurAt W C v a' ∧ 0 ≤ se ∧ se ≤ 1000 ∧ l'.way.length ≤ m + 30 ∧ l'.grs.length ≤ m + 30 ∧ BdSt C w W lb lc1 t { k with ok := bo, sec := se } l' vw' vg' d1' d2' D)
        case first =>
          rename_i q0 K0 b0 lf J0 K1 b1 b2
          clear lf b0 zc
          revert ha hm hCl Hb hs0 hs1 la ln lc q0 lc1 hrn Hgo W1 n hfew HW HG Hn hA hA' hn1 lb hnc hcm u6 u7 u8 u9 u10 u11 u12 u13 u14 u15 u16 u17 u18 u19 u20 u21 u22 u23 u24 u25 u26 u27 u28 u29 u30 u31 u32 u33 u34 u35 u36 u37 u38 u39 u40 u41 u42 u43 u44 u45 u46 u47 u48 u49 u50 u51 u52 u53 u54 u55 u56 u57 u58 u59 u60 u61 u62 u63 u64 u65 u66 u67 u68 u69 u70 u71 u72 u73 u74 u75 u76 u77 u78 u79 u80 u81 u82 u83 u84 u85 u86 u87 u88 u89 u90 u91 u92 u93 u94 u95 u96 u97 u98 u99 u100 u101 u102 u103 u104 u105 u106 u107 u108 u109 u110 u111 u112 u113 u114 u115 u116 u117 u118 u119 u120 u121 u122 u123 u124 u125 u126 u127 u128 u129 u130 u131 u132 u133 u134 u135 u136 u137 u138 u139 u140 u141 u142 u143 u144 u145 u146 u147 u148 u149 u150 u151 u152 u153 u154 u155 u156 u157 u158 u159 u160 u161 u162 u163 u164 u165 u166 u167 u168 u169 u170 u171 u172 u173 u174 u175 u176 u177 u178 u179 u180 u181 u182 u183 u184 u185 u186 u187 u188 u189 u190 u191 u192 u193 u194 u195 u196 u197 u198 u199 t a1 ht ha1 l d1 d2 D cw hw2 cg hg2 wb gb FW FG nw hw30 hw1 ng hg30 hg1 Hnw Hng hG0' Hg1 w3 a3 ha3 h3 St3 hRW3 hRG3 zW e0 e1 e2 e3 y0 y1 y2 fl fo hlo hCL J0 K1 b1 b2
          exact HGG.out r3 hr11
        case rest =>
          obtain ⟨bo, se, l', vw', vg', d1', d2', a', ha', h9, s0, s1, lw, lg, St9⟩ := hcut
          clear St3 h3 e0 e1 e2 e3 y0 y1 y2 fl fo hRW3 hRG3
          obtain ⟨y0, y1, y2⟩ := St9.out.three
          replace y2 : wc.cell? ⟨w.heap.size, 2, none⟩ = some (.slice (some ⟨lb, 0, none⟩) n lc1) := by rw [← Hn.out]; exact y2
          obtain ⟨kk, bb, hBk, hOk, hLo⟩ := St9.done (m := m + 30) (by show k.lns.length ≤ 20; rw [Hn.out]; exact hfew) s0 s1 (fun i hi => by have := HW.out i (by rw [← Hn.out]; exact hi); unfold lnOf at this; show (k.lns[i]?.getD ln0).way.length ≤ _; omega) (fun i hi => by have := HG.out i (by rw [← Hn.out]; exact hi); unfold lnOf at this; show (k.lns[i]?.getD ln0).grs.length ≤ _; omega) lw lg
          obtain ⟨p0, p1, p2⟩ := St9.res.three
          have HBk : Hid (BkAt wc (.agg #[.bool bo, .int .i64 se, .slice (some ⟨lb, 0, none⟩) n lc1]) kk bb) := by rw [← Hn.out]; exact hBk
          have fR : ∀ x, wc.frozen? ⟨w.heap.size + 1, x, none⟩ = false := fun x => St9.res.frozen x
          have hRC : C < w.heap.size + 1 := by omega
          have hwR : w.heap.size ≤ w.heap.size + 1 := by omega
          have HLo : Hid (∀ x ∈ bb, w.heap.size + 2 ≤ x) := hLo
          have HOk : Hid (BendOk (m + 30) kk) := hOk
          clear hBk hLo hOk
          go_wp2
          have hf3 : ∀ x ∈ bb, x ≠ w.heap.size + 1 := fun x hx => by have := HLo.out x hx; omega
          have hg3 : ∀ x ∈ bb, w.heap.size ≤ x := fun x hx => by have := HLo.out x hx; omega
          have ha9 : a' ≤ a + 100 := by omega
          refine bodyPost_ret (v := .agg #[.bool bo, .int .i64 se, .slice (some ⟨lb, 0, none⟩) n lc1]) (by simp [results, Tryd.results55, go_sem, p0, p1, p2]) rfl ?_
          first
            | exact ⟨⟨_, kk, bb, rfl, HBk.out.set3 hf3, HOk.out, hg3⟩, ⟨a', ha9, h9.set3 hRC⟩, St9.chg.set3 hwR⟩
            | exact ⟨⟨_, rfl, kk, bb, HBk.out.set3 hf3, HOk.out, hg3⟩, ⟨a', ha9, h9.set3 hRC⟩, St9.chg.set3 hwR⟩

end Go.Proofs.YtnaaheddhgpnoaaDoor
