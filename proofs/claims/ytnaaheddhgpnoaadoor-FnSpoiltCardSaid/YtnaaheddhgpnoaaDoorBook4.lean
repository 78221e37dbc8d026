import Derived.Test.YtnaaheddhgpnoaaDoorBndCh
import Derived.Test.YtnaaheddhgpnoaaDoorBndCe
import Derived.Test.YtnaaheddhgpnoaaDoorBndCa
import Derived.Test.YtnaaheddhgpnoaaDoorRun4
namespace Go.Proofs.YtnaaheddhgpnoaaDoor
open Go.ChangeShapes Go.WideShapes Go.ChangeAt Go.RowKit

theorem bend_any (C : Nat) (v vb : Value) (a m : Nat) (k : Bk) (bs : List Nat) (w : World) (h : CurAt w C v a) (ha : a < 576460752303423488) (hk : BkAt w vb k bs) (hm : m ≤ 1000000) (hb : BendOk m k) :
    Calls Tryd.prog 55 #[.pointer (some ⟨C, 0, none⟩), vb] w fun r w' => (∃ v' k' bs', r = .returned v' ∧ BkAt w' v' k' bs' ∧ BendOk (m + 30) k' ∧ ∀ x ∈ bs', w.heap.size ≤ x) ∧ (∃ a', a' ≤ a + 100 ∧ CurAt w' C v a') ∧ Chg [C] w w' := by
  refine (bendPack C v a m k w).2 (fun r hr => ?_) vb bs h ha hk hm hb
  match r, hr with
  | 0, _ => exact bend_c0 C v a m k w
  | 1, _ => exact bend_c1 C v a m k w
  | 2, _ => exact bend_c2 C v a m k w
  | 3, _ => exact bend_c3 C v a m k w
  | 4, _ => exact bend_c4 C v a m k w
  | 5, _ => exact bend_c5 C v a m k w
  | 6, _ => exact bend_c6 C v a m k w
  | 7, _ => exact bend_c7 C v a m k w
  | 8, _ => exact bend_c8 C v a m k w
  | 9, _ => exact bend_c9 C v a m k w
  | 10, _ => exact bend_c10 C v a m k w

end Go.Proofs.YtnaaheddhgpnoaaDoor

namespace Go.Proofs.YtnaaheddhgpnoaaDoor
open Go.ChangeShapes Go.WideShapes Go.ChangeAt Go.RowKit

theorem DrawOk.bend {k : Bk} (h : DrawOk k) (h0 : 0 ≤ k.sec) : BendOk 1000 k := ⟨h.few, h0, h.sec, h.way, fun i hi => (h.grs i hi).2⟩
theorem BendOk.mono {m m' : Nat} {k : Bk} (h : BendOk m k) (hm : m ≤ m') : BendOk m' k := ⟨h.few, h.lo, h.sec, fun i hi => Nat.le_trans (h.way i hi) hm, fun i hi => Nat.le_trans (h.grs i hi) hm⟩

/-- A book in a box, the cursor beside it. -/
structure BbSt (C : Nat) (w W : World) (Bx m : Nat) (k : Bk) (vl : Value) (bs : List Nat) : Prop where
  box : BlkIs W Bx [.bool k.ok, .int .i64 k.sec, vl] 32
  lns : LnsAt W vl k.lns bs
  far : ∀ x ∈ bs, x ≠ Bx ∧ x ≠ C ∧ w.heap.size < x
  ok : BendOk m k
  res : BlkIs W w.heap.size [.bool false, .int .i64 0, .slice none 0 0] 32
  below : Below w.heap.size w W
  loB : w.heap.size < Bx
  loC : w.heap.size < C
  ne : Bx ≠ C
theorem BbSt.bk {C : Nat} {w W : World} {Bx m : Nat} {k : Bk} {vl : Value} {bs : List Nat} (h : BbSt C w W Bx m k vl bs) : BkAt W (.agg #[.bool k.ok, .int .i64 k.sec, vl]) k bs := ⟨_, rfl, h.lns⟩
theorem BbSt.chg1 {C : Nat} {w W W' : World} {Bx m : Nat} {k : Bk} {vl : Value} {bs : List Nat} (h : BbSt C w W Bx m k vl bs) (hc : Chg [C] W W') : BbSt C w W' Bx m k vl bs :=
  ⟨h.box.chg1 hc h.ne, h.lns.keep fun x hx => hc.block x (h.lns.lt x hx) (by simpa using (h.far x hx).2.1), h.far, h.ok, h.res.chg1 hc (Nat.ne_of_lt h.loC), h.below.trans (hc.below h.below.size (by simpa using Nat.le_of_lt h.loC)), h.loB, h.loC, h.ne⟩
theorem BbSt.put {C : Nat} {w W : World} {Bx m m' : Nat} {k k' : Bk} {vl vl' : Value} {bs bs' : List Nat} (h : BbSt C w W Bx m k vl bs) (hl : LnsAt W vl' k'.lns bs') (hf : ∀ x ∈ bs', x ≠ Bx ∧ x ≠ C ∧ w.heap.size < x) (hk : BendOk m' k') :
    BbSt C w (((W.setCell ⟨Bx, 0, none⟩ (.bool k'.ok)).setCell ⟨Bx, 1, none⟩ (.int .i64 k'.sec)).setCell ⟨Bx, 2, none⟩ vl') Bx m' k' vl' bs' := by
  have hB := Nat.le_of_lt h.loB
  have hr := Nat.ne_of_lt h.loB
  exact ⟨((h.box.set 0 _).set 1 _).set 2 _, hl.keep fun x hx => ((Below.heap_setCell _ _ _ _ (hf x hx).1).trans (Below.heap_setCell _ _ _ _ (hf x hx).1)).trans (Below.heap_setCell _ _ _ _ (hf x hx).1), hf, hk, ((h.res.other hr _ _).other hr _ _).other hr _ _, ((h.below.setCell hB _).setCell hB _).setCell hB _, h.loB, h.loC, h.ne⟩
theorem cur_box {W : World} {C a Bx : Nat} {v : Value} {vl : Value} {b : Bool} {s : Int} (h : CurAt W C v a) (hB : C < Bx) : CurAt (((W.setCell ⟨Bx, 0, none⟩ (.bool b)).setCell ⟨Bx, 1, none⟩ (.int .i64 s)).setCell ⟨Bx, 2, none⟩ vl) C v a := ((h.setNew hB).setNew hB).setNew hB
/-- The answer, in the result's own cells. -/
theorem res_keep {w W : World} {k : Bk} {vl : Value} {bs : List Nat} {b : Bool} {s : Int} {u : Value} (h : LnsAt W vl k.lns bs) (hf : ∀ x ∈ bs, x ≠ w.heap.size) : LnsAt (((W.setCell ⟨w.heap.size, 0, none⟩ (.bool b)).setCell ⟨w.heap.size, 1, none⟩ (.int .i64 s)).setCell ⟨w.heap.size, 2, none⟩ u) vl k.lns bs :=
  h.keep fun x hx => ((Below.heap_setCell _ _ _ _ (hf x hx)).trans (Below.heap_setCell _ _ _ _ (hf x hx))).trans (Below.heap_setCell _ _ _ _ (hf x hx))
theorem CurAt.setOld {W : World} {C a b o B : Nat} {v u : Value} (h : CurAt W C v a) (hb : BysLow W v B) (hB : B ≤ b) (hC : C ≠ b) : CurAt (W.setCell ⟨b, o, none⟩ u) C v a := by
  obtain ⟨s, hs⟩ := h.blk
  refine ⟨⟨s, hs.other hC _ _⟩, ?_⟩
  obtain ⟨x, n, cap, h1, h2, h3, h4⟩ := h.bys
  obtain ⟨x', n', cap', h1', _, _, h4'⟩ := hb
  rw [h1] at h1'
  simp only [Value.slice.injEq] at h1'
  obtain ⟨rfl, rfl, rfl⟩ := h1'
  refine ⟨x, n, cap, h1, h2, h3, ?_⟩
  rcases h4 with h4 | ⟨b1, o1, e1, l1, z1, c1⟩
  · exact Or.inl h4
  · rcases h4' with h4' | ⟨b2, o2, e2, l2, _, _⟩
    · exact Or.inl h4'
    · rw [e1] at e2
      simp only [Option.some.injEq, Addr.mk.injEq, and_true] at e2
      obtain ⟨rfl, rfl⟩ := e2
      refine Or.inr ⟨b1, o1, e1, l1, by simpa using z1, fun i hi => ?_⟩
      obtain ⟨y, hy, hc⟩ := c1 i hi
      exact ⟨y, hy, (cell_keep (Below.heap_setCell _ _ _ _ (show b1 ≠ b by omega))).trans hc⟩
theorem BysLow.below {w W : World} {v : Value} {B : Nat} (h : BysLow w v B) (hb : Below B w W) : BysLow W v B := h.keep hb.size fun x hx _ => hb.block x hx

set_option maxHeartbeats 4000000 in
set_option maxRecDepth 100000 in
theorem l4book_any (v : Value) (w : World) (hv : BysLow w v w.heap.size) :
    Calls Tryd.prog 53 #[v] w fun r w' => ∃ C a vb k bs, r = .returned (.tuple #[vb, .pointer (some ⟨C, 0, none⟩)]) ∧ BkAt w' vb k bs ∧ BendOk 1030 k ∧ (∀ x ∈ bs, x ≠ C ∧ w.heap.size ≤ x) ∧ CurAt w' C v a ∧ a ≤ 4000 ∧ w.heap.size < C ∧ Below w.heap.size w w' := by
  have HV : Hid (∀ W, Below w.heap.size w W → BysLow W v w.heap.size) := fun W hW => hv.below hW
  obtain ⟨x, n, cap, rfl, hn, hcm, _⟩ := hv
  have q0 : BlkIs ((w.alloc (.cells #[.bool false, .int .i64 0, .slice none 0 0] 32)).alloc (.cells #[.slice x n cap, .int .i64 0, .int .u64 0] 76)) w.heap.size [.bool false, .int .i64 0, .slice none 0 0] 32 := (BlkIs.new _ _ _).alloc _
  have C0 : BlkIs ((w.alloc (.cells #[.bool false, .int .i64 0, .slice none 0 0] 32)).alloc (.cells #[.slice x n cap, .int .i64 0, .int .u64 0] 76)) (w.heap.size + 1) [.slice x n cap, .int .i64 0, .int .u64 0] 76 := BlkIs.new2 w _ _ _
  have T0 : Below w.heap.size w ((w.alloc (.cells #[.bool false, .int .i64 0, .slice none 0 0] 32)).alloc (.cells #[.slice x n cap, .int .i64 0, .int .u64 0] 76)) := ((Below.refl _ _).alloc (Nat.le_refl _) _).alloc (by simp) _
  go_enter Tryd.func53, Tryd.ntmps53
  go_wp2_with fail
  generalize ((w.alloc (.cells #[.bool false, .int .i64 0, .slice none 0 0] 32)).alloc (.cells #[.slice x n cap, .int .i64 0, .int .u64 0] 76)) = V at *
  have h0 : CurAt V (w.heap.size + 1) (.slice x n cap) 0 := by
    refine ⟨⟨0, C0⟩, ?_⟩
    obtain ⟨x', n', cap', e, e1, e2, e3⟩ := HV.out V T0
    refine ⟨x', n', cap', e, e1, e2, e3.imp id ?_⟩
    rintro ⟨b, o, f1, f2, f3⟩
    exact ⟨b, o, f1, by omega, f3⟩
  refine (pick_any (w.heap.size + 1) _ 0 40 _ h0 (by omega) (by omega)).mono ?_
  rintro _ w1 ⟨⟨r1, rfl, _, _⟩, ⟨a1, ha1, h1⟩, hc1⟩
  have q1 := q0.chg1 hc1 (by omega)
  have T1 := T0.trans (hc1.below T0.size (by simp))
  clear q0 C0 T0 h0 hc1
  have hz1 := h1.lt
  have hCl : w.heap.size < w.heap.size + 1 := by omega
  have hCn : w.heap.size + 1 ≠ w.heap.size := by omega
  have hrn := Nat.le_refl w.heap.size
  generalize hCC : w.heap.size + 1 = C at *
  have HCC : Hid (w.heap.size + 1 = C) := hCC
  clear hCC
  by_cases hr1 : (r1 : Int) = 0
  · have hr1' : ((r1 : Int) == 0) = true := by simpa using hr1
    clear hr1
    go_wp2_with fail
    refine (full_any C _ a1 _ h1 (by omega)).mono ?_
    rintro _ w2 ⟨⟨v2, k2, bs2, rfl, ⟨vl2, rfl, hl2⟩, hd2, hs2, hf2⟩, ⟨a2, ha2, h2⟩, hc2⟩
    obtain ⟨la, ln, lc, rfl⟩ := hl2.slice
    have q2 := q1.chg1 hc2 hCn.symm
    have T2 := T1.trans (hc2.below T1.size (by simpa using Nat.le_of_lt hCl))
    have Hf : Hid (∀ y ∈ bs2, y ≠ C ∧ w.heap.size < y) := fun y hy => by have := hf2 y hy; have := HCC.out; omega
    clear hc2 hf2 h1 T1 q1
    obtain ⟨p0, p1, p2⟩ := q2.three
    have fq : ∀ y, w2.frozen? ⟨w.heap.size, y, none⟩ = false := fun y => q2.frozen y
    go_wp2
    refine bodyPost_ret (v := .tuple #[.agg #[.bool k2.ok, .int .i64 k2.sec, .slice la ln lc], .pointer (some ⟨C, 0, none⟩)]) (by simp [results, Tryd.results53, go_sem, p0, p1, p2]) rfl ⟨C, a2, _, k2, bs2, rfl, ⟨_, rfl, res_keep hl2 fun y hy => by have := Hf.out y hy; omega⟩, (hd2.bend hs2).mono (by omega), fun y hy => ⟨(Hf.out y hy).1, Nat.le_of_lt (Hf.out y hy).2⟩, ?_, by omega, hCl, ((T2.setCell hrn _).setCell hrn _).setCell hrn _⟩
    exact ((h2.setOld (HV.out _ T2) hrn hCn).setOld (HV.out _ (T2.setCell hrn _)) hrn hCn).setOld (HV.out _ ((T2.setCell hrn _).setCell hrn _)) hrn hCn
  · have hr1' : ((r1 : Int) == 0) = false := by simpa using hr1
    clear hr1
    go_wp2_with fail
    refine (l4run_any C _ a1 _ h1 (by omega)).mono ?_
    rintro _ w2 ⟨⟨t1, t2, t3, v2, k2, bs2, rfl, ⟨vl2, rfl, hl2⟩, hd2, hs2, hf2⟩, ⟨a2, ha2, h2⟩, hc2⟩
    obtain ⟨la, ln, lc, rfl⟩ := hl2.slice
    have q2 := q1.chg1 hc2 hCn.symm
    have T2 := T1.trans (hc2.below T1.size (by simpa using Nat.le_of_lt hCl))
    have hz2 := hc2.size
    have Hf : Hid (∀ y ∈ bs2, y ≠ w2.heap.size ∧ y ≠ C ∧ w.heap.size < y) := fun y hy => by have := hf2 y hy; have := hl2.lt y hy; have := HCC.out; omega
    have hCB : C < w2.heap.size := by omega
    have S2 : BbSt C w (w2.alloc (.cells #[.bool k2.ok, .int .i64 k2.sec, .slice la ln lc] 32)) w2.heap.size 1000 k2 (.slice la ln lc) bs2 := ⟨BlkIs.new _ _ _, hl2.keep fun y hy => Below.heap_alloc _ _ _ (hl2.lt y hy), Hf.out, hd2.bend hs2, q2.alloc _, T2.alloc T2.size _, by omega, hCl, by omega⟩
    have h3 := h2.alloc #[.bool k2.ok, .int .i64 k2.sec, .slice la ln lc] 32
    clear hc2 hf2 h1 T1 q1 h2 q2 T2 hl2 hd2 hs2 Hf
    go_wp2_with fail
    generalize (w2.alloc (.cells #[.bool k2.ok, .int .i64 k2.sec, .slice la ln lc] 32)) = W2 at *
    clear hz2
    generalize w2.heap.size = Bx at *
    refine (pick_any C _ a2 10 _ h3 (by omega) (by omega)).mono ?_
    rintro _ w3 ⟨⟨r3, rfl, _, _⟩, ⟨a3, ha3, h4⟩, hc3⟩
    have S3 := S2.chg1 hc3
    clear S2 h3 hc3
    go_upto_if 27 with fail
    go_cut [] from 9 (fun W => ∃ (k : Bk) (vl : Value) (bs : List Nat) (a4 : Nat), a4 ≤ 4000 ∧ CurAt W C (.slice x n cap) a4 ∧ BbSt C w W Bx 1030 k vl bs)
    case first =>
      by_cases hr3 : (r3 : Int) = 0
      · have hr3' : ((r3 : Int) == 0) = true := by simpa using hr3
        clear hr3
        obtain ⟨y0, y1, y2⟩ := S3.box.three
        go_wp2_with fail
        refine (bend_any C _ _ a3 1000 k2 bs2 _ h4 (by omega) S3.bk (by omega) S3.ok).mono ?_
        rintro _ w5 ⟨⟨v5, k5, bs5, rfl, ⟨vl5, rfl, hl5⟩, hb5, hf5⟩, ⟨a5, ha5, h5⟩, hc5⟩
        obtain ⟨la5, ln5, lc5, rfl⟩ := hl5.slice
        have hz3 := S3.box.lt
        have hz3' := S3.res.lt
        have hzc := h4.lt
        have Hf : Hid (∀ y ∈ bs5, y ≠ Bx ∧ y ≠ C ∧ w.heap.size < y) := fun y hy => by have := hf5 y hy; omega
        have S5 := S3.chg1 hc5
        clear S3 h4 hc5 hf5 y0 y1 y2
        obtain ⟨y0, y1, y2⟩ := S5.box.three
        have fB : ∀ y, w5.frozen? ⟨Bx, y, none⟩ = false := fun y => S5.box.frozen y
        go_wp2_with fail
        go_meet
        exact ⟨k5, _, bs5, a5, by omega, cur_box h5 hCB, S5.put hl5 Hf.out hb5⟩
      · have hr3' : ((r3 : Int) == 0) = false := by simpa using hr3
        clear hr3
        go_wp2_with fail
        go_meet
        exact ⟨k2, _, bs2, a3, by omega, h4, { S3 with ok := S3.ok.mono (by omega) }⟩
    case rest =>
      obtain ⟨k, vl, bs, a4, ha4, h6, S6⟩ := hcut
      clear S3 h4
      obtain ⟨la6, ln6, lc6, rfl⟩ := S6.lns.slice
      obtain ⟨y0, y1, y2⟩ := S6.box.three
      obtain ⟨p0, p1, p2⟩ := S6.res.three
      have fq : ∀ y, wc.frozen? ⟨w.heap.size, y, none⟩ = false := fun y => S6.res.frozen y
      have T6 := S6.below
      go_wp2
      refine bodyPost_ret (v := .tuple #[.agg #[.bool k.ok, .int .i64 k.sec, .slice la6 ln6 lc6], .pointer (some ⟨C, 0, none⟩)]) (by simp [results, Tryd.results53, go_sem, p0, p1, p2]) rfl ⟨C, a4, _, k, bs, rfl, ⟨_, rfl, res_keep S6.lns fun y hy => Nat.ne_of_gt (S6.far y hy).2.2⟩, S6.ok, fun y hy => ⟨(S6.far y hy).2.1, Nat.le_of_lt (S6.far y hy).2.2⟩, ?_, ha4, hCl, ((T6.setCell hrn _).setCell hrn _).setCell hrn _⟩
      exact ((h6.setOld (HV.out _ T6) hrn hCn).setOld (HV.out _ (T6.setCell hrn _)) hrn hCn).setOld (HV.out _ ((T6.setCell hrn _).setCell hrn _)) hrn hCn

set_option maxHeartbeats 4000000 in
set_option maxRecDepth 100000 in
theorem drawBookOk_any (v : Value) (w : World) (hv : BysLow w v w.heap.size) :
    Calls Tryd.prog 22 #[v] w fun r w' => ∃ vb k bs, r = .returned vb ∧ BkAt w' vb k bs ∧ BendOk 2000 k ∧ Below w.heap.size w w' := by
  have HV : Hid (∀ W, Below w.heap.size w W → BysLow W v w.heap.size) := fun W hW => hv.below hW
  have q0 : BlkIs (w.alloc (.cells #[.bool false, .int .i64 0, .slice none 0 0] 32)) w.heap.size [.bool false, .int .i64 0, .slice none 0 0] 32 := BlkIs.new _ _ _
  have T0 : Below w.heap.size w (w.alloc (.cells #[.bool false, .int .i64 0, .slice none 0 0] 32)) := (Below.refl _ _).alloc (Nat.le_refl _) _
  have V0 : BysLow (w.alloc (.cells #[.bool false, .int .i64 0, .slice none 0 0] 32)) v (w.alloc (.cells #[.bool false, .int .i64 0, .slice none 0 0] 32)).heap.size := by
    obtain ⟨x', n', cap', e, e1, e2, e3⟩ := HV.out _ T0
    refine ⟨x', n', cap', e, e1, e2, e3.imp id ?_⟩
    rintro ⟨b, o, f1, f2, f3⟩
    exact ⟨b, o, f1, f3.1, f3⟩
  have Hz0 : Hid ((w.alloc (.cells #[.bool false, .int .i64 0, .slice none 0 0] 32)).heap.size = w.heap.size + 1) := by show _ = _; simp
  go_enter Tryd.func22, Tryd.ntmps22
  go_wp2_with fail
  generalize (w.alloc (.cells #[.bool false, .int .i64 0, .slice none 0 0] 32)) = V at *
  refine (l4book_any v _ V0).mono ?_
  rintro _ w2 ⟨C, a2, v2, k2, bs2, rfl, ⟨vl2, rfl, hl2⟩, hk2, hf2, h2, ha2, hC2, hb2⟩
  obtain ⟨la, ln, lc, rfl⟩ := hl2.slice
  have hz0 := Hz0.out
  have hz2 := hb2.size
  have q2 := q0.below hb2 q0.lt
  have T2 := T0.trans (hb2.mono T0.size)
  have hCB : C < w2.heap.size := h2.lt
  have S2 : BbSt C w (w2.alloc (.cells #[.bool k2.ok, .int .i64 k2.sec, .slice la ln lc] 32)) w2.heap.size 1030 k2 (.slice la ln lc) bs2 := ⟨BlkIs.new _ _ _, hl2.keep fun y hy => Below.heap_alloc _ _ _ (hl2.lt y hy), fun y hy => by have := hf2 y hy; have := hl2.lt y hy; omega, hk2, q2.alloc _, T2.alloc T2.size _, by omega, by omega, by omega⟩
  have h3 := h2.alloc #[.bool k2.ok, .int .i64 k2.sec, .slice la ln lc] 32
  have hCl : w.heap.size < C := by omega
  clear hz0 hz2 Hz0 V0 q0 T0 q2 T2 h2 hb2 hf2 hk2 hl2 hC2
  go_wp2_with fail
  generalize (w2.alloc (.cells #[.bool k2.ok, .int .i64 k2.sec, .slice la ln lc] 32)) = W2 at *
  generalize w2.heap.size = Bx at *
  refine (pick_any C v a2 3 _ h3 (by omega) (by omega)).mono ?_
  rintro _ w3 ⟨⟨N, rfl, _, hN⟩, ⟨a3, ha3, h4⟩, hc3⟩
  replace hN := hN (by omega)
  have S3 := S2.chg1 hc3
  clear S2 h3 hc3
  have hrn := Nat.le_refl w.heap.size
  go_wp2_with fail
  go_loopw [5] (fun s5 W => ∃ (n : Nat) (k : Bk) (vl : Value) (bs : List Nat) (a' m : Nat), n ≤ N ∧ s5 = .int .i64 n ∧ a' ≤ 5000 + (N - n) * 100 ∧ m ≤ 1030 + (N - n) * 30 ∧ CurAt W C v a' ∧ BbSt C w W Bx m k vl bs) (fun s5 _ => (intOf s5).toNat)
  case atStart => exact ⟨N, _, _, _, a3, 1030, Nat.le_refl _, rfl, by omega, by omega, h4, S3⟩
  case round =>
    clear S3 h4
    obtain ⟨n, k, vl, bs, a4, m, hn, rfl, ha4, hm, h4, S4⟩ := hrel
    obtain ⟨la4, ln4, lc4, rfl⟩ := S4.lns.slice
    obtain ⟨y0, y1, y2⟩ := S4.box.three
    by_cases hlt : 0 < n
    · have hlt' : (0 : Int) < (n : Int) := by omega
      go_wp2_with fail
      refine (bend_any C _ _ a4 m k bs _ h4 (by omega) S4.bk (by omega) S4.ok).mono ?_
      rintro _ w5 ⟨⟨v5, k5, bs5, rfl, ⟨vl5, rfl, hl5⟩, hb5, hf5⟩, ⟨a5, ha5, h5⟩, hc5⟩
      obtain ⟨la5, ln5, lc5, rfl⟩ := hl5.slice
      have hz3 := S4.box.lt
      have hz3' := S4.res.lt
      have hzc := h4.lt
      have Hf : Hid (∀ y ∈ bs5, y ≠ Bx ∧ y ≠ C ∧ w.heap.size < y) := fun y hy => by have := hf5 y hy; omega
      have S5 := S4.chg1 hc5
      clear S4 h4 hc5 hf5 y0 y1 y2
      obtain ⟨y0, y1, y2⟩ := S5.box.three
      have fB : ∀ y, w5.frozen? ⟨Bx, y, none⟩ = false := fun y => S5.box.frozen y
      go_wp2
      go_roundw
      case rel => exact ⟨n - 1, k5, _, bs5, a5, m + 30, by omega, by rw [show ((n - 1 : Nat) : Int) = (n : Int) - 1 by omega], by omega, by omega, cur_box h5 hCB, S5.put hl5 Hf.out hb5⟩
      case measure => simp [intOf]; omega
    · obtain rfl : n = 0 := by omega
      obtain ⟨p0, p1, p2⟩ := S4.res.three
      have fq : ∀ y, wr.frozen? ⟨w.heap.size, y, none⟩ = false := fun y => S4.res.frozen y
      have T4 := S4.below
      go_wp2
      exact bodyPost_ret (v := .agg #[.bool k.ok, .int .i64 k.sec, .slice la4 ln4 lc4]) (by simp [results, Tryd.results22, go_sem, p0, p1, p2]) rfl ⟨_, k, bs, rfl, ⟨_, rfl, res_keep S4.lns fun y hy => Nat.ne_of_gt (S4.far y hy).2.2⟩, S4.ok.mono (by omega), ((T4.setCell hrn _).setCell hrn _).setCell hrn _⟩

end Go.Proofs.YtnaaheddhgpnoaaDoor
