import Derived.Test.YtnaaheddhgpnoaaDoorSpDoA
import Derived.Test.YtnaaheddhgpnoaaDoorEvt
import Derived.Test.YtnaaheddhgpnoaaDoorBegS
namespace Go.Proofs.YtnaaheddhgpnoaaDoor
open Go.ChangeShapes Go.WideShapes Go.ChangeAt Go.RowKit

theorem DrawOk.zero : DrawOk bk0 := ⟨by decide, by decide, fun i hi => by simp [bk0] at hi, fun i hi => by simp [bk0] at hi⟩
theorem DrawOk.beg (s t : Int) : DrawOk (begD s t) ∧ 0 ≤ (begD s t).sec := by
  unfold begD
  split
  · rename_i h
    refine ⟨⟨?_, ?_, fun i hi => ?_, fun i hi => ?_⟩, ?_⟩
    · show (List.replicate t.toNat lnB).length ≤ 20
      rw [List.length_replicate]; omega
    · show s ≤ 1000
      omega
    · replace hi : i < (List.replicate t.toNat lnB).length := hi
      rw [List.length_replicate] at hi
      show ((List.replicate t.toNat lnB)[i]?.getD ln0).way.length ≤ 1000
      simp [hi, lnB]
    · replace hi : i < (List.replicate t.toNat lnB).length := hi
      rw [List.length_replicate] at hi
      show 1 ≤ ((List.replicate t.toNat lnB)[i]?.getD ln0).grs.length ∧ ((List.replicate t.toNat lnB)[i]?.getD ln0).grs.length ≤ 1000
      simp [hi, lnB]
    · show 0 ≤ s
      omega
  · exact ⟨DrawOk.zero, by decide⟩

/-- What Do hands back is a book from which events can be drawn. -/
theorem DoIs.draw {k k' : Bk} {e : Ev} {c : Int} (h : DoIs k e c k') (hk : 0 ≤ k.sec) : DrawOk k' ∧ 0 ≤ k'.sec := by
  rcases h with ⟨_, _, rfl⟩ | ⟨h, _, rfl⟩
  · exact ⟨DrawOk.zero, by decide⟩
  · exact ⟨DrawOk.do h, hk⟩

/-- A book that is kept in a box, from which events can be drawn. -/
structure BoxSt (C : Nat) (w W : World) (Bx : Nat) (k : Bk) (vl : Value) (bs : List Nat) : Prop where
  chg : Chg [C] w W
  box : BlkIs W Bx [.bool k.ok, .int .i64 k.sec, vl] 32
  lns : LnsAt W vl k.lns bs
  far : ∀ x ∈ bs, x ≠ Bx ∧ w.heap.size < x
  draw : DrawOk k
  sec : 0 ≤ k.sec
theorem BoxSt.bk {C : Nat} {w W : World} {Bx : Nat} {k : Bk} {vl : Value} {bs : List Nat} (h : BoxSt C w W Bx k vl bs) : BkAt W (.agg #[.bool k.ok, .int .i64 k.sec, vl]) k bs := ⟨_, rfl, h.lns⟩
/-- Nothing of it turns. -/
theorem BoxSt.keep {C : Nat} {w W W' : World} {Bx : Nat} {k : Bk} {vl : Value} {bs : List Nat} (h : BoxSt C w W Bx k vl bs) (hc : Chg [C] w W') (hB : w.heap.size ≤ Bx) (hk : ∀ x, w.heap.size ≤ x → x < W.heap.size → W'.heap[x]? = W.heap[x]?) : BoxSt C w W' Bx k vl bs :=
  ⟨hc, h.box.keep (hk Bx hB h.box.lt), h.lns.keep fun x hx => hk x (Nat.le_of_lt (h.far x hx).2) (h.lns.lt x hx), h.far, h.draw, h.sec⟩
theorem BoxSt.chg1 {C : Nat} {w W W' : World} {Bx : Nat} {k : Bk} {vl : Value} {bs : List Nat} (h : BoxSt C w W Bx k vl bs) (hc : Chg [C] W W') (hB : w.heap.size ≤ Bx) (hC : C < w.heap.size) : BoxSt C w W' Bx k vl bs :=
  h.keep (h.chg.trans hc) hB fun x h1 h2 => hc.block x h2 (by simp; omega)
theorem BoxSt.alloc {C : Nat} {w W : World} {Bx : Nat} {k : Bk} {vl : Value} {bs : List Nat} (h : BoxSt C w W Bx k vl bs) (hB : w.heap.size ≤ Bx) (c : Array Value) (ty : TypeId) : BoxSt C w (W.alloc (.cells c ty)) Bx k vl bs :=
  h.keep (h.chg.alloc _ _) hB fun _ _ h2 => Below.heap_alloc _ _ _ h2
/-- A new book is put into the box. -/
theorem BoxSt.put {C : Nat} {w W : World} {Bx : Nat} {k k' : Bk} {vl vl' : Value} {bs bs' : List Nat} (h : BoxSt C w W Bx k vl bs) (hB : w.heap.size ≤ Bx) (hl : LnsAt W vl' k'.lns bs') (hf : ∀ x ∈ bs', x ≠ Bx ∧ w.heap.size < x) (hd : DrawOk k') (hs : 0 ≤ k'.sec) :
    BoxSt C w (((W.setCell ⟨Bx, 0, none⟩ (.bool k'.ok)).setCell ⟨Bx, 1, none⟩ (.int .i64 k'.sec)).setCell ⟨Bx, 2, none⟩ vl') Bx k' vl' bs' :=
  ⟨((h.chg.setNew hB _).setNew hB _).setNew hB _, ((h.box.set 0 _).set 1 _).set 2 _, hl.keep fun x hx => ((Below.heap_setCell _ _ _ _ (hf x hx).1).trans (Below.heap_setCell _ _ _ _ (hf x hx).1)).trans (Below.heap_setCell _ _ _ _ (hf x hx).1), hf, hd, hs⟩

set_option maxHeartbeats 4000000 in
set_option maxRecDepth 100000 in
theorem full_any (C : Nat) (v : Value) (a : Nat) (w : World) (h : CurAt w C v a) (ha : a < 576460752303423488) :
    Calls Tryd.prog 87 #[.pointer (some ⟨C, 0, none⟩)] w fun r w' => (∃ v' k' bs', r = .returned v' ∧ BkAt w' v' k' bs' ∧ DrawOk k' ∧ 0 ≤ k'.sec ∧ ∀ x ∈ bs', w.heap.size ≤ x) ∧ (∃ a', a' ≤ a + 100 ∧ CurAt w' C v a') ∧ Chg [C] w w' := by
  have hCl := h.lt
  have hDo : Hid (∀ (k : Bk) (e : Ev) (vl : Value) (bs : List Nat) (W : World), BkAt W (.agg #[.bool k.ok, .int .i64 k.sec, vl]) k bs → Calls Tryd.prog 26 #[.agg #[.bool k.ok, .int .i64 k.sec, vl], .agg #[.int .i64 e.op, .int .i64 e.train, .int .i64 e.n]] W fun r w' => RetDo W k e r w') := fun k e vl bs W h => specDo_any k e _ bs W h
  have r0 : BlkIs (w.alloc (.cells #[.bool false, .int .i64 0, .slice none 0 0] 32)) w.heap.size [.bool false, .int .i64 0, .slice none 0 0] 32 := BlkIs.new _ _ _
  have h0 := h.alloc #[.bool false, .int .i64 0, .slice none 0 0] 32
  have g0 : Chg [C] w (w.alloc (.cells #[.bool false, .int .i64 0, .slice none 0 0] 32)) := (Chg.refl _ _).alloc _ _
  clear h
  go_enter Tryd.func87, Tryd.ntmps87
  go_wp2_with fail
  generalize (w.alloc (.cells #[.bool false, .int .i64 0, .slice none 0 0] 32)) = V at *
  refine (specBegin_new 200 2 _ (by omega) (by omega) (by omega) (by omega)).mono ?_
  rintro _ w1 ⟨v1, bs1, rfl, hB1, hf1, _, hb1⟩
  have hd1 := DrawOk.beg 200 2
  generalize begD 200 2 = k0 at *
  obtain ⟨vl1, rfl, hl1⟩ := hB1
  obtain ⟨la1, ln1, lc1, rfl⟩ := hl1.slice
  have c1 : Chg [C] V w1 := Chg.ofBelow hb1
  have hz0 := r0.lt
  have hz1 := hb1.size
  have hB : w.heap.size ≤ w1.heap.size := by omega
  have hBn : w.heap.size ≠ w1.heap.size := by omega
  have S1 : BoxSt C w (w1.alloc (.cells #[.bool k0.ok, .int .i64 k0.sec, .slice la1 ln1 lc1] 32)) w1.heap.size k0 (.slice la1 ln1 lc1) bs1 :=
    ⟨(g0.trans c1).alloc _ _, BlkIs.new _ _ _, hl1.keep fun x hx => Below.heap_alloc _ _ _ (hl1.lt x hx), fun x hx => by have := hl1.lt x hx; have := hf1 x hx; omega, hd1.1, hd1.2⟩
  have q1 := (r0.chg1 c1 (by omega)).alloc (.cells #[.bool k0.ok, .int .i64 k0.sec, .slice la1 ln1 lc1] 32)
  have h1 := (h0.below hb1 h0.lt).alloc #[.bool k0.ok, .int .i64 k0.sec, .slice la1 ln1 lc1] 32
  clear c1 hb1 hf1 hl1 hd1 r0 h0 g0
  go_wp2_with fail
  generalize (w1.alloc (.cells #[.bool k0.ok, .int .i64 k0.sec, .slice la1 ln1 lc1] 32)) = W1 at *
  generalize w1.heap.size = Bx at *
  refine (pick_any C v a 2 _ h1 (by omega) (by omega)).mono ?_
  rintro _ w2 ⟨⟨r2, rfl, _, hr2⟩, ⟨a1, ha1, h2⟩, hc2⟩
  obtain ⟨N, hN⟩ : ∃ N : Nat, (100 : Int) - (r2 : Int) = (N : Int) := ⟨100 - r2, by have := hr2 (by omega); omega⟩
  replace S1 := S1.chg1 hc2 hB hCl
  replace q1 := q1.chg1 hc2 (by omega)
  replace h1 := h2
  have hN2 : N ≤ 100 := by omega
  clear h2 hc2 hr2
  go_wp2_with fail
  clear hN
  go_loopw [5] (fun si W => ∃ (j : Nat) (k : Bk) (vl : Value) (bs : List Nat), j ≤ N ∧ si = .int .i64 j ∧ CurAt W C v a1 ∧ BoxSt C w W Bx k vl bs ∧ BlkIs W w.heap.size [.bool false, .int .i64 0, .slice none 0 0] 32) (fun si _ => N - (intOf si).toNat)
  case atStart => exact ⟨0, _, _, _, Nat.zero_le _, rfl, h1, S1, q1⟩
  case round =>
    clear S1 q1 h1
    obtain ⟨j, k, vl, bs, hj, rfl, h3, S3, q3⟩ := hrel
    obtain ⟨la, ln, lc, rfl⟩ := S3.lns.slice
    obtain ⟨y0, y1, y2⟩ := S3.box.three
    by_cases hlt : j < N
    · have hlt' : (j : Int) < (N : Int) := by omega
      go_wp2_with fail
      refine (hDo.out k ⟨1, 0, (j : Int)⟩ _ bs _ S3.bk).mono ?_
      rintro _ w4 ⟨c, k', vr, bs', rfl, ⟨vl', rfl, hl'⟩, hIs, hb4, hf4⟩
      obtain ⟨la', ln', lc', rfl⟩ := hl'.slice
      have HIs : Hid (DoIs k ⟨1, 0, (j : Int)⟩ c k') := hIs
      clear hIs y0 y1 y2
      have hz := S3.box.lt
      have hz4 := hb4.size
      have c4 : Chg [C] wr w4 := Chg.ofBelow hb4
      have S4 := (S3.chg1 c4 hB hCl).alloc hB #[.int .i64 c, .bool k'.ok, .int .i64 k'.sec, .slice la' ln' lc'] 34
      have q4 := (q3.chg1 c4 (by omega)).alloc (.cells #[.int .i64 c, .bool k'.ok, .int .i64 k'.sec, .slice la' ln' lc'] 34)
      have h4 := (h3.below hb4 h3.lt).alloc #[.int .i64 c, .bool k'.ok, .int .i64 k'.sec, .slice la' ln' lc'] 34
      have l4 := hl'.keep (w' := w4.alloc (.cells #[.int .i64 c, .bool k'.ok, .int .i64 k'.sec, .slice la' ln' lc'] 34)) fun x hx => Below.heap_alloc _ _ _ (hl'.lt x hx)
      have Hf : Hid (∀ x ∈ bs', x ≠ Bx ∧ w.heap.size < x) := fun x hx => by have := hf4 x hx; omega
      have SP := S4.put hB l4 Hf.out (HIs.out.draw S3.sec).1 (HIs.out.draw S3.sec).2
      have hP := ((h4.setNew (b := Bx) (o := 0) (u := .bool k'.ok) (by omega)).setNew (b := Bx) (o := 1) (u := .int .i64 k'.sec) (by omega)).setNew (b := Bx) (o := 2) (u := .slice la' ln' lc') (by omega)
      have qP := ((q4.other (x := Bx) (by omega) 0 (.bool k'.ok)).other (x := Bx) (by omega) 1 (.int .i64 k'.sec)).other (x := Bx) (by omega) 2 (.slice la' ln' lc')
      obtain ⟨y0, y1, y2⟩ := S4.box.three
      have fB : ∀ x, (w4.alloc (.cells #[.int .i64 c, .bool k'.ok, .int .i64 k'.sec, .slice la' ln' lc'] 34)).frozen? ⟨Bx, x, none⟩ = false := fun x => S4.box.frozen x
      have hne : ¬ w4.heap.size = Bx := by omega
      have hBlt : Bx < w4.heap.size := by omega
      have D4 : BlkIs (w4.alloc (.cells #[.int .i64 c, .bool k'.ok, .int .i64 k'.sec, .slice la' ln' lc'] 34)) w4.heap.size [.int .i64 c, .bool k'.ok, .int .i64 k'.sec, .slice la' ln' lc'] 34 := BlkIs.new _ _ _
      obtain ⟨d0, d1, d2, d3⟩ := D4.four
      clear S4 q4 h4 l4 hb4 c4 hf4 hl' D4 hne hBlt
      go_upto_region 7 with fail
      generalize (w4.alloc (.cells #[.int .i64 c, .bool k'.ok, .int .i64 k'.sec, .slice la' ln' lc'] 34)) = W4 at *
      generalize w4.heap.size = z4 at *
      go_wp2
      go_roundw
      case rel => exact ⟨j + 1, k', _, bs', by omega, by go_num, hP, SP, qP⟩
      case measure => simp [intOf]; omega
    · obtain rfl : j = N := by omega
      go_wp2_with fail
      refine (pick_any C v a1 2 _ h3 (by omega) (by omega)).mono ?_
      rintro _ w5 ⟨⟨r5, rfl, _, hr5⟩, ⟨a2, ha2, h2⟩, hc5⟩
      obtain ⟨M, hM⟩ : ∃ M : Nat, (19 : Int) - (r5 : Int) = (M : Int) := ⟨19 - r5, by have := hr5 (by omega); omega⟩
      have S2 := S3.chg1 hc5 hB hCl
      have q2 := q3.chg1 hc5 (by omega)
      have hM2 : M ≤ 100 := by omega
      clear S3 q3 h3 hc5 hr5 y0 y1 y2
      go_wp2_with fail
      clear hM
      go_loopw [7] (fun si W => ∃ (j : Nat) (k : Bk) (vl : Value) (bs : List Nat), j ≤ M ∧ si = .int .i64 j ∧ CurAt W C v a2 ∧ BoxSt C w W Bx k vl bs ∧ BlkIs W w.heap.size [.bool false, .int .i64 0, .slice none 0 0] 32) (fun si _ => M - (intOf si).toNat)
      case atStart => exact ⟨0, _, _, _, Nat.zero_le _, rfl, h2, S2, q2⟩
      case round =>
        clear S2 q2 h2
        obtain ⟨j, k, vl, bs, hj, rfl, h3, S3, q3⟩ := hrel
        obtain ⟨la, ln, lc, rfl⟩ := S3.lns.slice
        obtain ⟨y0, y1, y2⟩ := S3.box.three
        by_cases hlt : j < M
        · have hlt' : (j : Int) < (M : Int) := by omega
          go_wp2_with fail
          refine (hDo.out k ⟨2, 0, (j : Int)⟩ _ bs _ S3.bk).mono ?_
          rintro _ w4 ⟨c, k', vr, bs', rfl, ⟨vl', rfl, hl'⟩, hIs, hb4, hf4⟩
          obtain ⟨la', ln', lc', rfl⟩ := hl'.slice
          have HIs : Hid (DoIs k ⟨2, 0, (j : Int)⟩ c k') := hIs
          clear hIs y0 y1 y2
          have hz := S3.box.lt
          have hz4 := hb4.size
          have c4 : Chg [C] wr w4 := Chg.ofBelow hb4
          have S4 := (S3.chg1 c4 hB hCl).alloc hB #[.int .i64 c, .bool k'.ok, .int .i64 k'.sec, .slice la' ln' lc'] 34
          have q4 := (q3.chg1 c4 (by omega)).alloc (.cells #[.int .i64 c, .bool k'.ok, .int .i64 k'.sec, .slice la' ln' lc'] 34)
          have h4 := (h3.below hb4 h3.lt).alloc #[.int .i64 c, .bool k'.ok, .int .i64 k'.sec, .slice la' ln' lc'] 34
          have l4 := hl'.keep (w' := w4.alloc (.cells #[.int .i64 c, .bool k'.ok, .int .i64 k'.sec, .slice la' ln' lc'] 34)) fun x hx => Below.heap_alloc _ _ _ (hl'.lt x hx)
          have Hf : Hid (∀ x ∈ bs', x ≠ Bx ∧ w.heap.size < x) := fun x hx => by have := hf4 x hx; omega
          have SP := S4.put hB l4 Hf.out (HIs.out.draw S3.sec).1 (HIs.out.draw S3.sec).2
          have hP := ((h4.setNew (b := Bx) (o := 0) (u := .bool k'.ok) (by omega)).setNew (b := Bx) (o := 1) (u := .int .i64 k'.sec) (by omega)).setNew (b := Bx) (o := 2) (u := .slice la' ln' lc') (by omega)
          have qP := ((q4.other (x := Bx) (by omega) 0 (.bool k'.ok)).other (x := Bx) (by omega) 1 (.int .i64 k'.sec)).other (x := Bx) (by omega) 2 (.slice la' ln' lc')
          obtain ⟨y0, y1, y2⟩ := S4.box.three
          have fB : ∀ x, (w4.alloc (.cells #[.int .i64 c, .bool k'.ok, .int .i64 k'.sec, .slice la' ln' lc'] 34)).frozen? ⟨Bx, x, none⟩ = false := fun x => S4.box.frozen x
          have hne : ¬ w4.heap.size = Bx := by omega
          have hBlt : Bx < w4.heap.size := by omega
          have D4 : BlkIs (w4.alloc (.cells #[.int .i64 c, .bool k'.ok, .int .i64 k'.sec, .slice la' ln' lc'] 34)) w4.heap.size [.int .i64 c, .bool k'.ok, .int .i64 k'.sec, .slice la' ln' lc'] 34 := BlkIs.new _ _ _
          obtain ⟨d0, d1, d2, d3⟩ := D4.four
          clear S4 q4 h4 l4 hb4 c4 hf4 hl' D4 hne hBlt
          go_upto_region 13 with fail
          generalize (w4.alloc (.cells #[.int .i64 c, .bool k'.ok, .int .i64 k'.sec, .slice la' ln' lc'] 34)) = W4 at *
          generalize w4.heap.size = z4 at *
          go_wp2
          go_roundw
          case rel => exact ⟨j + 1, k', _, bs', by omega, by go_num, hP, SP, qP⟩
          case measure => simp [intOf]; omega
        · obtain rfl : j = M := by omega
          have hz := S3.box.lt
          obtain ⟨p0, p1, p2⟩ := q3.three
          have fq : ∀ x, wr.frozen? ⟨w.heap.size, x, none⟩ = false := fun x => q3.frozen x
          go_wp2
          refine bodyPost_ret (v := .agg #[.bool k.ok, .int .i64 k.sec, .slice la ln lc]) (by simp [results, Tryd.results87, go_sem, p0, p1, p2]) rfl ⟨⟨_, k, bs, rfl, ⟨_, rfl, S3.lns.keep fun x hx => ?_⟩, S3.draw, S3.sec, fun x hx => Nat.le_of_lt (S3.far x hx).2⟩, ⟨a2, by omega, ((h3.setNew hCl).setNew hCl).setNew hCl⟩, ((S3.chg.setNew (Nat.le_refl _) _).setNew (Nat.le_refl _) _).setNew (Nat.le_refl _) _⟩
          have ne : x ≠ w.heap.size := by have := S3.far x hx; omega
          rw [Below.heap_setCell _ _ _ _ ne, Below.heap_setCell _ _ _ _ ne, Below.heap_setCell _ _ _ _ ne]

end Go.Proofs.YtnaaheddhgpnoaaDoor
