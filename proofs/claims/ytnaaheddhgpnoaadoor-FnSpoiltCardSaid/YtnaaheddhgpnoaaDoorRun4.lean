import Derived.Test.YtnaaheddhgpnoaaDoorFull
import Derived.Deep.AppendLies
namespace Go.Proofs.YtnaaheddhgpnoaaDoor
open Go.ChangeShapes Go.WideShapes Go.ChangeAt Go.RowKit

theorem Tryd.infoEv : (Tryd.prog.info? 46).map (fun i => (i.zero, i.size, i.bytes)) = some (some (.agg #[.int .i64 0, .int .i64 0, .int .i64 0]), 3, 24) := by kernel_rfl

theorem wrapP {r : Nat} (h : (r : Int) < 12) : IntKind.i64.wrap (1 + (r : Int)) = 1 + (r : Int) := by
  rw [IntKind.wrap_i64]
  omega

theorem own_chg {w w' : World} {B T n size C : Nat} {v : Value} {xs : List Value} (h : w.ownsRow B T size v n xs) (hc : Chg [C] w w') (hC : C < B) : w'.ownsRow B T size v n xs :=
  h.kept (row := some C) ⟨hc.os, hc.tape, hc.output, hc.size, fun k hk hne => hc.block k hk (by simp only [List.mem_singleton]; intro e; exact hne (by rw [e]))⟩ (Or.inr fun e => by have := (h.lt C e).1; omega)

/-- What the loop that draws events keeps. -/
structure RunSt (C : Nat) (w W : World) (Bx : Nat) (k : Bk) (vl : Value) (bs : List Nat) (out : Value) (cnt : Nat) (xs : List Value) : Prop where
  st : BoxSt C w W Bx k vl bs
  res : BlkIs W w.heap.size [.bool false, .int .i64 0, .slice none 0 0] 32
  own : W.ownsRow (Bx + 1) 46 3 out cnt xs
  far : ∀ x ∈ bs, out.ownBlock ≠ some x
  lo : w.heap.size < Bx
  cur : C < w.heap.size
theorem RunSt.chg1 {C : Nat} {w W W' : World} {Bx : Nat} {k : Bk} {vl : Value} {bs : List Nat} {out : Value} {cnt : Nat} {xs : List Value} (h : RunSt C w W Bx k vl bs out cnt xs) (hc : Chg [C] W W') : RunSt C w W' Bx k vl bs out cnt xs :=
  ⟨h.st.chg1 hc (Nat.le_of_lt h.lo) h.cur, h.res.chg1 hc (by have := h.cur; omega), own_chg h.own hc (by have := h.cur; have := h.lo; omega), h.far, h.lo, h.cur⟩
theorem RunSt.alloc {C : Nat} {w W : World} {Bx : Nat} {k : Bk} {vl : Value} {bs : List Nat} {out : Value} {cnt : Nat} {xs : List Value} (h : RunSt C w W Bx k vl bs out cnt xs) (c : Array Value) (ty : TypeId) : RunSt C w (W.alloc (.cells c ty)) Bx k vl bs out cnt xs :=
  ⟨h.st.alloc (Nat.le_of_lt h.lo) _ _, h.res.alloc _, h.own.alloc _, h.far, h.lo, h.cur⟩
theorem RunSt.other {C : Nat} {w W : World} {Bx E o : Nat} {k : Bk} {vl u : Value} {bs : List Nat} {out : Value} {cnt : Nat} {xs : List Value} (h : RunSt C w W Bx k vl bs out cnt xs) (h1 : Bx ≠ E) (h2 : ∀ x ∈ bs, x ≠ E) (h3 : out.ownBlock ≠ some E) (h4 : w.heap.size < E) : RunSt C w (W.setCell ⟨E, o, none⟩ u) Bx k vl bs out cnt xs :=
  ⟨⟨h.st.chg.setNew (Nat.le_of_lt h4) _, h.st.box.other h1 _ _, h.st.lns.keep fun x hx => Below.heap_setCell _ _ _ _ (h2 x hx), h.st.far, h.st.draw, h.st.sec⟩, h.res.other (by omega) _ _, own_set h.own h3 _, h.far, h.lo, h.cur⟩
theorem RunSt.put {C : Nat} {w W : World} {Bx : Nat} {k k' : Bk} {vl vl' : Value} {bs bs' : List Nat} {out : Value} {cnt : Nat} {xs : List Value} (h : RunSt C w W Bx k vl bs out cnt xs) (hl : LnsAt W vl' k'.lns bs') (hf : ∀ x ∈ bs', x ≠ Bx ∧ w.heap.size < x) (hd : DrawOk k') (hs : 0 ≤ k'.sec) (hfar : ∀ x ∈ bs', out.ownBlock ≠ some x) :
    RunSt C w (((W.setCell ⟨Bx, 0, none⟩ (.bool k'.ok)).setCell ⟨Bx, 1, none⟩ (.int .i64 k'.sec)).setCell ⟨Bx, 2, none⟩ vl') Bx k' vl' bs' out cnt xs := by
  have hne : out.ownBlock ≠ some Bx := fun e => by have := (h.own.lt Bx e).1; omega
  have hr : w.heap.size ≠ Bx := Nat.ne_of_lt h.lo
  exact ⟨h.st.put (Nat.le_of_lt h.lo) hl hf hd hs, ((h.res.other hr _ _).other hr _ _).other hr _ _, own_set (own_set (own_set h.own hne _) hne _) hne _, hfar, h.lo, h.cur⟩
theorem RunSt.grow {C : Nat} {w W W' : World} {Bx g cap : Nat} {k : Bk} {vl : Value} {bs : List Nat} {out : Value} {cnt : Nat} {xs xs' : List Value} (h : RunSt C w W Bx k vl bs out cnt xs) (hg : W.grownBy W' out.ownBlock) (ho : W'.ownsRow (Bx + 1) 46 3 (.slice (some ⟨g, 0, none⟩) (cnt + 1) cap) (cnt + 1) xs') (hat : out.ownBlock = some g ∨ g = W.heap.size) :
    RunSt C w W' Bx k vl bs (.slice (some ⟨g, 0, none⟩) (cnt + 1) cap) (cnt + 1) xs' := by
  have hlo := h.lo
  have hB : ∀ b, b ≤ Bx → b < W.heap.size → W'.heap[b]? = W.heap[b]? := fun b hb hl => hg.block b hl fun e => by have := (h.own.lt b e.symm).1; omega
  have hz := h.st.box.lt
  refine ⟨⟨⟨hg.os.trans h.st.chg.os, hg.tape.trans h.st.chg.tape, hg.output.trans h.st.chg.output, Nat.le_trans h.st.chg.size hg.size, fun x hx hn => (hB x (by omega) (by omega)).trans (h.st.chg.block x hx hn), fun b o hb => (World.frozen?_of_block (a := ⟨b, o, none⟩) (hB b (by omega) (by omega))).trans (h.st.chg.frozen b o hb)⟩, h.st.box.keep (hB Bx (Nat.le_refl _) hz), h.st.lns.keep fun x hx => hg.block x (h.st.lns.lt x hx) fun e => h.far x hx e.symm, h.st.far, h.st.draw, h.st.sec⟩, h.res.keep (hB _ (Nat.le_of_lt hlo) h.res.lt), ho, fun x hx e => ?_, hlo, h.cur⟩
  replace e : g = x := Option.some.inj e
  subst e
  rcases hat with hat | hat
  · exact h.far g hx hat
  · have := h.st.lns.lt g hx
    omega

theorem CurAt.grown {C : Nat} {w W W' : World} {Bx a : Nat} {k : Bk} {v vl : Value} {bs : List Nat} {out : Value} {cnt : Nat} {xs : List Value} (h : CurAt W C v a) (R : RunSt C w W Bx k vl bs out cnt xs) (hg : W.grownBy W' out.ownBlock) : CurAt W' C v a :=
  h.keep hg.size fun x hx => hg.block x (by have := h.lt; omega) fun e => by have := (R.own.lt x e.symm).1; have := R.lo; have := R.cur; omega

set_option maxHeartbeats 4000000 in
set_option maxRecDepth 100000 in
theorem l4run_any (C : Nat) (v : Value) (a : Nat) (w : World) (h : CurAt w C v a) (ha : a < 1152921504606) :
    Calls Tryd.prog 34 #[.pointer (some ⟨C, 0, none⟩), .int .i64 30] w fun r w' => (∃ v1 v2 v3 v' k' bs', r = .returned (.tuple #[v1, v2, v3, v']) ∧ BkAt w' v' k' bs' ∧ DrawOk k' ∧ 0 ≤ k'.sec ∧ ∀ x ∈ bs', w.heap.size ≤ x) ∧ (∃ a', a' ≤ a + 3000 ∧ CurAt w' C v a') ∧ Chg [C] w w' := by
  have hCl := h.lt
  have hDo : Hid (∀ (k : Bk) (e : Ev) (vl : Value) (bs : List Nat) (W : World), BkAt W (.agg #[.bool k.ok, .int .i64 k.sec, vl]) k bs → Calls Tryd.prog 26 #[.agg #[.bool k.ok, .int .i64 k.sec, vl], .agg #[.int .i64 e.op, .int .i64 e.train, .int .i64 e.n]] W fun r w' => RetDo W k e r w') := fun k e vl bs W h => specDo_any k e _ bs W h
  obtain ⟨iE, hiE, hzE0, hzE1, hzE2⟩ := info_parts Tryd.infoEv
  have r0 : BlkIs (w.alloc (.cells #[.bool false, .int .i64 0, .slice none 0 0] 32)) w.heap.size [.bool false, .int .i64 0, .slice none 0 0] 32 := BlkIs.new _ _ _
  have h0 := h.alloc #[.bool false, .int .i64 0, .slice none 0 0] 32
  have g0 : Chg [C] w (w.alloc (.cells #[.bool false, .int .i64 0, .slice none 0 0] 32)) := (Chg.refl _ _).alloc _ _
  clear h
  go_enter Tryd.func34, Tryd.ntmps34
  go_wp2_with fail
  generalize (w.alloc (.cells #[.bool false, .int .i64 0, .slice none 0 0] 32)) = V at *
  refine (pick_any C v a 12 _ h0 (by omega) (by omega)).mono ?_
  rintro _ w1 ⟨⟨r1, rfl, _, hr1⟩, ⟨a1, ha1, h1⟩, hc1⟩
  replace hr1 := hr1 (by omega)
  have q1 := r0.chg1 hc1 (by omega)
  have g1 := g0.trans hc1
  clear r0 h0 g0 hc1
  obtain ⟨S, hS⟩ : ∃ S : Nat, (1 : Int) + (r1 : Int) = (S : Int) := ⟨1 + r1, by omega⟩
  have hS1 : 1 ≤ (S : Int) := by omega
  have hS2 : (S : Int) ≤ 200 := by omega
  go_wp2_with fail
  clear hS
  refine (pick_any C v a1 5 _ h1 (by omega) (by omega)).mono ?_
  rintro _ w2 ⟨⟨r2, rfl, _, hr2⟩, ⟨a2, ha2, h2⟩, hc2⟩
  replace hr2 := hr2 (by omega)
  have q2 := q1.chg1 hc2 (by omega)
  have g2 := g1.trans hc2
  clear q1 h1 g1 hc2
  go_wp2_with fail
  refine (specBegin_new (S : Int) (r2 : Int) _ hS1 hS2 (by omega) (by omega)).mono ?_
  rintro _ w3 ⟨v3, bs3, rfl, hB3, hf3, _, hb3⟩
  have hd3 := DrawOk.beg (S : Int) (r2 : Int)
  generalize begD (S : Int) (r2 : Int) = k0 at *
  obtain ⟨vl3, rfl, hl3⟩ := hB3
  obtain ⟨la3, ln3, lc3, rfl⟩ := hl3.slice
  have c3 : Chg [C] w2 w3 := Chg.ofBelow hb3
  have hz0 := q2.lt
  have hz3 := hb3.size
  have hB : w.heap.size ≤ w3.heap.size := by omega
  have S3 : BoxSt C w (w3.alloc (.cells #[.bool k0.ok, .int .i64 k0.sec, .slice la3 ln3 lc3] 32)) w3.heap.size k0 (.slice la3 ln3 lc3) bs3 :=
    ⟨(g2.trans c3).alloc _ _, BlkIs.new _ _ _, hl3.keep fun x hx => Below.heap_alloc _ _ _ (hl3.lt x hx), fun x hx => by have := hl3.lt x hx; have := hf3 x hx; omega, hd3.1, hd3.2⟩
  have q3 := (q2.chg1 c3 (by omega)).alloc (.cells #[.bool k0.ok, .int .i64 k0.sec, .slice la3 ln3 lc3] 32)
  have h3 := (h2.below hb3 h2.lt).alloc #[.bool k0.ok, .int .i64 k0.sec, .slice la3 ln3 lc3] 32
  have hBn : w.heap.size ≠ w3.heap.size := by omega
  clear c3 hb3 hf3 hl3 hd3 q2 h2 g2
  go_wp2_with fail
  generalize (w3.alloc (.cells #[.bool k0.ok, .int .i64 k0.sec, .slice la3 ln3 lc3] 32)) = W3 at *
  generalize w3.heap.size = Bx at *
  refine (pick_any C v a2 30 _ h3 (by omega) (by omega)).mono ?_
  rintro _ w4 ⟨⟨N, rfl, _, hN⟩, ⟨a4, ha4, h4⟩, hc4⟩
  replace hN := hN (by omega)
  have S4 := S3.chg1 hc4 hB hCl
  have q4 := q3.chg1 hc4 (by omega)
  clear S3 q3 h3 hc4 hr1 hr2 hS1 hS2
  go_wp2_with fail
  have hlo : w.heap.size < Bx := by omega
  have R4 : RunSt C w w4 Bx k0 (.slice la3 ln3 lc3) bs3 (.slice none 0 0) 0 [] := ⟨S4, q4, World.ownsRow_nil _ _ _ _, fun x _ => by simp [Value.ownBlock], hlo, hCl⟩
  clear S4 q4
  go_loopw [11, 12] (fun s11 s12 W => ∃ (n : Nat) (k : Bk) (vl : Value) (bs : List Nat) (cnt : Nat) (xs : List Value) (a' : Nat), n ≤ N ∧ s12 = .int .i64 n ∧ cnt + n = N ∧ a' ≤ a + 10 + cnt * 60 ∧ CurAt W C v a' ∧ RunSt C w W Bx k vl bs s11 cnt xs) (fun _ s12 _ => (intOf s12).toNat)
  case atStart => exact ⟨N, _, _, _, 0, [], a4, Nat.le_refl _, rfl, by omega, by omega, h4, R4⟩
  case round =>
    clear R4 h4
    obtain ⟨n, k, vl, bs, cnt, xs, a5, hn, rfl, hcn, ha5, h5, R5⟩ := hrel
    obtain ⟨la, ln, lc, rfl⟩ := R5.st.lns.slice
    obtain ⟨oa, oc, rfl⟩ := own_slice R5.own
    obtain ⟨y0, y1, y2⟩ := R5.st.box.three
    by_cases hlt : 0 < n
    · have hlt' : (0 : Int) < (n : Int) := by omega
      have hCb : C ∉ bs := fun hm => by have := R5.st.far C hm; omega
      go_wp2_with fail
      refine (event_any C v _ a5 k bs _ h5 (by omega) R5.st.bk hCb R5.st.draw).mono ?_
      rintro _ w6 ⟨⟨e, rfl⟩, ⟨a6, ha6, h6⟩, hc6⟩
      have HFr : Hid (∀ x, wr.heap.size ≤ x → Bx ≠ x ∧ (∀ y ∈ bs, y ≠ x) ∧ (Value.slice oa cnt oc).ownBlock ≠ some x ∧ w.heap.size < x) := fun x hx => ⟨by have := R5.st.box.lt; omega, fun y hy => by have := R5.st.lns.lt y hy; omega, fun e => by have := (R5.own.lt x e).2; omega, by have := R5.st.box.lt; omega⟩
      have hz6 := hc6.size
      have R6 := (R5.chg1 hc6).alloc #[.int .i64 e.op, .int .i64 e.train, .int .i64 e.n] 46
      have h6' := h6.alloc #[.int .i64 e.op, .int .i64 e.train, .int .i64 e.n] 46
      have E6 : BlkIs (w6.alloc (.cells #[.int .i64 e.op, .int .i64 e.train, .int .i64 e.n] 46)) w6.heap.size [.int .i64 e.op, .int .i64 e.train, .int .i64 e.n] 46 := BlkIs.new _ _ _
      clear R5 h5 h6 hc6 y0 y1 y2 hCb
      go_wp2_with fail
      generalize (w6.alloc (.cells #[.int .i64 e.op, .int .i64 e.train, .int .i64 e.n] 46)) = W6 at *
      have hEx := HFr.out _ hz6
      have hEC : w6.heap.size ≠ C := by have := h6'.lt; have := hEx.2.2.2; omega
      have hCE : C < w6.heap.size := by have := hEx.2.2.2; omega
      have HEx : Hid (Bx ≠ w6.heap.size ∧ (∀ y ∈ bs, y ≠ w6.heap.size) ∧ (Value.slice oa cnt oc).ownBlock ≠ some w6.heap.size ∧ w.heap.size < w6.heap.size) := hEx
      clear hEx hz6
      generalize w6.heap.size = Ex at *
      refine (pick_any C v a6 30 _ h6' (by omega) (by omega)).mono ?_
      rintro _ w7 ⟨⟨r7, rfl, _, _⟩, ⟨a7, ha7, h7⟩, hc7⟩
      have R7 := R6.chg1 hc7
      have E7 := E6.chg1 hc7 hEC
      clear R6 E6 h6' hc7
      go_upto_if 35 with fail
      go_cut [] from 26 to 49 (fun W => ∃ (e' : Ev) (a8 : Nat), a8 ≤ a5 + 50 ∧ CurAt W C v a8 ∧ RunSt C w W Bx k (.slice la ln lc) bs (.slice oa cnt oc) cnt xs ∧ BlkIs W Ex [.int .i64 e'.op, .int .i64 e'.train, .int .i64 e'.n] 46)
      case first =>
        by_cases hr7 : (r7 : Int) = 0
        · have hr7' : ((r7 : Int) == 0) = true := by simpa using hr7
          clear hr7
          go_wp2_with fail
          refine (odd_any C v a7 _ h7 (by omega)).mono ?_
          rintro _ w8 ⟨⟨e', rfl⟩, ⟨a8, ha8, h8⟩, hc8⟩
          have R8 := R7.chg1 hc8
          have E8 := E7.chg1 hc8 hEC
          clear R7 E7 h7 hc8
          obtain ⟨x0, x1, x2⟩ := E8.three
          have fE : ∀ x, w8.frozen? ⟨Ex, x, none⟩ = false := fun x => E8.frozen x
          go_wp2_with fail
          go_meet
          exact ⟨e', a8, by omega, ((h8.setNew hCE).setNew hCE).setNew hCE, ((R8.other HEx.out.1 HEx.out.2.1 HEx.out.2.2.1 HEx.out.2.2.2).other HEx.out.1 HEx.out.2.1 HEx.out.2.2.1 HEx.out.2.2.2).other HEx.out.1 HEx.out.2.1 HEx.out.2.2.1 HEx.out.2.2.2, ((E8.set 0 _).set 1 _).set 2 _⟩
        · have hr7' : ((r7 : Int) == 0) = false := by simpa using hr7
          clear hr7
          go_wp2_with fail
          go_meet
          exact ⟨e, a7, by omega, h7, R7, E7⟩
      case rest =>
        obtain ⟨e', a8, ha8, h8, R8, E8⟩ := hcut
        clear R7 E7 h7
        obtain ⟨x0, x1, x2⟩ := E8.three
        obtain ⟨y0, y1, y2⟩ := R8.st.box.three
        go_wp2_with fail
        refine (hDo.out k e' _ bs _ R8.st.bk).mono ?_
        rintro _ w9 ⟨c, k', vr, bs', rfl, ⟨vl', rfl, hl'⟩, hIs, hb9, hf9⟩
        obtain ⟨la', ln', lc', rfl⟩ := hl'.slice
        have HIs : Hid (DoIs k e' c k') := hIs
        clear hIs x0 x1 x2 y0 y1 y2
        have hz9 := hb9.size
        have hz8 := R8.st.box.lt
        have c9 : Chg [C] wc w9 := Chg.ofBelow hb9
        have R9 := (R8.chg1 c9).alloc #[.int .i64 c, .bool k'.ok, .int .i64 k'.sec, .slice la' ln' lc'] 34
        have E9 := (E8.chg1 c9 hEC).alloc (.cells #[.int .i64 c, .bool k'.ok, .int .i64 k'.sec, .slice la' ln' lc'] 34)
        have h9 := (h8.below hb9 h8.lt).alloc #[.int .i64 c, .bool k'.ok, .int .i64 k'.sec, .slice la' ln' lc'] 34
        have l9 := hl'.keep (w' := w9.alloc (.cells #[.int .i64 c, .bool k'.ok, .int .i64 k'.sec, .slice la' ln' lc'] 34)) fun x hx => Below.heap_alloc _ _ _ (hl'.lt x hx)
        have Hf : Hid (∀ x ∈ bs', x ≠ Bx ∧ w.heap.size < x) := fun x hx => by have := hf9 x hx; omega
        have Hf2 : Hid (∀ x ∈ bs', (Value.slice oa cnt oc).ownBlock ≠ some x) := fun x hx e => by have := hf9 x hx; have := (R8.own.lt x e).2; omega
        have Hf3 : Hid (∀ x ∈ bs', x ≠ Ex) := fun x hx e => by have := hf9 x hx; have := E8.lt; omega
        have HD' : Hid (c ≠ 1 → DrawOk k' ∧ 0 ≤ k'.sec) := fun _ => HIs.out.draw R8.st.sec
        have D9 : BlkIs (w9.alloc (.cells #[.int .i64 c, .bool k'.ok, .int .i64 k'.sec, .slice la' ln' lc'] 34)) w9.heap.size [.int .i64 c, .bool k'.ok, .int .i64 k'.sec, .slice la' ln' lc'] 34 := BlkIs.new _ _ _
        have hDB : Bx ≠ w9.heap.size := by omega
        clear R8 E8 h8 hb9 c9 hf9 hl' HIs
        go_upto_region 12 with fail
        generalize (w9.alloc (.cells #[.int .i64 c, .bool k'.ok, .int .i64 k'.sec, .slice la' ln' lc'] 34)) = W9 at *
        generalize w9.heap.size = Dx at *
        obtain ⟨d0, d1, d2, d3⟩ := D9.four
        go_upto_if 43 with fail
        go_cut [] from 26 to 49 (fun W => ∃ (k1 : Bk) (vl1 : Value) (bs1 : List Nat), CurAt W C v a8 ∧ RunSt C w W Bx k1 vl1 bs1 (.slice oa cnt oc) cnt xs ∧ BlkIs W Ex [.int .i64 e'.op, .int .i64 e'.train, .int .i64 e'.n] 46)
        case first =>
          by_cases hc1 : c = 1
          · have hc1' : (c != 1) = false := by simp [hc1]
            clear hc1
            go_wp2_with fail
            go_meet
            exact ⟨k, _, bs, h9, R9, E9⟩
          · have hc1' : (c != 1) = true := by simp [hc1]
            have Hdd := HD'.out hc1
            have HDD : Hid (DrawOk k' ∧ 0 ≤ k'.sec) := Hdd
            clear hc1 Hdd
            obtain ⟨y0, y1, y2⟩ := R9.st.box.three
            have fB : ∀ x, W9.frozen? ⟨Bx, x, none⟩ = false := fun x => R9.st.box.frozen x
            have hCB : C < Bx := by omega
            go_wp2_with fail
            go_meet
            exact ⟨k', _, bs', ((h9.setNew hCB).setNew hCB).setNew hCB, R9.put l9 Hf.out HDD.out.1 HDD.out.2 Hf2.out, ((E9.other HEx.out.1.symm _ _).other HEx.out.1.symm _ _).other HEx.out.1.symm _ _⟩
        case rest =>
          obtain ⟨k1, vl1, bs1, h10, R10, E10⟩ := hcut
          clear R9 E9 h9 l9 d0 d1 d2 d3 D9
          obtain ⟨x0, x1, x2⟩ := E10.three
          have hlt10 := (R10.own.alloc (.cells #[.int .i64 e'.op, .int .i64 e'.train, .int .i64 e'.n] 46))
          have hBz := R10.st.box.lt
          go_wp2_with (first
            | (at_builtin; refine wpList_append_lies _ rfl _ _ 23 rfl (Bx + 1) 46 iE _ 3 24 Tryd.underlying23 hiE hzE0 hzE1 hzE2 rfl (by decide) (.slice oa cnt oc) cnt xs rfl hlt10 ⟨wc.heap.size, 0, none⟩ 1 1 [.int .i64 e'.op, .int .i64 e'.train, .int .i64 e'.n] rfl rfl (World.news_of_block (cs := #[.int .i64 e'.op, .int .i64 e'.train, .int .i64 e'.n]) (t := 46) (fr := (0, 0)) (heap_alloc_new wc _)) (by simp [Value.oneCell']) (by omega) (by unfold maxLen; omega) (by omega) (by simp; omega) (wc.heap.size + 1) (by simp) ?_
               intro g cap w11 hown11 hgrow11 hat11 hlt11))
          go_roundw
          case rel => exact ⟨n - 1, k1, vl1, bs1, cnt + 1, _, a8, by omega, by rw [show ((n - 1 : Nat) : Int) = (n : Int) - 1 by omega], by omega, by omega, (h10.alloc _ _).grown (R10.alloc _ _) hgrow11, (R10.alloc _ _).grow hgrow11 hown11 (by simpa using hat11)⟩
          case measure => simp [intOf]; omega
    · obtain rfl : n = 0 := by omega
      obtain ⟨p0, p1, p2⟩ := R5.res.three
      have fq : ∀ x, wr.frozen? ⟨w.heap.size, x, none⟩ = false := fun x => R5.res.frozen x
      go_wp2_with fail
      go_region
      go_wp2
      have hrn := Nat.le_refl w.heap.size
      refine bodyPost_ret (v := .tuple #[.int .i64 (S : Int), .int .i64 (r2 : Int), .slice oa cnt oc, .agg #[.bool k.ok, .int .i64 k.sec, .slice la ln lc]]) (by simp [results, Tryd.results34, go_sem, p0, p1, p2]) rfl ⟨⟨_, _, _, _, k, bs, rfl, ⟨_, rfl, R5.st.lns.keep fun x hx => ?_⟩, R5.st.draw, R5.st.sec, fun x hx => Nat.le_of_lt (R5.st.far x hx).2⟩, ⟨a5, by omega, (((h5.setNew hCl).setNew hCl).setNew hCl).drew⟩, (((R5.st.chg.setNew hrn _).setNew hrn _).setNew hrn _).drew⟩
      have ne : x ≠ w.heap.size := by have := R5.st.far x hx; omega
      show (((wr.setCell _ _).setCell _ _).setCell _ _).heap[x]? = _
      rw [Below.heap_setCell _ _ _ _ ne, Below.heap_setCell _ _ _ _ ne, Below.heap_setCell _ _ _ _ ne]

end Go.Proofs.YtnaaheddhgpnoaaDoor
