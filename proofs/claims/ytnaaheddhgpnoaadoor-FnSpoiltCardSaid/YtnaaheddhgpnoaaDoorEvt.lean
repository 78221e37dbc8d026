import Derived.Test.YtnaaheddhgpnoaaDoorOdd
import Derived.Test.YtnaaheddhgpnoaaDoorOwner
import Derived.Test.YtnaaheddhgpnoaaDoorDrD
import Derived.Deep.CutBlock
namespace Go.Proofs.YtnaaheddhgpnoaaDoor
open Go.ChangeShapes Go.WideShapes Go.ChangeAt Go.RowKit

theorem BkAt.chg1 {w w' : World} {C : Nat} {v : Value} {k : Bk} {bs : List Nat} (h : BkAt w v k bs) (hc : Chg [C] w w') (hC : C ∉ bs) : BkAt w' v k bs := h.keep fun b hb => hc.block b (h.lt b hb) (by simp; rintro rfl; exact hC hb)

theorem Chg.ofBelow {bs : List Nat} {w w' : World} (h : Below w.heap.size w w') : Chg bs w w' := ⟨h.os, h.tape, h.output, h.size, fun k hk _ => h.block k hk, fun b o hb => (bcell h).2 b o hb⟩
theorem wrap1 {r : Nat} (h : (r : Int) < 5) : 1 ≤ IntKind.i64.wrap (1 + (r : Int)) ∧ IntKind.i64.wrap (1 + (r : Int)) ≤ 5 := by
  rw [IntKind.wrap_i64]
  omega
theorem pick_lt {n r : Nat} (h1 : (n : Int) ≤ 1 → r = 0) (h2 : 1 < (n : Int) → (r : Int) < n) (hn : 1 ≤ n) : r < n := by
  by_cases e : n = 1
  · have := h1 (by omega)
    omega
  · have := h2 (by omega)
    omega

set_option maxHeartbeats 4000000 in
set_option maxRecDepth 100000 in
theorem event_any (C : Nat) (v vb : Value) (a : Nat) (k : Bk) (bs : List Nat) (w : World) (h : CurAt w C v a) (ha : a < 576460752303423488) (hk : BkAt w vb k bs) (hC : C ∉ bs) (hd : DrawOk k) :
    Calls Tryd.prog 69 #[.pointer (some ⟨C, 0, none⟩), vb] w fun r w' => (∃ e : Ev, r = .returned (.agg #[.int .i64 e.op, .int .i64 e.train, .int .i64 e.n])) ∧ (∃ a', a' ≤ a + 40 ∧ CurAt w' C v a') ∧ Chg [C] w w' := by
  have hCl := h.lt
  have HK : Hid (∀ W, Chg [C] w W → BkAt W vb k bs) := fun W hW => hk.chg1 hW hC
  have HD : Hid (DrawOk k) := hd
  obtain ⟨vl, rfl, hl⟩ := hk
  have hfew := hd.few
  obtain ⟨al, cl, rfl, hl1, hl2, hl3⟩ := hl
  unfold maxLen at hl2
  have hsec := hd.sec
  have HLL : Hid (∀ t, t < k.lns.length → ∃ L o D, al = some ⟨L, o, none⟩ ∧ L < w.heap.size ∧ L ≠ C ∧ (∀ x ∈ D, x ≠ C) ∧ LnCells w L (o + t * 4) (k.lns[t]?.getD ln0) D) := fun t ht => by
    rcases hl3 with ⟨h0', _⟩ | ⟨L, o, D, h1', hbs, h2', h3'⟩
    · omega
    · exact ⟨L, o, D t, h1', h2', fun e => hC (by rw [hbs, ← e]; exact List.mem_cons_self ..), fun x hx e => hC (by rw [hbs, ← e]; exact List.mem_cons_of_mem _ (List.mem_flatMap.2 ⟨t, List.mem_range.2 ht, hx⟩)), h3' t ht⟩
  clear hl3 hd hC
  generalize hn : k.lns.length = n at *
  have Hn : Hid (k.lns.length = n) := hn
  clear hn
  have b0 : BlkIs ((w.alloc (.cells #[.bool k.ok, .int .i64 k.sec, .slice al n cl] 32)).alloc (.cells #[.int .i64 0, .int .i64 0, .int .i64 0] 46)) w.heap.size [.bool k.ok, .int .i64 k.sec, .slice al n cl] 32 := (BlkIs.new _ _ _).alloc _
  have r0 : BlkIs ((w.alloc (.cells #[.bool k.ok, .int .i64 k.sec, .slice al n cl] 32)).alloc (.cells #[.int .i64 0, .int .i64 0, .int .i64 0] 46)) (w.heap.size + 1) [.int .i64 0, .int .i64 0, .int .i64 0] 46 := by
    have := BlkIs.new (w.alloc (.cells #[.bool k.ok, .int .i64 k.sec, .slice al n cl] 32)) [.int .i64 0, .int .i64 0, .int .i64 0] 46
    rwa [World.size_alloc] at this
  have h0 := (h.alloc #[.bool k.ok, .int .i64 k.sec, .slice al n cl] 32).alloc #[.int .i64 0, .int .i64 0, .int .i64 0] 46
  have g0 : Chg [C] w ((w.alloc (.cells #[.bool k.ok, .int .i64 k.sec, .slice al n cl] 32)).alloc (.cells #[.int .i64 0, .int .i64 0, .int .i64 0] 46)) := ((Chg.refl _ _).alloc _ _).alloc _ _
  have Hz : Hid (((w.alloc (.cells #[.bool k.ok, .int .i64 k.sec, .slice al n cl] 32)).alloc (.cells #[.int .i64 0, .int .i64 0, .int .i64 0] 46)).heap.size = w.heap.size + 2) := by show _ = _; simp
  clear h
  by_cases hA : (n : Int) = 0 ∨ k.sec < 1
  · have hA0 : Hid True := trivial
    have hAA : ((n : Int) == 0) = true ∨ ((n : Int) == 0) = false ∧ k.sec < 1 := by
      by_cases e : (n : Int) = 0
      · exact Or.inl (by simpa using e)
      · exact Or.inr ⟨by simpa using e, by rcases hA with h | h; exact absurd h e; exact h⟩
    clear hA
    rcases hAA with hA1 | ⟨hA1, hA2⟩
    · go_enter Tryd.func69, Tryd.ntmps69
      go_wp2_with fail
      generalize ((w.alloc (.cells #[.bool k.ok, .int .i64 k.sec, .slice al n cl] 32)).alloc (.cells #[.int .i64 0, .int .i64 0, .int .i64 0] 46)) = V at *
      refine (pick_any C v a 7 _ h0 (by omega) (by omega)).mono ?_
      rintro _ w1 ⟨⟨r1, rfl, _, _⟩, ⟨a1, ha1, h1⟩, hc1⟩
      have q1 := r0.chg1 hc1 (by omega)
      have hC1 := h1.lt
      obtain ⟨x0, x1, x2⟩ := q1.three
      have fR : ∀ x, w1.frozen? ⟨w.heap.size + 1, x, none⟩ = false := fun x => q1.frozen x
      have g1 := g0.trans hc1
      have hb1 : w.heap.size ≤ w.heap.size + 1 := by omega
      clear hc1 h0 g0 b0 HK HLL
      go_wp2
      refine bodyPost_ret (v := .agg #[.int .i64 (r1 : Int), .int .i64 0, .int .i64 0]) (by simp [results, Tryd.results69, go_sem, x0, x1, x2]) rfl ⟨⟨⟨(r1 : Int), 0, 0⟩, rfl⟩, ⟨a1, by omega, ((h1.setNew (by omega)).setNew (by omega)).setNew (by omega)⟩, ((g1.setNew hb1 _).setNew hb1 _).setNew hb1 _⟩
    · go_enter Tryd.func69, Tryd.ntmps69
      go_wp2_with fail
      generalize ((w.alloc (.cells #[.bool k.ok, .int .i64 k.sec, .slice al n cl] 32)).alloc (.cells #[.int .i64 0, .int .i64 0, .int .i64 0] 46)) = V at *
      refine (pick_any C v a 7 _ h0 (by omega) (by omega)).mono ?_
      rintro _ w1 ⟨⟨r1, rfl, _, _⟩, ⟨a1, ha1, h1⟩, hc1⟩
      have q1 := r0.chg1 hc1 (by omega)
      have hC1 := h1.lt
      obtain ⟨x0, x1, x2⟩ := q1.three
      have fR : ∀ x, w1.frozen? ⟨w.heap.size + 1, x, none⟩ = false := fun x => q1.frozen x
      have g1 := g0.trans hc1
      have hb1 : w.heap.size ≤ w.heap.size + 1 := by omega
      clear hc1 h0 g0 b0 HK HLL
      go_wp2
      refine bodyPost_ret (v := .agg #[.int .i64 (r1 : Int), .int .i64 0, .int .i64 0]) (by simp [results, Tryd.results69, go_sem, x0, x1, x2]) rfl ⟨⟨⟨(r1 : Int), 0, 0⟩, rfl⟩, ⟨a1, by omega, ((h1.setNew (by omega)).setNew (by omega)).setNew (by omega)⟩, ((g1.setNew hb1 _).setNew hb1 _).setNew hb1 _⟩
  · have hA1 : ¬ (n : Int) = 0 := fun h => hA (Or.inl h)
    have hA2 : ¬ k.sec < 1 := fun h => hA (Or.inr h)
    have hA3 : ((n : Int) == 0) = false := by simpa using hA1
    have Hn1 : Hid (1 ≤ n) := by show 1 ≤ n; omega
    clear hA hA1
    go_enter Tryd.func69, Tryd.ntmps69
    go_upto_region 3 with fail
    generalize ((w.alloc (.cells #[.bool k.ok, .int .i64 k.sec, .slice al n cl] 32)).alloc (.cells #[.int .i64 0, .int .i64 0, .int .i64 0] 46)) = V at *
    obtain ⟨y0, y1, y2⟩ := b0.three
    have hb0 : w.heap.size ≠ C := by omega
    have hb1 : w.heap.size + 1 ≠ C := by omega
    have Z0 : BlkIs (V.alloc (.cells #[.int .i64 0, .int .i64 0, .int .i64 0] 46)) V.heap.size [.int .i64 0, .int .i64 0, .int .i64 0] 46 := BlkIs.new _ _ _
    have HY : Hid (∀ W, Chg [C] V W → W.cell? ⟨w.heap.size, 2, none⟩ = some (.slice al n cl)) := fun W hW => (b0.chg1 hW hb0).cell 2
    have hVz := Hz.out
    have HVz : Hid (V.heap.size = w.heap.size + 2) := hVz
    clear hVz
    have hEC : V.heap.size ≠ C := Nat.ne_of_gt h0.lt
    have ya : ∀ q, (V.alloc q).cell? ⟨w.heap.size, 2, none⟩ = some (.slice al n cl) := fun q => (cell_keep (Below.heap_alloc _ _ _ b0.lt)).trans y2
    have HYa : Hid (∀ W q, Chg [C] V W → (W.alloc q).cell? ⟨w.heap.size, 2, none⟩ = some (.slice al n cl)) := fun W q hW => (cell_keep (Below.heap_alloc _ _ _ (Nat.lt_of_lt_of_le b0.lt hW.size))).trans (HY.out W hW)
    have c1 : CurAt V.drew C v a := h0.drew
    have c2 : CurAt (V.alloc (.cells #[.int .i64 0, .int .i64 0, .int .i64 0] 46)).drew C v a := (h0.alloc _ _).drew
    have d1 : Chg [C] V V.drew := (Chg.refl [C] V).drew
    have d2 : Chg [C] V (V.alloc (.cells #[.int .i64 0, .int .i64 0, .int .i64 0] 46)).drew := ((Chg.refl [C] V).alloc _ _).drew
    have Hp1 : Hid (∀ W, CurAt W C v a → Chg [C] V W → Calls Tryd.prog 54 #[.pointer (some ⟨C, 0, none⟩), .int .i64 5] W fun e w' => (∃ r : Nat, e = .returned (.int .i64 (r : Int)) ∧ (r : Int) < 5) ∧ (∃ a', a' ≤ a + 2 ∧ CurAt w' C v a') ∧ Chg [C] V w' ∧ Chg [C] W w') := fun W h1 h2 => (pick_any C v a 5 _ h1 (by omega) (by omega)).mono fun e w' ⟨⟨r, q1, q2, q3⟩, q4, q5⟩ => ⟨⟨r, q1, q3 (by omega)⟩, q4, h2.trans q5, q5⟩
    have Hp2 : Hid (∀ W a1, a1 ≤ a + 2 → CurAt W C v a1 → Chg [C] V W → Calls Tryd.prog 54 #[.pointer (some ⟨C, 0, none⟩), .int .i64 (n : Int)] W fun e w' => (∃ r : Nat, e = .returned (.int .i64 (r : Int)) ∧ r < n) ∧ (∃ a', a' ≤ a + 4 ∧ CurAt w' C v a') ∧ Chg [C] V w' ∧ Chg [C] W w') := fun W a1 h1 h2 h3 => (pick_any C v a1 n _ h2 (by omega) (by omega)).mono fun e w' ⟨⟨r, q1, q2, q3⟩, ⟨a', q4, q5⟩, q6⟩ => ⟨⟨r, q1, pick_lt q2 q3 Hn1.out⟩, ⟨a', by omega, q5⟩, h3.trans q6, q6⟩
    go_cut [5] from 20 (fun s5 W => ∃ (E : Nat) (op tr : Int) (a2 : Nat), s5 = .pointer (some ⟨E, 0, none⟩) ∧ w.heap.size + 2 ≤ E ∧ 1 ≤ op ∧ op ≤ 5 ∧ 0 ≤ tr ∧ tr < (n : Int) ∧ a2 ≤ a + 4 ∧ CurAt W C v a2 ∧ Chg [C] V W ∧ BlkIs W E [.int .i64 op, .int .i64 tr, .int .i64 0] 46)
    case first =>
      go_region_with (first
        | (go_at_call 54; (with_reducible refine (Hp2.out w1 a1 ha1 h1 g1).mono ?_); rintro _ w2 ⟨⟨r2, rfl, hr2⟩, ⟨a2, ha2, h2⟩, g2, k2⟩; have E2 := E1.chg1 k2 hEC; obtain ⟨e0, e1, e2⟩ := E2.three; have ef : ∀ x, w2.frozen? ⟨V.heap.size, x, none⟩ = false := fun x => E2.frozen x)
        | (go_at_call 54; (with_reducible refine (Hp2.out w1 a1 ha1 h1 g1).mono ?_); rintro _ w2 ⟨⟨r2, rfl, hr2⟩, ⟨a2, ha2, h2⟩, g2, k2⟩)
        | (go_at_call 54; (with_reducible refine (Hp2.out (w1.alloc (.cells #[.int .i64 0, .int .i64 0, .int .i64 0] 46)) a1 ha1 (h1.alloc _ _) (g1.alloc _ _)).mono ?_); rintro _ w2 ⟨⟨r2, rfl, hr2⟩, ⟨a2, ha2, h2⟩, g2, k2⟩; have E2 := (BlkIs.new w1 [.int .i64 0, .int .i64 0, .int .i64 0] 46).chg1 k2 (Nat.ne_of_gt h1.lt); obtain ⟨e0, e1, e2⟩ := E2.three; have ef : ∀ x, w2.frozen? ⟨w1.heap.size, x, none⟩ = false := fun x => E2.frozen x)
        | (go_at_call 54; (with_reducible refine (Hp1.out V.drew c1 d1).mono ?_); rintro _ w1 ⟨⟨r1, rfl, hr1⟩, ⟨a1, ha1, h1⟩, g1, k1⟩; have y2' := HY.out w1 g1; have yb := fun q => HYa.out w1 q g1)
        | (go_at_call 54; (with_reducible refine (Hp1.out (V.alloc (.cells #[.int .i64 0, .int .i64 0, .int .i64 0] 46)).drew c2 d2).mono ?_); rintro _ w1 ⟨⟨r1, rfl, hr1⟩, ⟨a1, ha1, h1⟩, g1, k1⟩; have y2' := HY.out w1 g1; have yb := fun q => HYa.out w1 q g1; have E1 := BlkIs.chg1 (w := (V.alloc (.cells #[.int .i64 0, .int .i64 0, .int .i64 0] 46)).drew) Z0 k1 hEC))
      all_goals (go_wp2_with fail; go_meet; first
        | exact ⟨w2.heap.size, _, _, a2, rfl, by have := HVz.out; have := g2.size; omega, (wrap1 hr1).1, (wrap1 hr1).2, Int.natCast_nonneg _, Int.ofNat_lt.2 hr2, ha2, h2.alloc _ _, g2.alloc _ _, BlkIs.new w2 _ _⟩
        | exact ⟨V.heap.size, _, _, a2, rfl, by have := HVz.out; omega, (wrap1 hr1).1, (wrap1 hr1).2, Int.natCast_nonneg _, Int.ofNat_lt.2 hr2, ha2, ((h2.setNew h0.lt).setNew h0.lt).setNew h0.lt, ((g2.setNew (Nat.le_refl _) _).setNew (Nat.le_refl _) _).setNew (Nat.le_refl _) _, ((E2.set 0 _).set 1 _).set 2 _⟩
        | exact ⟨w1.heap.size, _, _, a2, rfl, by have := HVz.out; have := g1.size; omega, (wrap1 hr1).1, (wrap1 hr1).2, Int.natCast_nonneg _, Int.ofNat_lt.2 hr2, ha2, ((h2.setNew h1.lt).setNew h1.lt).setNew h1.lt, ((g2.setNew g1.size _).setNew g1.size _).setNew g1.size _, ((E2.set 0 _).set 1 _).set 2 _⟩)
    case rest =>
      obtain ⟨E, op, tr, a2, rfl, hE, o1, o2, t1, t2, ha2, h2, g2, E2⟩ := hcut
      obtain ⟨t, rfl⟩ := Int.eq_ofNat_of_zero_le t1
      have htn : t < n := by omega
      have gw := g0.trans g2
      have bw := b0.chg1 g2 hb0
      have rw' := r0.chg1 g2 hb1
      have hC2 := h2.lt
      have hECC : E ≠ C := by omega
      obtain ⟨L, o, D, hal, hL, hLC, hDC, vw, vg, D1, D2, p0, p1, p2, p3, hDD, hiw, hig⟩ := HLL.out t htn
      subst hal
      have gk := gw.block L hL (by simpa using hLC)
      replace p0 := (cell_keep gk).trans p0
      replace p1 := (cell_keep gk).trans p1
      replace p2 := (cell_keep gk).trans p2
      replace p3 := (cell_keep gk).trans p3
      clear gk
      have hway := HD.out.way t (by rw [Hn.out]; exact htn)
      have hgrs := HD.out.grs t (by rw [Hn.out]; exact htn)
      generalize k.lns[t]?.getD ln0 = l at *
      obtain ⟨aw, cw, rfl, hw1, hw2, _⟩ := hiw
      obtain ⟨ag, cg, rfl, hg1, hg2, hg3⟩ := hig
      unfold maxLen at hw2 hg2
      have hgG : ∃ gb og, ag = some ⟨gb, og, none⟩ ∧ gb < w.heap.size ∧ gb ≠ C ∧ ∀ i, i < l.grs.length → ∃ z : Int, w.cell? ⟨gb, og + i * 2, none⟩ = some (.int .i64 z) := by
        rcases hg3 with ⟨h0', _⟩ | ⟨gb, og, e1, e2, e3, e4⟩
        · omega
        · exact ⟨gb, og, e1, e3, hDC gb (by rw [hDD, e2]; simp), fun i hi => ⟨_, (e4 i hi).1⟩⟩
      obtain ⟨gb, og, hag, hgb, hgbC, hgz⟩ := hgG
      subst hag
      have HG : Hid (∀ W, Chg [C] w W → ∀ i, i < l.grs.length → ∃ z : Int, W.cell? ⟨gb, og + i * 2, none⟩ = some (.int .i64 z)) := fun W hW i hi => by
        obtain ⟨z, hz⟩ := hgz i hi
        exact ⟨z, (cell_keep (hW.block gb hgb (by simpa using hgbC))).trans hz⟩
      have Hg1 : Hid (1 ≤ l.grs.length) := hgrs.1
      clear hg3 hgz hDD hDC
      generalize hnw : l.way.length = nw at *
      generalize hng : l.grs.length = ng at *
      obtain ⟨y0', y1', y2'⟩ := bw.three
      obtain ⟨e0, e1, e2⟩ := E2.three
      have htn' : (t : Int) < (n : Int) := by omega
      have XU : BlkIs (wc.alloc (.cells #[.int .i64 l.gone, .slice aw nw cw, .slice (some ⟨gb, og, none⟩) ng cg, .int .i64 l.drop] 38)) wc.heap.size [.int .i64 l.gone, .slice aw nw cw, .slice (some ⟨gb, og, none⟩) ng cg, .int .i64 l.drop] 38 := BlkIs.new _ _ _
      have EU := E2.alloc (.cells #[.int .i64 l.gone, .slice aw nw cw, .slice (some ⟨gb, og, none⟩) ng cg, .int .i64 l.drop] 38)
      have bU := bw.alloc (.cells #[.int .i64 l.gone, .slice aw nw cw, .slice (some ⟨gb, og, none⟩) ng cg, .int .i64 l.drop] 38)
      have rU := rw'.alloc (.cells #[.int .i64 l.gone, .slice aw nw cw, .slice (some ⟨gb, og, none⟩) ng cg, .int .i64 l.drop] 38)
      have hU := h2.alloc #[.int .i64 l.gone, .slice aw nw cw, .slice (some ⟨gb, og, none⟩) ng cg, .int .i64 l.drop] 38
      have gU := gw.alloc #[.int .i64 l.gone, .slice aw nw cw, .slice (some ⟨gb, og, none⟩) ng cg, .int .i64 l.drop] 38
      go_wp2_with fail
      generalize (wc.alloc (.cells #[.int .i64 l.gone, .slice aw nw cw, .slice (some ⟨gb, og, none⟩) ng cg, .int .i64 l.drop] 38)) = U at *
      have hXC : wc.heap.size ≠ C := by omega
      have hzE : w.heap.size ≤ wc.heap.size := gw.size
      have hEz : E < wc.heap.size := E2.lt
      generalize wc.heap.size = zx at *
      refine (pick_any C v a2 3 _ hU (by omega) (by omega)).mono ?_
      rintro _ w3 ⟨⟨r3, rfl, _, _⟩, ⟨a3, ha3, h3⟩, hc3⟩
      have X3 := XU.chg1 hc3 hXC
      have E3 := EU.chg1 hc3 hECC
      have b3 := bU.chg1 hc3 hb0
      have q3 := rU.chg1 hc3 hb1
      have g3 := gU.trans hc3
      clear XU EU bU rU hU gU hc3 E2 bw rw' h2 gw g2 y0' y1' y2' e0 e1 e2 p0 p1 p2 p3
      obtain ⟨e0, e1, e2⟩ := E3.three
      have fE : ∀ x, w3.frozen? ⟨E, x, none⟩ = false := fun x => E3.frozen x
      go_upto_if 37 with fail
      go_cut [] from 38 (fun W => ∃ (op' : Int) (a4 : Nat), 1 ≤ op' ∧ op' ≤ 5 ∧ a4 ≤ a + 6 ∧ CurAt W C v a4 ∧ Chg [C] w W ∧ BlkIs W w.heap.size [.bool k.ok, .int .i64 k.sec, .slice (some ⟨L, o, none⟩) n cl] 32 ∧ BlkIs W (w.heap.size + 1) [.int .i64 0, .int .i64 0, .int .i64 0] 46 ∧ BlkIs W E [.int .i64 op', .int .i64 (t : Int), .int .i64 0] 46 ∧ BlkIs W zx [.int .i64 l.gone, .slice aw nw cw, .slice (some ⟨gb, og, none⟩) ng cg, .int .i64 l.drop] 38)
      case first =>
        by_cases hr3 : (r3 : Int) = 0
        · have hr3' : ((r3 : Int) == 0) = true := by simpa using hr3
          go_wp2_with fail
          go_meet
          exact ⟨1, a3, by omega, by omega, by omega, h3.setNew (by omega), g3.setNew (by omega) _, b3.other (by omega) _ _, q3.other (by omega) _ _, E3.set 0 _, X3.other (by omega) _ _⟩
        · have hr3' : ((r3 : Int) == 0) = false := by simpa using hr3
          go_wp2_with fail
          go_meet
          exact ⟨op, a3, o1, o2, by omega, h3, g3, b3, q3, E3, X3⟩
      case rest =>
        obtain ⟨op', a4, o3, o4, ha4, h4, g4, b4, q4, E4, X4⟩ := hcut
        clear X3 E3 b3 q3 g3 h3 e0 e1 e2 fE
        obtain ⟨e0, e1, e2⟩ := E4.three
        obtain ⟨x0, x1, x2, x3⟩ := X4.four
        have fE : ∀ x, wc.frozen? ⟨E, x, none⟩ = false := fun x => E4.frozen x
        have hCE : C < E := by omega
        have hwE : w.heap.size ≤ E := by omega
        have hE1 : w.heap.size + 1 ≠ E := by omega
        have hE0 : w.heap.size ≠ E := by omega
        have hop : op' = 1 ∨ op' = 2 ∨ op' = 3 ∨ op' = 4 ∨ op' = 5 := by omega
        have Hop : Hid (op' = 1 ∨ op' = 2 ∨ op' = 3 ∨ op' = 4 ∨ op' = 5) := hop
        clear hop o3 o4
        go_upto_block 0 with fail
        go_cut [] from 8 (fun W => ∃ (nn : Int) (a5 : Nat), a5 ≤ a + 20 ∧ CurAt W C v a5 ∧ Chg [C] w W ∧ BlkIs W (w.heap.size + 1) [.int .i64 0, .int .i64 0, .int .i64 0] 46 ∧ BlkIs W E [.int .i64 op', .int .i64 (t : Int), .int .i64 nn] 46)
        case first =>
          rcases Hop.out with rfl | rfl | rfl | rfl | rfl
          · clear Hop
            have HO : Hid (∀ W, BkAt W (.agg #[.bool k.ok, .int .i64 k.sec, .slice (some ⟨L, o, none⟩) n cl]) k bs → ∀ s, Calls Tryd.prog 60 #[.agg #[.bool k.ok, .int .i64 k.sec, .slice (some ⟨L, o, none⟩) n cl], .int .i64 s] W fun e w' => RetOwner e k s ∧ Below W.heap.size W w') := fun W h s => specOwner_any k _ bs s W h
            obtain ⟨y0, y1, y2⟩ := b4.three
            go_wp2_with fail
            refine (pick_any C v a4 k.sec _ h4 (by omega) (by omega)).mono ?_
            rintro _ w5 ⟨⟨r5, rfl, _, _⟩, ⟨a5, ha5, h5⟩, k5⟩
            have E5 := E4.chg1 k5 hECC
            have b5 := b4.chg1 k5 hb0
            have q5 := q4.chg1 k5 hb1
            have g5 := g4.trans k5
            clear E4 b4 q4 g4 h4 X4 k5 e0 e1 e2 x0 x1 x2 x3 y0 y1 y2 fE
            obtain ⟨e0, e1, e2⟩ := E5.three
            have fE : ∀ x, w5.frozen? ⟨E, x, none⟩ = false := fun x => E5.frozen x
            go_wp2_with fail
            go_loopw [7] (fun s7 W => ∃ (j : Nat) (nn : Int) (a' : Nat), j ≤ 3 ∧ s7 = .int .i64 j ∧ a' ≤ a + 8 + 2 * j ∧ CurAt W C v a' ∧ Chg [C] w W ∧ BlkIs W w.heap.size [.bool k.ok, .int .i64 k.sec, .slice (some ⟨L, o, none⟩) n cl] 32 ∧ BlkIs W (w.heap.size + 1) [.int .i64 0, .int .i64 0, .int .i64 0] 46 ∧ BlkIs W E [.int .i64 1, .int .i64 (t : Int), .int .i64 nn] 46) (fun s7 _ => 3 - (intOf s7).toNat)
            case atStart => exact ⟨0, _, a5, by omega, rfl, by omega, h5.setNew hCE, g5.setNew hwE _, b5.other hE0 _ _, q5.other hE1 _ _, E5.set 2 _⟩
            case round =>
              clear E5 b5 q5 g5 h5 e0 e1 e2 fE
              obtain ⟨j, nn, a6, hj, rfl, ha6, h6, g6, b6, q6, E6⟩ := hrel
              obtain ⟨e0, e1, e2⟩ := E6.three
              obtain ⟨y0, y1, y2⟩ := b6.three
              by_cases hj3 : j < 3
              · have hj3' : (j : Int) < 3 := by omega
                go_wp2_with fail
                refine (HO.out _ (HK.out _ g6) nn).mono ?_
                rintro _ w7 ⟨⟨ro, rfl, _⟩, hb7⟩
                have c7 : Chg [C] wr w7 := Chg.ofBelow hb7
                have E7 := E6.chg1 c7 hECC
                have b7 := b6.chg1 c7 hb0
                have q7 := q6.chg1 c7 hb1
                have g7 := g6.trans c7
                have h7 := h6.below hb7 h6.lt
                clear E6 b6 q6 g6 h6 hb7 c7 e0 e1 e2 y0 y1 y2
                obtain ⟨e0, e1, e2⟩ := E7.three
                obtain ⟨y0, y1, y2⟩ := b7.three
                by_cases hro : 0 ≤ ro
                · go_wp2_with fail
                  refine (pick_any C v a6 k.sec _ h7 (by omega) (by omega)).mono ?_
                  rintro _ w8 ⟨⟨r8, rfl, _, _⟩, ⟨a8, ha8, h8⟩, k8⟩
                  have E8 := E7.chg1 k8 hECC
                  have b8 := b7.chg1 k8 hb0
                  have q8 := q7.chg1 k8 hb1
                  have g8 := g7.trans k8
                  clear E7 b7 q7 g7 h7 k8 e0 e1 e2 y0 y1 y2
                  obtain ⟨e0, e1, e2⟩ := E8.three
                  have fE : ∀ x, w8.frozen? ⟨E, x, none⟩ = false := fun x => E8.frozen x
                  go_wp2
                  go_roundw
                  case rel => exact ⟨j + 1, _, a8, by omega, by go_num, by omega, h8.setNew hCE, g8.setNew hwE _, b8.other hE0 _ _, q8.other hE1 _ _, E8.set 2 _⟩
                  case measure => simp [intOf]; omega
                · go_wp2_with fail
                  go_meet
                  exact ⟨nn, a6, by omega, h7, g7, q7, E7⟩
              · obtain rfl : j = 3 := by omega
                go_wp2_with fail
                go_meet
                exact ⟨nn, a6, by omega, h6, g6, q6, E6⟩
          · clear Hop
            go_upto_region 16 with fail
            have hwn : IntKind.i64.wrap ((nw : Int) + 1) ≤ 1048576 := by rw [IntKind.wrap_i64]; omega
            have Hq : Hid (Calls Tryd.prog 54 #[.pointer (some ⟨C, 0, none⟩), .int .i64 (IntKind.i64.wrap ((nw : Int) + 1))] wc.drew fun e w' => (∃ r : Nat, e = .returned (.int .i64 (r : Int))) ∧ (∃ a', a' ≤ a + 8 ∧ CurAt w' C v a') ∧ Chg [C] wc w') := (pick_any C v a4 _ _ h4.drew (by omega) hwn).mono fun e w' ⟨⟨r, q1, _, _⟩, ⟨a', q4, q5⟩, q6⟩ => ⟨⟨r, q1⟩, ⟨a', by omega, q5⟩, (Chg.refl [C] wc).drew.trans q6⟩
            go_region_with (go_at_call 54; (with_reducible refine Hq.out.mono ?_); rintro _ w5 ⟨⟨r5, rfl⟩, ⟨a5, ha5, h5⟩, k5⟩; obtain ⟨z0, z1, z2, z3⟩ := (X4.chg1 k5 hXC).four; have E5 := E4.chg1 k5 hECC; obtain ⟨f0, f1, f2⟩ := E5.three; have fE5 : ∀ x, w5.frozen? ⟨E, x, none⟩ = false := fun x => E5.frozen x)
            all_goals (go_wp2_with fail; go_meet; exact ⟨_, a5, by omega, h5.setNew hCE, (g4.trans k5).setNew hwE _, (q4.chg1 k5 hb1).other hE1 _ _, E5.set 2 _⟩)
          · clear Hop
            go_upto_region 18 with fail
            have Hq : Hid (Calls Tryd.prog 54 #[.pointer (some ⟨C, 0, none⟩), .int .i64 (ng : Int)] wc.drew fun e w' => (∃ r : Nat, e = .returned (.int .i64 (r : Int)) ∧ r < ng) ∧ (∃ a', a' ≤ a + 8 ∧ CurAt w' C v a') ∧ Chg [C] wc w') := (pick_any C v a4 _ _ h4.drew (by omega) (by omega)).mono fun e w' ⟨⟨r, q1, q2, q3⟩, ⟨a', q4, q5⟩, q6⟩ => ⟨⟨r, q1, pick_lt q2 q3 Hg1.out⟩, ⟨a', by omega, q5⟩, (Chg.refl [C] wc).drew.trans q6⟩
            go_region_with (go_at_call 54; (with_reducible refine Hq.out.mono ?_); rintro _ w5 ⟨⟨r5, rfl, hr5⟩, ⟨a5, ha5, h5⟩, k5⟩; obtain ⟨z0, z1, z2, z3⟩ := (X4.chg1 k5 hXC).four; have E5 := E4.chg1 k5 hECC; obtain ⟨f0, f1, f2⟩ := E5.three; have fE5 : ∀ x, w5.frozen? ⟨E, x, none⟩ = false := fun x => E5.frozen x; obtain ⟨zz, hzz⟩ := HG.out w5 (g4.trans k5) r5 hr5; have hr5' : (r5 : Int) < (ng : Int) := Int.ofNat_lt.2 hr5)
            all_goals (go_wp2_with fail; go_meet; exact ⟨_, a5, by omega, h5.setNew hCE, (g4.trans k5).setNew hwE _, (q4.chg1 k5 hb1).other hE1 _ _, E5.set 2 _⟩)
          · clear Hop
            go_upto_region 20 with fail
            have Hq : Hid (Calls Tryd.prog 54 #[.pointer (some ⟨C, 0, none⟩), .int .i64 3] wc.drew fun e w' => (∃ r : Nat, e = .returned (.int .i64 (r : Int))) ∧ (∃ a', a' ≤ a + 8 ∧ CurAt w' C v a') ∧ Chg [C] wc w') := (pick_any C v a4 _ _ h4.drew (by omega) (by omega)).mono fun e w' ⟨⟨r, q1, _, _⟩, ⟨a', q4, q5⟩, q6⟩ => ⟨⟨r, q1⟩, ⟨a', by omega, q5⟩, (Chg.refl [C] wc).drew.trans q6⟩
            go_region_with (go_at_call 54; (with_reducible refine Hq.out.mono ?_); rintro _ w5 ⟨⟨r5, rfl⟩, ⟨a5, ha5, h5⟩, k5⟩; obtain ⟨z0, z1, z2, z3⟩ := (X4.chg1 k5 hXC).four; have E5 := E4.chg1 k5 hECC; obtain ⟨f0, f1, f2⟩ := E5.three; have fE5 : ∀ x, w5.frozen? ⟨E, x, none⟩ = false := fun x => E5.frozen x)
            all_goals (go_wp2_with fail; go_meet; exact ⟨_, a5, by omega, h5.setNew hCE, (g4.trans k5).setNew hwE _, (q4.chg1 k5 hb1).other hE1 _ _, E5.set 2 _⟩)
          · clear Hop
            go_upto_region 8 with fail
            have hwn : IntKind.i64.wrap ((nw : Int) + 1) ≤ 1048576 := by rw [IntKind.wrap_i64]; omega
            have Hq : Hid (Calls Tryd.prog 54 #[.pointer (some ⟨C, 0, none⟩), .int .i64 (IntKind.i64.wrap ((nw : Int) + 1))] wc.drew fun e w' => (∃ r : Nat, e = .returned (.int .i64 (r : Int))) ∧ (∃ a', a' ≤ a + 8 ∧ CurAt w' C v a') ∧ Chg [C] wc w') := (pick_any C v a4 _ _ h4.drew (by omega) hwn).mono fun e w' ⟨⟨r, q1, _, _⟩, ⟨a', q4, q5⟩, q6⟩ => ⟨⟨r, q1⟩, ⟨a', by omega, q5⟩, (Chg.refl [C] wc).drew.trans q6⟩
            go_region_with (go_at_call 54; (with_reducible refine Hq.out.mono ?_); rintro _ w5 ⟨⟨r5, rfl⟩, ⟨a5, ha5, h5⟩, k5⟩; obtain ⟨z0, z1, z2, z3⟩ := (X4.chg1 k5 hXC).four; have E5 := E4.chg1 k5 hECC; obtain ⟨f0, f1, f2⟩ := E5.three; have fE5 : ∀ x, w5.frozen? ⟨E, x, none⟩ = false := fun x => E5.frozen x)
            all_goals (go_wp2_with fail; go_meet; exact ⟨_, a5, by omega, h5.setNew hCE, (g4.trans k5).setNew hwE _, (q4.chg1 k5 hb1).other hE1 _ _, E5.set 2 _⟩)
        case rest =>
          obtain ⟨nn, a5, ha5, h5, g5, q5, E5⟩ := hcut
          clear E4 q4 b4 g4 h4 X4 e0 e1 e2 x0 x1 x2 x3 fE HG Hop HK HLL
          obtain ⟨e0, e1, e2⟩ := E5.three
          obtain ⟨y0, y1, y2⟩ := q5.three
          go_wp2_with fail
          refine (pick_any C v a5 20 _ h5 (by omega) (by omega)).mono ?_
          rintro _ w6 ⟨⟨r6, rfl, _, _⟩, ⟨a6, ha6, h6⟩, hc6⟩
          have E6 := E5.chg1 hc6 hECC
          have q6 := q5.chg1 hc6 hb1
          have g6 := g5.trans hc6
          clear E5 q5 g5 h5 hc6 e0 e1 e2 y0 y1 y2
          obtain ⟨e0, e1, e2⟩ := E6.three
          obtain ⟨y0, y1, y2⟩ := q6.three
          have fE : ∀ x, w6.frozen? ⟨E, x, none⟩ = false := fun x => E6.frozen x
          have fR : ∀ x, w6.frozen? ⟨w.heap.size + 1, x, none⟩ = false := fun x => q6.frozen x
          have hRC : C < w.heap.size + 1 := by omega
          have hwR : w.heap.size ≤ w.heap.size + 1 := by omega
          by_cases hr6 : (r6 : Int) = 0
          · have hr6' : ((r6 : Int) == 0) = true := by simpa using hr6
            clear hr6
            go_upto_region 22 with fail
            have Hq : Hid (∀ W, CurAt W C v a6 → Chg [C] w6 W → Calls Tryd.prog 54 #[.pointer (some ⟨C, 0, none⟩), .int .i64 5] W fun e w' => (∃ r : Nat, e = .returned (.int .i64 (r : Int))) ∧ (∃ a', a' ≤ a + 30 ∧ CurAt w' C v a') ∧ Chg [C] w6 w') := fun W h1 h2 => (pick_any C v a6 _ _ h1 (by omega) (by omega)).mono fun e w' ⟨⟨r, q1, _, _⟩, ⟨a', q4, q5⟩, q6⟩ => ⟨⟨r, q1⟩, ⟨a', by omega, q5⟩, h2.trans q6⟩
            go_region_with (go_at_call 54; (with_reducible refine (Hq.out w6.drew h6.drew (Chg.refl [C] w6).drew).mono ?_); rintro _ w7 ⟨⟨r7, rfl⟩, ⟨a7, ha7, h7⟩, k7⟩; have E7 := E6.chg1 k7 hECC; obtain ⟨f0, f1, f2⟩ := E7.three; have q7 := q6.chg1 k7 hb1; obtain ⟨z0, z1, z2⟩ := q7.three; have fE7 : ∀ x, w7.frozen? ⟨E, x, none⟩ = false := fun x => E7.frozen x; have fR7 : ∀ x, w7.frozen? ⟨w.heap.size + 1, x, none⟩ = false := fun x => q7.frozen x)
            all_goals (
              go_wp2
              refine bodyPost_ret (v := .agg #[.int .i64 op', .int .i64 (t : Int), .int .i64 (wrap64 (nn + wrap64 ((r7 : Int) - 2)))]) (by simp [results, Tryd.results69, go_sem, z0, z1, z2]) rfl ⟨⟨⟨op', (t : Int), _⟩, rfl⟩, ⟨a7, by omega, (((h7.setNew hCE).setNew hRC).setNew hRC).setNew hRC⟩, ((((g6.trans k7).setNew hwE _).setNew hwR _).setNew hwR _).setNew hwR _⟩)
          · have hr6' : ((r6 : Int) == 0) = false := by simpa using hr6
            clear hr6
            go_wp2
            refine bodyPost_ret (v := .agg #[.int .i64 op', .int .i64 (t : Int), .int .i64 nn]) (by simp [results, Tryd.results69, go_sem, y0, y1, y2]) rfl ⟨⟨⟨op', (t : Int), nn⟩, rfl⟩, ⟨a6, by omega, ((h6.setNew hRC).setNew hRC).setNew hRC⟩, ((g6.setNew hwR _).setNew hwR _).setNew hwR _⟩

end Go.Proofs.YtnaaheddhgpnoaaDoor
