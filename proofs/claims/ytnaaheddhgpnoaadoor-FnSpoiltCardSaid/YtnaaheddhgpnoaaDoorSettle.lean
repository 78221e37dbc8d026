import Derived.Test.YtnaaheddhgpnoaaDoorOk3
import Derived.Test.YtnaaheddhgpnoaaDoorDoD
import Derived.Test.YtnaaheddhgpnoaaDoorCpD
namespace Go.Proofs.YtnaaheddhgpnoaaDoor
open Go.ChangeShapes Go.WideShapes Go.ChangeAt Go.RowKit

set_option maxHeartbeats 400000 in
theorem l2later_any (gs : List Gr) (v : Value) (bs : List Nat) (w : World) (h : GrsAt w v gs bs) :
    Calls Tryd.prog 62 #[v] w fun e w' => e = .returned (.int .i64 (mostOf gs)) ∧ Below w.heap.size w w' := by
  obtain ⟨a, c, rfl, hlc, hcm, hg⟩ := h
  unfold maxLen at hcm
  unfold mostOf
  generalize gs.length = n at *
  go_enter Tryd.func62, Tryd.ntmps62
  go_wp2
  go_loopw [3, 8] (fun m i wr => ∃ k : Nat, k ≤ n ∧ m = .int .i64 (mostTo gs k) ∧ i = .int .i64 k ∧ Below w.heap.size w wr) (fun _ i _ => n - (intOf i).toNat)
  case atStart => exact ⟨0, Nat.zero_le _, rfl, rfl, Below.refl _ _⟩
  case round =>
    obtain ⟨k, hk, rfl, rfl, hbw⟩ := hrel
    by_cases hlt : k < n
    · rcases hg with ⟨h00, _⟩ | ⟨b, o, rfl, _, hs, hc⟩
      · omega
      have c1 := ((bcell hbw).1 _ _ hs).trans (hc k hlt).1
      have c2 := ((bcell hbw).1 _ _ hs).trans (hc k hlt).2
      have hm : Hid (mostTo gs (k + 1) = max (mostTo gs k) (gs[k]?.getD gr0).cel) := rfl
      clear hc
      by_cases hgt : mostTo gs k < (gs[k]?.getD gr0).cel
      · go_wp2
        go_roundw
        case rel => exact ⟨k + 1, by omega, by rw [hm.out]; exact congrArg (Value.int .i64) (by omega), by go_num, hbw.alloc hbw.size _⟩
        case measure => simp [intOf]; omega
      · go_wp2
        go_roundw
        case rel => exact ⟨k + 1, by omega, by rw [hm.out]; exact congrArg (Value.int .i64) (by omega), by go_num, hbw.alloc hbw.size _⟩
        case measure => simp [intOf]; omega
    · obtain rfl : k = n := by omega
      go_wp2
      go_ret
      exact ⟨rfl, hbw⟩

/-- What has turned of a line at ⟨b, o⟩: its own four cells. -/
structure LnTurn (b o : Nat) (w w' : World) : Prop where
  os : w'.os = w.os
  tape : w'.tape = w.tape
  output : w'.output = w.output
  size : w.heap.size ≤ w'.heap.size
  block : ∀ k, k < w.heap.size → k ≠ b → w'.heap[k]? = w.heap[k]?
  cell : ∀ x, (x < o ∨ o + 4 ≤ x) → w'.cell? ⟨b, x, none⟩ = w.cell? ⟨b, x, none⟩
  frozen : ∀ x, w'.frozen? ⟨b, x, none⟩ = w.frozen? ⟨b, x, none⟩
theorem LnTurn.of_below {b o : Nat} {w w' : World} (h : Below w.heap.size w w') (hb : b < w.heap.size) : LnTurn b o w w' :=
  ⟨h.os, h.tape, h.output, h.size, fun k hk _ => h.block k hk, fun _ _ => (bcell h).1 _ _ hb, fun _ => (bcell h).2 _ _ hb⟩
theorem LnTurn.trans {b o : Nat} {w w1 w2 : World} (h : LnTurn b o w w1) (g : LnTurn b o w1 w2) : LnTurn b o w w2 :=
  ⟨g.os.trans h.os, g.tape.trans h.tape, g.output.trans h.output, Nat.le_trans h.size g.size, fun k hk hn => (g.block k (Nat.lt_of_lt_of_le hk h.size) hn).trans (h.block k hk hn), fun x hx => (g.cell x hx).trans (h.cell x hx), fun x => (g.frozen x).trans (h.frozen x)⟩
theorem LnTurn.set {b o r : Nat} (w : World) (u : Value) (hr : r < 4) : LnTurn b o w (w.setCell ⟨b, o + r, none⟩ u) :=
  ⟨rfl, rfl, rfl, by simp, fun k _ hn => Below.heap_setCell _ _ _ _ hn, fun x hx => cell_set_ne (by omega), fun x => by simp⟩

theorem LnTurn.drew {b o : Nat} {w w' : World} (h : LnTurn b o w w') : LnTurn b o w w'.drew := ⟨h.os, h.tape, h.output, h.size, h.block, h.cell, h.frozen⟩

/-- Some of a slice of numbers. -/
theorem IntsAt.take {w : World} {a : Option Addr} {n cap m : Nat} {xs : List Int} {bs : List Nat} (h : IntsAt w (.slice a n cap) xs bs) (hm : m ≤ xs.length) : ∃ bs', IntsAt w (.slice a m cap) (xs.take m) bs' ∧ ∀ b ∈ bs', b ∈ bs := by
  obtain ⟨a', c', hv, h1, h2, h⟩ := h
  simp only [Value.slice.injEq] at hv
  obtain ⟨rfl, rfl, rfl⟩ := hv
  have hl : (xs.take m).length = m := by simp; omega
  by_cases e : m = 0
  · subst e
    exact ⟨[], ⟨a, cap, by simp, by simp, h2, Or.inl ⟨by simp, rfl⟩⟩, fun b hb => by simp at hb⟩
  · rcases h with ⟨h0, _⟩ | ⟨b, o, rfl, rfl, hb, hc⟩
    · omega
    · refine ⟨[b], ⟨_, cap, by rw [hl], by rw [hl]; omega, h2, Or.inr ⟨b, o, rfl, rfl, hb, fun i hi => ?_⟩⟩, fun b hb => hb⟩
      rw [hl] at hi
      rw [hc i (by omega)]
      simp [hi]

set_option maxHeartbeats 1000000 in
theorem l2settle_any (l : Ln) (b o : Nat) (d : List Nat) (w : World) (h : LnCells w b o l d) (hf : ∀ x, w.frozen? ⟨b, x, none⟩ = false) (hbd : b ∉ d) (g0 : 0 ≤ l.gone) (g1 : l.gone ≤ 1000000) (hl : l.way.length ≤ 100) (hd : 0 ≤ l.drop → l.gone ≤ l.drop) :
    Calls Tryd.prog 64 #[.pointer (some ⟨b, o, none⟩)] w fun e w' => e = .returned (.tuple #[]) ∧ (∃ d', LnCells w' b o (settleD l) d' ∧ ∀ x ∈ d', x ∈ d) ∧ LnTurn b o w w' := by
  have hb : b < w.heap.size := by obtain ⟨_, _, _, _, hc, _⟩ := h; exact World.block_lt_of_cell? w _ hc
  obtain ⟨vw, vg, p0, p1, p2, p3, hL⟩ := h.at
  by_cases hn : l.drop < 0
  · have hs : settleD l = l := by unfold settleD; rw [if_pos hn]
    rw [hs]
    have HS : Hid (settleD l = l) := hs
    clear hs
    go_enter Tryd.func64, Tryd.ntmps64
    go_wp2
    exact bodyPost_ret (v := .tuple #[]) (by simp [results, Tryd.results64, go_sem]) rfl ⟨rfl, ⟨d, h, fun x hx => hx⟩, LnTurn.of_below (Below.refl _ _) hb⟩
  · have hn0 : 0 ≤ l.drop := by omega
    have hd0 := hd hn0
    obtain ⟨_, _, d1, d2, hv, hdd, hiw, hgw⟩ := hL
    obtain ⟨aw, nw, cw, rfl⟩ := hiw.slice
    obtain ⟨ag, ng, cg, rfl⟩ := hgw.slice
    simp only [Value.agg.injEq, Array.mk.injEq, List.cons.injEq, and_true, true_and] at hv
    obtain ⟨rfl, rfl⟩ := hv
    have hnw : nw = l.way.length := by obtain ⟨a', c', hv, _⟩ := hiw; simp at hv; exact hv.2.1
    subst hnw
    have hLn : LnAt w (.agg #[.int .i64 l.gone, .slice aw l.way.length cw, .slice ag ng cg, .int .i64 l.drop]) l d := ⟨_, _, d1, d2, rfl, hdd, hiw, hgw⟩
    have hM := fun W h => l1most_any l (.agg #[.int .i64 l.gone, .slice aw l.way.length cw, .slice ag ng cg, .int .i64 l.drop]) d W h
    have hT := fun W h => l1total_any l (.agg #[.int .i64 l.gone, .slice aw l.way.length cw, .slice ag ng cg, .int .i64 l.drop]) d W h g0 g1 hl
    have hTot : totD l = l.gone + l.way.length := rfl
    have hSet : Hid (settleD l = (if totD (if max (mostOf l.grs) l.drop < totD l then { l with way := l.way.take (max (mostOf l.grs) l.drop - l.gone).toNat } else l) ≤ l.drop then { (if max (mostOf l.grs) l.drop < totD l then { l with way := l.way.take (max (mostOf l.grs) l.drop - l.gone).toNat } else l) with drop := -1 } else (if max (mostOf l.grs) l.drop < totD l then { l with way := l.way.take (max (mostOf l.grs) l.drop - l.gone).toNat } else l))) := by
      show settleD l = _
      unfold settleD
      rw [if_neg hn]
      by_cases e : max (mostOf l.grs) l.drop < totD l <;> simp [e]
    go_enter Tryd.func64, Tryd.ntmps64
    go_wp2_with fail
    refine (hM _ hLn).mono ?_
    rintro e w1 ⟨rfl, hb1⟩
    have q0 := ((bcell hb1).1 _ _ hb).trans p0
    have q1 := ((bcell hb1).1 _ _ hb).trans p1
    have q2 := ((bcell hb1).1 _ _ hb).trans p2
    have q3 := ((bcell hb1).1 _ _ hb).trans p3
    have f1 : ∀ x, w1.frozen? ⟨b, x, none⟩ = false := fun x => by rw [(bcell hb1).2 _ _ hb]; exact hf x
    have hL1 := hLn.below hb1 hLn.lt
    have t1 : LnTurn b o w w1 := LnTurn.of_below hb1 hb
    have s1 := Nat.lt_of_lt_of_le hb hb1.size
    have hi1 := hiw.below hb1 hiw.lt
    have hg1 := hgw.below hb1 hgw.lt
    clear hM p0 p1 p2 p3 hb1 hiw hgw hLn hf h
    generalize mostOf l.grs = M at *
    generalize hTT : totD l = T at *
    have HTT : Hid (totD l = T) := hTT
    clear hTT
    have hT1 : T ≤ l.gone + l.way.length := by omega
    have hT2 : l.gone + l.way.length ≤ T := by omega
    have HTot : Hid (T = l.gone + l.way.length) := hTot
    clear hTot
    by_cases hMd : M < l.drop
    · have hmx : max M l.drop = l.drop := by omega
      rw [hmx] at hSet
      have HX : Hid (max M l.drop = l.drop) := hmx
      clear hmx
      have htt : l.gone ≤ l.drop := by omega
      go_wp2_with fail
      refine (hT _ hL1).mono ?_
      rintro e w2 ⟨rfl, hb2⟩
      have r0 := ((bcell hb2).1 _ _ s1).trans q0
      have r1 := ((bcell hb2).1 _ _ s1).trans q1
      have r2 := ((bcell hb2).1 _ _ s1).trans q2
      have r3 := ((bcell hb2).1 _ _ s1).trans q3
      have f2 : ∀ x, w2.frozen? ⟨b, x, none⟩ = false := fun x => by rw [(bcell hb2).2 _ _ s1]; exact f1 x
      have hL2 := hL1.below hb2 hL1.lt
      have t2 : LnTurn b o w w2 := t1.trans (LnTurn.of_below hb2 s1)
      have s2 := Nat.lt_of_lt_of_le s1 hb2.size
      have hi2 := hi1.below hb2 hi1.lt
      have hg2 := hg1.below hb2 hg1.lt
      clear q0 q1 q2 q3 f1 hL1 t1 hi1 hg1 hb2
      by_cases hlt : l.drop < T
      · obtain ⟨m, hm⟩ := Int.eq_ofNat_of_zero_le (show 0 ≤ l.drop - l.gone by omega)
        have hml : m ≤ l.way.length := by omega
        have hmc : m ≤ cw := by obtain ⟨a', c', hv, h1, _⟩ := hi2; simp at hv; omega
        have hcm : cw ≤ maxLen := by obtain ⟨a', c', hv, h1, h2, _⟩ := hi2; simp at hv; omega
        unfold maxLen at hcm
        have Hm : Hid (l.drop - l.gone = m) := hm
        have hset1 : settleD l = (if l.drop ≤ l.drop then { ({ l with way := l.way.take m } : Ln) with drop := -1 } else ({ l with way := l.way.take m } : Ln)) := by
          rw [hSet.out, if_pos hlt, hm, Int.toNat_natCast]
          have e : totD ({ l with way := l.way.take m } : Ln) = l.drop := by unfold totD; simp; omega
          rw [e]
        have HSet1 : Hid (settleD l = (if l.drop ≤ l.drop then { ({ l with way := l.way.take m } : Ln) with drop := -1 } else ({ l with way := l.way.take m } : Ln))) := hset1
        clear hset1
        go_wp2_with fail
        go_region
        obtain ⟨d1', hiT, hsubT⟩ := hi2.take hml
        have hiU : IntsAt (w2.setCell ⟨b, o + 1, none⟩ (.slice aw m cw)).drew (.slice aw m cw) (l.way.take m) d1' := hiT.keep fun x hx => Below.heap_setCell _ _ _ _ (show x ≠ b by rintro rfl; exact hbd (by rw [hdd]; exact List.mem_append_left _ (hsubT _ hx)))
        have hgU : GrsAt (w2.setCell ⟨b, o + 1, none⟩ (.slice aw m cw)).drew (.slice ag ng cg) l.grs d2 := hg2.keep fun x hx => Below.heap_setCell _ _ _ _ (show x ≠ b by rintro rfl; exact hbd (by rw [hdd]; exact List.mem_append_right _ hx))
        have u0 : (w2.setCell ⟨b, o + 1, none⟩ (.slice aw m cw)).drew.cell? ⟨b, o, none⟩ = some (.int .i64 l.gone) := (cell_set_ne (by omega)).trans r0
        have u1 : (w2.setCell ⟨b, o + 1, none⟩ (.slice aw m cw)).drew.cell? ⟨b, o + 1, none⟩ = some (.slice aw m cw) := World.cell?_setCell_same _ _ _ r1
        have u2 : (w2.setCell ⟨b, o + 1, none⟩ (.slice aw m cw)).drew.cell? ⟨b, o + 2, none⟩ = some (.slice ag ng cg) := (cell_set_ne (by omega)).trans r2
        have u3 : (w2.setCell ⟨b, o + 1, none⟩ (.slice aw m cw)).drew.cell? ⟨b, o + 3, none⟩ = some (.int .i64 l.drop) := (cell_set_ne (by omega)).trans r3
        have fU : ∀ x, (w2.setCell ⟨b, o + 1, none⟩ (.slice aw m cw)).drew.frozen? ⟨b, x, none⟩ = false := fun x => (World.frozen?_setCell _ _ _ _).trans (f2 x)
        have tU : LnTurn b o w (w2.setCell ⟨b, o + 1, none⟩ (.slice aw m cw)).drew := (t2.trans (LnTurn.set (r := 1) w2 (.slice aw m cw) (by omega))).drew
        have sU : b < (w2.setCell ⟨b, o + 1, none⟩ (.slice aw m cw)).drew.heap.size := by show b < (w2.setCell _ _).heap.size; rw [World.size_setCell]; exact s2
        have hsub : ∀ x ∈ d1' ++ d2, x ∈ d := fun x hx => by
          rw [hdd]
          rcases List.mem_append.1 hx with hx | hx
          · exact List.mem_append_left _ (hsubT x hx)
          · exact List.mem_append_right _ hx
        have hlen1 : ({ l with way := l.way.take m } : Ln).way.length ≤ 100 := by simp; omega
        have htot1 : Hid (totD ({ l with way := l.way.take m } : Ln) = l.drop) := by show totD ({ l with way := l.way.take m } : Ln) = l.drop; unfold totD; simp; omega
        clear r0 r1 r2 r3 f2 t2 hi2 hg2 hL2 hiT
        generalize (w2.setCell ⟨b, o + 1, none⟩ (.slice aw m cw)).drew = U at *
        have ne : Nonempty (Ext U.heap.size U) := ext_some
        have e0 := Ext.cell (B := U.heap.size) (w := U) sU u0
        have e1 := Ext.cell (B := U.heap.size) (w := U) sU u1
        have e2 := Ext.cell (B := U.heap.size) (w := U) sU u2
        have e3 := Ext.cell (B := U.heap.size) (w := U) sU u3
        have hLU : LnAt U (.agg #[.int .i64 l.gone, .slice aw m cw, .slice ag ng cg, .int .i64 l.drop]) ({ l with way := l.way.take m } : Ln) (d1' ++ d2) := ⟨_, _, d1', d2, rfl, rfl, hiU, hgU⟩
        have hLx : Hid _ := LnAt.ext (B := U.heap.size) hLU hLU.lt
        have HTx : Hid (∀ W, LnAt W (.agg #[.int .i64 l.gone, .slice aw m cw, .slice ag ng cg, .int .i64 l.drop]) ({ l with way := l.way.take m } : Ln) (d1' ++ d2) → Calls Tryd.prog 61 #[.agg #[.int .i64 l.gone, .slice aw m cw, .slice ag ng cg, .int .i64 l.drop]] W fun e w' => e = .returned (.int .i64 l.drop) ∧ Below W.heap.size W w') := fun W h => by
          have := l1total_any ({ l with way := l.way.take m } : Ln) _ _ W h g0 g1 hlen1
          rwa [htot1.out] at this
        by_cases hdr : l.drop ≤ l.drop
        · have HS : Hid (settleD l = { ({ l with way := l.way.take m } : Ln) with drop := -1 }) := by show settleD l = _; rw [HSet1.out, if_pos hdr]
          go_wp2_with fail
          refine wp_region_ext U.heap.size (by kernel_rfl) (by kernel_rfl) ?_
          repeat (go_big_quiet_step (first | (go_at_call 61; exact ext_of (Nat.le_refl _) _ (HTx.out _ (hLx.out _)))))
          refine wpQuiet_nil ?_
          intro w4 hx4
          have hb4 := ext_below hx4
          clear hx4 e0 e1 e2 e3 hLx ne HTx
          have v0 := ((bcell hb4).1 _ _ sU).trans u0
          have v1 := ((bcell hb4).1 _ _ sU).trans u1
          have v2 := ((bcell hb4).1 _ _ sU).trans u2
          have v3 := ((bcell hb4).1 _ _ sU).trans u3
          have f4 : w4.frozen? ⟨b, o + 3, none⟩ = false := by rw [(bcell hb4).2 _ _ sU]; exact fU _
          have t4 : LnTurn b o w w4 := tU.trans (LnTurn.of_below hb4 sU)
          have hi4 := hiU.below hb4 hiU.lt
          have hg4 := hgU.below hb4 hgU.lt
          clear u0 u1 u2 u3
          go_wp2
          refine bodyPost_end (results_none rfl _ _ _) rfl ⟨rfl, ⟨d1' ++ d2, ?_, ?_⟩, t4.trans (LnTurn.set (r := 3) w4 _ (by omega))⟩
          · rw [HS.out]
            refine ⟨_, _, d1', d2, by rw [cell_set_ne (by omega)]; exact v0, by rw [cell_set_ne (by omega)]; exact v1, by rw [cell_set_ne (by omega)]; exact v2, World.cell?_setCell_same _ _ _ v3, rfl, hi4.keep fun x hx => Below.heap_setCell _ _ _ _ ?_, hg4.keep fun x hx => Below.heap_setCell _ _ _ _ ?_⟩
            · rintro rfl; exact hbd (hsub _ (List.mem_append_left _ hx))
            · rintro rfl; exact hbd (hsub _ (List.mem_append_right _ hx))
          · exact hsub
        · exfalso; omega
      · have hset1 : settleD l = (if T ≤ l.drop then { l with drop := -1 } else l) := by
          rw [hSet.out, if_neg hlt, HTT.out]
        have HSet1 : Hid (settleD l = (if T ≤ l.drop then { l with drop := -1 } else l)) := hset1
        clear hset1
        have hiU := hi2
        have hgU := hg2
        have u0 := r0
        have u1 := r1
        have u2 := r2
        have u3 := r3
        have fU := f2
        have tU := t2
        have sU := s2
        have hsub : ∀ x ∈ d1 ++ d2, x ∈ d := fun x hx => by rw [hdd]; exact hx
        have hlen1 := hl
        clear r0 r1 r2 r3 f2 t2 hi2 hg2 hL2 s2
        rename World => U
        have ne : Nonempty (Ext U.heap.size U) := ext_some
        have e0 := Ext.cell (B := U.heap.size) (w := U) sU u0
        have e1 := Ext.cell (B := U.heap.size) (w := U) sU u1
        have e2 := Ext.cell (B := U.heap.size) (w := U) sU u2
        have e3 := Ext.cell (B := U.heap.size) (w := U) sU u3
        have hLU : LnAt U (.agg #[.int .i64 l.gone, .slice aw l.way.length cw, .slice ag ng cg, .int .i64 l.drop]) l (d1 ++ d2) := ⟨_, _, d1, d2, rfl, rfl, hiU, hgU⟩
        have hLx : Hid _ := LnAt.ext (B := U.heap.size) hLU hLU.lt
        have HTx : Hid (∀ W, LnAt W (.agg #[.int .i64 l.gone, .slice aw l.way.length cw, .slice ag ng cg, .int .i64 l.drop]) l (d1 ++ d2) → Calls Tryd.prog 61 #[.agg #[.int .i64 l.gone, .slice aw l.way.length cw, .slice ag ng cg, .int .i64 l.drop]] W fun e w' => e = .returned (.int .i64 T) ∧ Below W.heap.size W w') := fun W h => by
          have := l1total_any l _ _ W h g0 g1 hlen1
          rwa [HTT.out] at this
        by_cases hdr : T ≤ l.drop
        · have HS : Hid (settleD l = { l with drop := -1 }) := by show settleD l = _; rw [HSet1.out, if_pos hdr]
          go_wp2_with fail
          refine wp_region_ext U.heap.size (by kernel_rfl) (by kernel_rfl) ?_
          repeat (go_big_quiet_step (first | (go_at_call 61; exact ext_of (Nat.le_refl _) _ (HTx.out _ (hLx.out _)))))
          refine wpQuiet_nil ?_
          intro w4 hx4
          have hb4 := ext_below hx4
          clear hx4 e0 e1 e2 e3 hLx ne HTx
          have v0 := ((bcell hb4).1 _ _ sU).trans u0
          have v1 := ((bcell hb4).1 _ _ sU).trans u1
          have v2 := ((bcell hb4).1 _ _ sU).trans u2
          have v3 := ((bcell hb4).1 _ _ sU).trans u3
          have f4 : w4.frozen? ⟨b, o + 3, none⟩ = false := by rw [(bcell hb4).2 _ _ sU]; exact fU _
          have t4 : LnTurn b o w w4 := tU.trans (LnTurn.of_below hb4 sU)
          have hi4 := hiU.below hb4 hiU.lt
          have hg4 := hgU.below hb4 hgU.lt
          clear u0 u1 u2 u3
          go_wp2
          refine bodyPost_end (results_none rfl _ _ _) rfl ⟨rfl, ⟨d1 ++ d2, ?_, ?_⟩, t4.trans (LnTurn.set (r := 3) w4 _ (by omega))⟩
          · rw [HS.out]
            refine ⟨_, _, d1, d2, by rw [cell_set_ne (by omega)]; exact v0, by rw [cell_set_ne (by omega)]; exact v1, by rw [cell_set_ne (by omega)]; exact v2, World.cell?_setCell_same _ _ _ v3, rfl, hi4.keep fun x hx => Below.heap_setCell _ _ _ _ ?_, hg4.keep fun x hx => Below.heap_setCell _ _ _ _ ?_⟩
            · rintro rfl; exact hbd (hsub _ (List.mem_append_left _ hx))
            · rintro rfl; exact hbd (hsub _ (List.mem_append_right _ hx))
          · exact hsub
        · exfalso; omega
    · have hmx : max M l.drop = M := by omega
      rw [hmx] at hSet
      have HX : Hid (max M l.drop = M) := hmx
      clear hmx
      have htt : l.gone ≤ M := by omega
      go_wp2_with fail
      refine (hT _ hL1).mono ?_
      rintro e w2 ⟨rfl, hb2⟩
      have r0 := ((bcell hb2).1 _ _ s1).trans q0
      have r1 := ((bcell hb2).1 _ _ s1).trans q1
      have r2 := ((bcell hb2).1 _ _ s1).trans q2
      have r3 := ((bcell hb2).1 _ _ s1).trans q3
      have f2 : ∀ x, w2.frozen? ⟨b, x, none⟩ = false := fun x => by rw [(bcell hb2).2 _ _ s1]; exact f1 x
      have hL2 := hL1.below hb2 hL1.lt
      have t2 : LnTurn b o w w2 := t1.trans (LnTurn.of_below hb2 s1)
      have s2 := Nat.lt_of_lt_of_le s1 hb2.size
      have hi2 := hi1.below hb2 hi1.lt
      have hg2 := hg1.below hb2 hg1.lt
      clear q0 q1 q2 q3 f1 hL1 t1 hi1 hg1 hb2
      by_cases hlt : M < T
      · obtain ⟨m, hm⟩ := Int.eq_ofNat_of_zero_le (show 0 ≤ M - l.gone by omega)
        have hml : m ≤ l.way.length := by omega
        have hmc : m ≤ cw := by obtain ⟨a', c', hv, h1, _⟩ := hi2; simp at hv; omega
        have hcm : cw ≤ maxLen := by obtain ⟨a', c', hv, h1, h2, _⟩ := hi2; simp at hv; omega
        unfold maxLen at hcm
        have Hm : Hid (M - l.gone = m) := hm
        have hset1 : settleD l = (if M ≤ l.drop then { ({ l with way := l.way.take m } : Ln) with drop := -1 } else ({ l with way := l.way.take m } : Ln)) := by
          rw [hSet.out, if_pos hlt, hm, Int.toNat_natCast]
          have e : totD ({ l with way := l.way.take m } : Ln) = M := by unfold totD; simp; omega
          rw [e]
        have HSet1 : Hid (settleD l = (if M ≤ l.drop then { ({ l with way := l.way.take m } : Ln) with drop := -1 } else ({ l with way := l.way.take m } : Ln))) := hset1
        clear hset1
        go_wp2_with fail
        go_region
        obtain ⟨d1', hiT, hsubT⟩ := hi2.take hml
        have hiU : IntsAt (w2.setCell ⟨b, o + 1, none⟩ (.slice aw m cw)).drew (.slice aw m cw) (l.way.take m) d1' := hiT.keep fun x hx => Below.heap_setCell _ _ _ _ (show x ≠ b by rintro rfl; exact hbd (by rw [hdd]; exact List.mem_append_left _ (hsubT _ hx)))
        have hgU : GrsAt (w2.setCell ⟨b, o + 1, none⟩ (.slice aw m cw)).drew (.slice ag ng cg) l.grs d2 := hg2.keep fun x hx => Below.heap_setCell _ _ _ _ (show x ≠ b by rintro rfl; exact hbd (by rw [hdd]; exact List.mem_append_right _ hx))
        have u0 : (w2.setCell ⟨b, o + 1, none⟩ (.slice aw m cw)).drew.cell? ⟨b, o, none⟩ = some (.int .i64 l.gone) := (cell_set_ne (by omega)).trans r0
        have u1 : (w2.setCell ⟨b, o + 1, none⟩ (.slice aw m cw)).drew.cell? ⟨b, o + 1, none⟩ = some (.slice aw m cw) := World.cell?_setCell_same _ _ _ r1
        have u2 : (w2.setCell ⟨b, o + 1, none⟩ (.slice aw m cw)).drew.cell? ⟨b, o + 2, none⟩ = some (.slice ag ng cg) := (cell_set_ne (by omega)).trans r2
        have u3 : (w2.setCell ⟨b, o + 1, none⟩ (.slice aw m cw)).drew.cell? ⟨b, o + 3, none⟩ = some (.int .i64 l.drop) := (cell_set_ne (by omega)).trans r3
        have fU : ∀ x, (w2.setCell ⟨b, o + 1, none⟩ (.slice aw m cw)).drew.frozen? ⟨b, x, none⟩ = false := fun x => (World.frozen?_setCell _ _ _ _).trans (f2 x)
        have tU : LnTurn b o w (w2.setCell ⟨b, o + 1, none⟩ (.slice aw m cw)).drew := (t2.trans (LnTurn.set (r := 1) w2 (.slice aw m cw) (by omega))).drew
        have sU : b < (w2.setCell ⟨b, o + 1, none⟩ (.slice aw m cw)).drew.heap.size := by show b < (w2.setCell _ _).heap.size; rw [World.size_setCell]; exact s2
        have hsub : ∀ x ∈ d1' ++ d2, x ∈ d := fun x hx => by
          rw [hdd]
          rcases List.mem_append.1 hx with hx | hx
          · exact List.mem_append_left _ (hsubT x hx)
          · exact List.mem_append_right _ hx
        have hlen1 : ({ l with way := l.way.take m } : Ln).way.length ≤ 100 := by simp; omega
        have htot1 : Hid (totD ({ l with way := l.way.take m } : Ln) = M) := by show totD ({ l with way := l.way.take m } : Ln) = M; unfold totD; simp; omega
        clear r0 r1 r2 r3 f2 t2 hi2 hg2 hL2 hiT
        generalize (w2.setCell ⟨b, o + 1, none⟩ (.slice aw m cw)).drew = U at *
        have ne : Nonempty (Ext U.heap.size U) := ext_some
        have e0 := Ext.cell (B := U.heap.size) (w := U) sU u0
        have e1 := Ext.cell (B := U.heap.size) (w := U) sU u1
        have e2 := Ext.cell (B := U.heap.size) (w := U) sU u2
        have e3 := Ext.cell (B := U.heap.size) (w := U) sU u3
        have hLU : LnAt U (.agg #[.int .i64 l.gone, .slice aw m cw, .slice ag ng cg, .int .i64 l.drop]) ({ l with way := l.way.take m } : Ln) (d1' ++ d2) := ⟨_, _, d1', d2, rfl, rfl, hiU, hgU⟩
        have hLx : Hid _ := LnAt.ext (B := U.heap.size) hLU hLU.lt
        have HTx : Hid (∀ W, LnAt W (.agg #[.int .i64 l.gone, .slice aw m cw, .slice ag ng cg, .int .i64 l.drop]) ({ l with way := l.way.take m } : Ln) (d1' ++ d2) → Calls Tryd.prog 61 #[.agg #[.int .i64 l.gone, .slice aw m cw, .slice ag ng cg, .int .i64 l.drop]] W fun e w' => e = .returned (.int .i64 M) ∧ Below W.heap.size W w') := fun W h => by
          have := l1total_any ({ l with way := l.way.take m } : Ln) _ _ W h g0 g1 hlen1
          rwa [htot1.out] at this
        by_cases hdr : M ≤ l.drop
        · have HS : Hid (settleD l = { ({ l with way := l.way.take m } : Ln) with drop := -1 }) := by show settleD l = _; rw [HSet1.out, if_pos hdr]
          go_wp2_with fail
          refine wp_region_ext U.heap.size (by kernel_rfl) (by kernel_rfl) ?_
          repeat (go_big_quiet_step (first | (go_at_call 61; exact ext_of (Nat.le_refl _) _ (HTx.out _ (hLx.out _)))))
          refine wpQuiet_nil ?_
          intro w4 hx4
          have hb4 := ext_below hx4
          clear hx4 e0 e1 e2 e3 hLx ne HTx
          have v0 := ((bcell hb4).1 _ _ sU).trans u0
          have v1 := ((bcell hb4).1 _ _ sU).trans u1
          have v2 := ((bcell hb4).1 _ _ sU).trans u2
          have v3 := ((bcell hb4).1 _ _ sU).trans u3
          have f4 : w4.frozen? ⟨b, o + 3, none⟩ = false := by rw [(bcell hb4).2 _ _ sU]; exact fU _
          have t4 : LnTurn b o w w4 := tU.trans (LnTurn.of_below hb4 sU)
          have hi4 := hiU.below hb4 hiU.lt
          have hg4 := hgU.below hb4 hgU.lt
          clear u0 u1 u2 u3
          go_wp2
          refine bodyPost_end (results_none rfl _ _ _) rfl ⟨rfl, ⟨d1' ++ d2, ?_, ?_⟩, t4.trans (LnTurn.set (r := 3) w4 _ (by omega))⟩
          · rw [HS.out]
            refine ⟨_, _, d1', d2, by rw [cell_set_ne (by omega)]; exact v0, by rw [cell_set_ne (by omega)]; exact v1, by rw [cell_set_ne (by omega)]; exact v2, World.cell?_setCell_same _ _ _ v3, rfl, hi4.keep fun x hx => Below.heap_setCell _ _ _ _ ?_, hg4.keep fun x hx => Below.heap_setCell _ _ _ _ ?_⟩
            · rintro rfl; exact hbd (hsub _ (List.mem_append_left _ hx))
            · rintro rfl; exact hbd (hsub _ (List.mem_append_right _ hx))
          · exact hsub
        · have HS : Hid (settleD l = ({ l with way := l.way.take m } : Ln)) := by show settleD l = _; rw [HSet1.out, if_neg hdr]
          have hdr' : decide (M ≤ l.drop) = false := by simpa using hdr
          go_wp2_with fail
          refine wp_region_ext U.heap.size (by kernel_rfl) (by kernel_rfl) ?_
          repeat (go_big_quiet_step (first | (go_at_call 61; exact ext_of (Nat.le_refl _) _ (HTx.out _ (hLx.out _)))))
          refine wpQuiet_nil ?_
          intro w4 hx4
          have hb4 := ext_below hx4
          clear hx4 e0 e1 e2 e3 hLx ne HTx
          have v0 := ((bcell hb4).1 _ _ sU).trans u0
          have v1 := ((bcell hb4).1 _ _ sU).trans u1
          have v2 := ((bcell hb4).1 _ _ sU).trans u2
          have v3 := ((bcell hb4).1 _ _ sU).trans u3
          have t4 : LnTurn b o w w4 := tU.trans (LnTurn.of_below hb4 sU)
          have hi4 := hiU.below hb4 hiU.lt
          have hg4 := hgU.below hb4 hgU.lt
          clear u0 u1 u2 u3
          go_wp2
          refine bodyPost_end (results_none rfl _ _ _) rfl ⟨rfl, ⟨d1' ++ d2, ?_, hsub⟩, t4⟩
          rw [HS.out]
          exact ⟨_, _, d1', d2, v0, v1, v2, v3, rfl, hi4, hg4⟩
      · have hset1 : settleD l = (if T ≤ l.drop then { l with drop := -1 } else l) := by
          rw [hSet.out, if_neg hlt, HTT.out]
        have HSet1 : Hid (settleD l = (if T ≤ l.drop then { l with drop := -1 } else l)) := hset1
        clear hset1
        have hiU := hi2
        have hgU := hg2
        have u0 := r0
        have u1 := r1
        have u2 := r2
        have u3 := r3
        have fU := f2
        have tU := t2
        have sU := s2
        have hsub : ∀ x ∈ d1 ++ d2, x ∈ d := fun x hx => by rw [hdd]; exact hx
        have hlen1 := hl
        clear r0 r1 r2 r3 f2 t2 hi2 hg2 hL2 s2
        rename World => U
        have ne : Nonempty (Ext U.heap.size U) := ext_some
        have e0 := Ext.cell (B := U.heap.size) (w := U) sU u0
        have e1 := Ext.cell (B := U.heap.size) (w := U) sU u1
        have e2 := Ext.cell (B := U.heap.size) (w := U) sU u2
        have e3 := Ext.cell (B := U.heap.size) (w := U) sU u3
        have hLU : LnAt U (.agg #[.int .i64 l.gone, .slice aw l.way.length cw, .slice ag ng cg, .int .i64 l.drop]) l (d1 ++ d2) := ⟨_, _, d1, d2, rfl, rfl, hiU, hgU⟩
        have hLx : Hid _ := LnAt.ext (B := U.heap.size) hLU hLU.lt
        have HTx : Hid (∀ W, LnAt W (.agg #[.int .i64 l.gone, .slice aw l.way.length cw, .slice ag ng cg, .int .i64 l.drop]) l (d1 ++ d2) → Calls Tryd.prog 61 #[.agg #[.int .i64 l.gone, .slice aw l.way.length cw, .slice ag ng cg, .int .i64 l.drop]] W fun e w' => e = .returned (.int .i64 T) ∧ Below W.heap.size W w') := fun W h => by
          have := l1total_any l _ _ W h g0 g1 hlen1
          rwa [HTT.out] at this
        by_cases hdr : T ≤ l.drop
        · have HS : Hid (settleD l = { l with drop := -1 }) := by show settleD l = _; rw [HSet1.out, if_pos hdr]
          go_wp2_with fail
          refine wp_region_ext U.heap.size (by kernel_rfl) (by kernel_rfl) ?_
          repeat (go_big_quiet_step (first | (go_at_call 61; exact ext_of (Nat.le_refl _) _ (HTx.out _ (hLx.out _)))))
          refine wpQuiet_nil ?_
          intro w4 hx4
          have hb4 := ext_below hx4
          clear hx4 e0 e1 e2 e3 hLx ne HTx
          have v0 := ((bcell hb4).1 _ _ sU).trans u0
          have v1 := ((bcell hb4).1 _ _ sU).trans u1
          have v2 := ((bcell hb4).1 _ _ sU).trans u2
          have v3 := ((bcell hb4).1 _ _ sU).trans u3
          have f4 : w4.frozen? ⟨b, o + 3, none⟩ = false := by rw [(bcell hb4).2 _ _ sU]; exact fU _
          have t4 : LnTurn b o w w4 := tU.trans (LnTurn.of_below hb4 sU)
          have hi4 := hiU.below hb4 hiU.lt
          have hg4 := hgU.below hb4 hgU.lt
          clear u0 u1 u2 u3
          go_wp2
          refine bodyPost_end (results_none rfl _ _ _) rfl ⟨rfl, ⟨d1 ++ d2, ?_, ?_⟩, t4.trans (LnTurn.set (r := 3) w4 _ (by omega))⟩
          · rw [HS.out]
            refine ⟨_, _, d1, d2, by rw [cell_set_ne (by omega)]; exact v0, by rw [cell_set_ne (by omega)]; exact v1, by rw [cell_set_ne (by omega)]; exact v2, World.cell?_setCell_same _ _ _ v3, rfl, hi4.keep fun x hx => Below.heap_setCell _ _ _ _ ?_, hg4.keep fun x hx => Below.heap_setCell _ _ _ _ ?_⟩
            · rintro rfl; exact hbd (hsub _ (List.mem_append_left _ hx))
            · rintro rfl; exact hbd (hsub _ (List.mem_append_right _ hx))
          · exact hsub
        · have HS : Hid (settleD l = l) := by show settleD l = _; rw [HSet1.out, if_neg hdr]
          have hdr' : decide (T ≤ l.drop) = false := by simpa using hdr
          go_wp2_with fail
          refine wp_region_ext U.heap.size (by kernel_rfl) (by kernel_rfl) ?_
          repeat (go_big_quiet_step (first | (go_at_call 61; exact ext_of (Nat.le_refl _) _ (HTx.out _ (hLx.out _)))))
          refine wpQuiet_nil ?_
          intro w4 hx4
          have hb4 := ext_below hx4
          clear hx4 e0 e1 e2 e3 hLx ne HTx
          have v0 := ((bcell hb4).1 _ _ sU).trans u0
          have v1 := ((bcell hb4).1 _ _ sU).trans u1
          have v2 := ((bcell hb4).1 _ _ sU).trans u2
          have v3 := ((bcell hb4).1 _ _ sU).trans u3
          have t4 : LnTurn b o w w4 := tU.trans (LnTurn.of_below hb4 sU)
          have hi4 := hiU.below hb4 hiU.lt
          have hg4 := hgU.below hb4 hgU.lt
          clear u0 u1 u2 u3
          go_wp2
          refine bodyPost_end (results_none rfl _ _ _) rfl ⟨rfl, ⟨d1 ++ d2, ?_, hsub⟩, t4⟩
          rw [HS.out]
          exact ⟨_, _, d1, d2, v0, v1, v2, v3, rfl, hi4, hg4⟩

end Go.Proofs.YtnaaheddhgpnoaaDoor
