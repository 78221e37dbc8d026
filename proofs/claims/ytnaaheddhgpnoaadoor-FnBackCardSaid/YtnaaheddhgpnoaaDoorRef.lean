import Derived.Test.YtnaaheddhgpnoaaDoorCode
import Derived.Test.YtnaaheddhgpnoaaDoorOwner
import Derived.Test.YtnaaheddhgpnoaaDoorEv
import Derived.Test.YtnaaheddhgpnoaaDoorCpD
import Derived.Test.YtnaaheddhgpnoaaDoorSpDoW
import Derived.Test.YtnaaheddhgpnoaaDoorSince
namespace Go.Proofs.YtnaaheddhgpnoaaDoor
open Go.ChangeShapes Go.WideShapes Go.ChangeAt Go.RowKit

set_option maxHeartbeats 1000000 in
set_option maxRecDepth 100000 in
theorem refusal4 (k : Bk) (l : Ln) (n : Int) (vb vl : Value) (bs ls : List Nat) (w : World) (a0 a1 a2 : Addr) (hb : BkAt w vb k bs) (hl : LnAt w vl l ls) (he : Errs w a0 a1 a2) (hW : WayOk k.sec l) (hG : GrsOk l) (hD : DropOk l) :
    Calls Tryd.prog 165 #[.agg #[.int .i64 n], vb, vl] w fun e w' => e = .returned (errV a0 a1 a2 (lineDo (ownedB k.lns n) l 4 n).1) ∧ Below w.heap.size w w' := by
  have hL := hl
  have hB := hb
  obtain ⟨vw, vg, b1, b2, rfl, hbs, hwi, hgi⟩ := hl
  obtain ⟨ta, tn, tc, rfl⟩ := hwi.slice
  obtain ⟨ga, gn, gc, rfl⟩ := hgi.slice
  have hgn : gn = l.grs.length := by obtain ⟨a', c', hv, _⟩ := hgi; simp at hv; exact hv.2.1
  have htn : tn = l.way.length := by obtain ⟨a', c', hv, _⟩ := hwi; simp at hv; exact hv.2.1
  subst hgn htn
  obtain ⟨m, hm⟩ : ∃ m, l.grs.length = m + 1 := ⟨l.grs.length - 1, by have := hG.some; omega⟩
  have HLa : Hid (∀ W, LnAt W (.agg #[.int .i64 l.gone, .slice ta l.way.length tc, .slice ga l.grs.length gc, .int .i64 l.drop]) l ls → Calls Tryd.prog 79 #[.agg #[.int .i64 l.gone, .slice ta l.way.length tc, .slice ga l.grs.length gc, .int .i64 l.drop]] W fun e w' => e = .returned (.agg #[.int .i64 (lastVer l), .int .i64 (lastCel l)]) ∧ Below W.heap.size W w') := fun W h => by
    have e1 : lastVer l = (l.grs[m]?.getD gr0).ver := by unfold lastVer; rw [hm]; rfl
    have e2 : lastCel l = (l.grs[m]?.getD gr0).cel := by unfold lastCel; rw [hm]; rfl
    rw [e1, e2]
    exact last_any l _ ls W h m hm
  have hgl1 : (1 : Int) ≤ (l.grs.length : Int) := by omega
  have hgl2 : (l.grs.length : Int) ≤ 20 := by have := hG.few; omega
  clear hm
  obtain ⟨vb0, rfl, hLs⟩ := hb
  obtain ⟨ba, bn, bc, rfl⟩ := hLs.slice
  have HW : Hid (WayOk k.sec l) := hW
  have HG : Hid (GrsOk l) := hG
  have HD : Hid (l.drop = -1 ∨ 0 ≤ l.drop) := by
    rcases hD with h | h
    · exact Or.inl h
    · exact Or.inr (by have := h.lo; have := hW.head.lo; omega)
  have HE : Hid (∀ W, Below w.heap.size w W → Errs W a0 a1 a2) := fun W hw => he.below hw he.lt
  have hlo := hW.head.lo
  have hhi := hW.head.hi
  have hlen := hW.head.len
  have htot := hW.head.tot
  have HT : Hid (∀ W, LnAt W (.agg #[.int .i64 l.gone, .slice ta l.way.length tc, .slice ga l.grs.length gc, .int .i64 l.drop]) l ls → Calls Tryd.prog 78 #[.agg #[.int .i64 l.gone, .slice ta l.way.length tc, .slice ga l.grs.length gc, .int .i64 l.drop]] W fun e w' => e = .returned (.int .i64 (totD l)) ∧ Below W.heap.size W w') := fun W h => total_any l _ ls W h HW.out.head.lo HW.out.head.hi HW.out.head.len
  have HR : Hid (∀ W, LnAt W (.agg #[.int .i64 l.gone, .slice ta l.way.length tc, .slice ga l.grs.length gc, .int .i64 l.drop]) l ls → Calls Tryd.prog 49 #[.agg #[.int .i64 l.gone, .slice ta l.way.length tc, .slice ga l.grs.length gc, .int .i64 l.drop]] W fun e w' => e = .returned (.int .i64 (mostOf l.grs)) ∧ Below W.heap.size W w') := fun W h => reach_any l _ ls W h
  have eH : BlkIs (((w.alloc (.cells #[.int .i64 n] 152)).alloc (.cells #[.bool k.ok, .int .i64 k.sec, .slice ba bn bc] 32)).alloc (.cells #[.int .i64 l.gone, .slice ta l.way.length tc, .slice ga l.grs.length gc, .int .i64 l.drop] 38)) w.heap.size [.int .i64 n] 152 := ((BlkIs.new _ _ _).alloc _).alloc _
  have eB : BlkIs (((w.alloc (.cells #[.int .i64 n] 152)).alloc (.cells #[.bool k.ok, .int .i64 k.sec, .slice ba bn bc] 32)).alloc (.cells #[.int .i64 l.gone, .slice ta l.way.length tc, .slice ga l.grs.length gc, .int .i64 l.drop] 38)) (w.heap.size + 1) [.bool k.ok, .int .i64 k.sec, .slice ba bn bc] 32 := (BlkIs.new2 _ _ _ _).alloc _
  have eL : BlkIs (((w.alloc (.cells #[.int .i64 n] 152)).alloc (.cells #[.bool k.ok, .int .i64 k.sec, .slice ba bn bc] 32)).alloc (.cells #[.int .i64 l.gone, .slice ta l.way.length tc, .slice ga l.grs.length gc, .int .i64 l.drop] 38)) (w.heap.size + 1 + 1) [.int .i64 l.gone, .slice ta l.way.length tc, .slice ga l.grs.length gc, .int .i64 l.drop] 38 := BlkIs.new3 _ _ _ _ _
  have eW : Below w.heap.size w (((w.alloc (.cells #[.int .i64 n] 152)).alloc (.cells #[.bool k.ok, .int .i64 k.sec, .slice ba bn bc] 32)).alloc (.cells #[.int .i64 l.gone, .slice ta l.way.length tc, .slice ga l.grs.length gc, .int .i64 l.drop] 38)) := below3 w _ _ _
  clear hW hG hD he hLs
  have tA : Hid (¬ (l.gone ≤ n ∧ n ≤ mostOf l.grs) → (lineDo (ownedB k.lns n) l 4 n).1 = 2) := fun h => by
    have h' : n < l.gone ∨ mostOf l.grs < n := by omega
    simp [lineDo, h']
  have tB : Hid (l.gone ≤ n ∧ n ≤ mostOf l.grs → (lineDo (ownedB k.lns n) l 4 n).1 = 0) := fun h => by
    have h' : ¬ (n < l.gone ∨ mostOf l.grs < n) := by omega
    simp [lineDo, h']
  generalize totD l = T at *
  generalize mostOf l.grs = M at *
  generalize lastVer l = LV at *
  generalize lastCel l = LC at *
  go_enter Tryd.func165, Tryd.ntmps165
  go_wp2_with fail
  generalize ((w.alloc (.cells #[.int .i64 n] 152)).alloc (.cells #[.bool k.ok, .int .i64 k.sec, .slice ba bn bc] 32)).alloc (.cells #[.int .i64 l.gone, .slice ta l.way.length tc, .slice ga l.grs.length gc, .int .i64 l.drop] 38) = W at *
  have hLW := hL.below eW hL.lt
  have ne : Nonempty (Ext W.heap.size W) := ext_some
  have x0 := eH.ext (B := W.heap.size) eH.lt 0
  have l0 := eL.ext (B := W.heap.size) eL.lt 0
  have l1 := eL.ext (B := W.heap.size) eL.lt 1
  have l2 := eL.ext (B := W.heap.size) eL.lt 2
  have l3 := eL.ext (B := W.heap.size) eL.lt 3
  simp only [List.getElem?_cons_zero, List.getElem?_cons_succ] at x0 l0 l1 l2 l3
  have hLx : Hid (∀ x : Ext W.heap.size W, LnAt x.val (.agg #[.int .i64 l.gone, .slice ta l.way.length tc, .slice ga l.grs.length gc, .int .i64 l.drop]) l ls) := LnAt.ext (B := W.heap.size) hLW hLW.lt
  by_cases h1 : l.gone ≤ n ∧ n ≤ M
  · refine wp_region_ext W.heap.size (by kernel_rfl) (by kernel_rfl) ?_
    repeat (go_big_quiet_step (first | (go_at_call 49; exact ext_of (Nat.le_refl _) _ (HR.out _ (hLx.out _))) | (go_at_call 48; exact ext_of_same _ (within_yes n l.gone M _ h1.1 h1.2))))
    refine wpQuiet_nil ?_
    intro w1 hx1
    have eW1 := eW.trans ((ext_below hx1).mono eW.size)
    have eX1 := ext_below hx1
    have g1 := (HE.out _ eW1).g1
    have g2 := (HE.out _ eW1).g2
    clear hx1 x0 l0 l1 l2 l3 hLx ne hLW
    go_wp2
    go_ret
    exact ⟨by rw [tB.out h1]; rfl, eW1⟩
  · refine wp_region_ext W.heap.size (by kernel_rfl) (by kernel_rfl) ?_
    repeat (go_big_quiet_step (first | (go_at_call 49; exact ext_of (Nat.le_refl _) _ (HR.out _ (hLx.out _))) | (go_at_call 48; exact ext_of_same _ (within_no n l.gone M _ h1))))
    refine wpQuiet_nil ?_
    intro w1 hx1
    have eW1 := eW.trans ((ext_below hx1).mono eW.size)
    have eX1 := ext_below hx1
    have g1 := (HE.out _ eW1).g1
    have g2 := (HE.out _ eW1).g2
    clear hx1 x0 l0 l1 l2 l3 hLx ne hLW
    go_wp2
    go_ret
    exact ⟨by rw [tA.out h1]; rfl, eW1⟩

set_option maxHeartbeats 1000000 in
set_option maxRecDepth 100000 in
theorem refusal5 (k : Bk) (l : Ln) (n : Int) (vb vl : Value) (bs ls : List Nat) (w : World) (a0 a1 a2 : Addr) (hb : BkAt w vb k bs) (hl : LnAt w vl l ls) (he : Errs w a0 a1 a2) (hW : WayOk k.sec l) (hG : GrsOk l) (hD : DropOk l) :
    Calls Tryd.prog 166 #[.agg #[.int .i64 n], vb, vl] w fun e w' => e = .returned (errV a0 a1 a2 (lineDo (ownedB k.lns n) l 5 n).1) ∧ Below w.heap.size w w' := by
  have hL := hl
  have hB := hb
  obtain ⟨vw, vg, b1, b2, rfl, hbs, hwi, hgi⟩ := hl
  obtain ⟨ta, tn, tc, rfl⟩ := hwi.slice
  obtain ⟨ga, gn, gc, rfl⟩ := hgi.slice
  have hgn : gn = l.grs.length := by obtain ⟨a', c', hv, _⟩ := hgi; simp at hv; exact hv.2.1
  have htn : tn = l.way.length := by obtain ⟨a', c', hv, _⟩ := hwi; simp at hv; exact hv.2.1
  subst hgn htn
  obtain ⟨m, hm⟩ : ∃ m, l.grs.length = m + 1 := ⟨l.grs.length - 1, by have := hG.some; omega⟩
  have HLa : Hid (∀ W, LnAt W (.agg #[.int .i64 l.gone, .slice ta l.way.length tc, .slice ga l.grs.length gc, .int .i64 l.drop]) l ls → Calls Tryd.prog 79 #[.agg #[.int .i64 l.gone, .slice ta l.way.length tc, .slice ga l.grs.length gc, .int .i64 l.drop]] W fun e w' => e = .returned (.agg #[.int .i64 (lastVer l), .int .i64 (lastCel l)]) ∧ Below W.heap.size W w') := fun W h => by
    have e1 : lastVer l = (l.grs[m]?.getD gr0).ver := by unfold lastVer; rw [hm]; rfl
    have e2 : lastCel l = (l.grs[m]?.getD gr0).cel := by unfold lastCel; rw [hm]; rfl
    rw [e1, e2]
    exact last_any l _ ls W h m hm
  have hgl1 : (1 : Int) ≤ (l.grs.length : Int) := by omega
  have hgl2 : (l.grs.length : Int) ≤ 20 := by have := hG.few; omega
  clear hm
  obtain ⟨vb0, rfl, hLs⟩ := hb
  obtain ⟨ba, bn, bc, rfl⟩ := hLs.slice
  have HW : Hid (WayOk k.sec l) := hW
  have HG : Hid (GrsOk l) := hG
  have HD : Hid (l.drop = -1 ∨ 0 ≤ l.drop) := by
    rcases hD with h | h
    · exact Or.inl h
    · exact Or.inr (by have := h.lo; have := hW.head.lo; omega)
  have HE : Hid (∀ W, Below w.heap.size w W → Errs W a0 a1 a2) := fun W hw => he.below hw he.lt
  have hlo := hW.head.lo
  have hhi := hW.head.hi
  have hlen := hW.head.len
  have htot := hW.head.tot
  have HT : Hid (∀ W, LnAt W (.agg #[.int .i64 l.gone, .slice ta l.way.length tc, .slice ga l.grs.length gc, .int .i64 l.drop]) l ls → Calls Tryd.prog 78 #[.agg #[.int .i64 l.gone, .slice ta l.way.length tc, .slice ga l.grs.length gc, .int .i64 l.drop]] W fun e w' => e = .returned (.int .i64 (totD l)) ∧ Below W.heap.size W w') := fun W h => total_any l _ ls W h HW.out.head.lo HW.out.head.hi HW.out.head.len
  have HR : Hid (∀ W, LnAt W (.agg #[.int .i64 l.gone, .slice ta l.way.length tc, .slice ga l.grs.length gc, .int .i64 l.drop]) l ls → Calls Tryd.prog 49 #[.agg #[.int .i64 l.gone, .slice ta l.way.length tc, .slice ga l.grs.length gc, .int .i64 l.drop]] W fun e w' => e = .returned (.int .i64 (mostOf l.grs)) ∧ Below W.heap.size W w') := fun W h => reach_any l _ ls W h
  have eH : BlkIs (((w.alloc (.cells #[.int .i64 n] 153)).alloc (.cells #[.bool k.ok, .int .i64 k.sec, .slice ba bn bc] 32)).alloc (.cells #[.int .i64 l.gone, .slice ta l.way.length tc, .slice ga l.grs.length gc, .int .i64 l.drop] 38)) w.heap.size [.int .i64 n] 153 := ((BlkIs.new _ _ _).alloc _).alloc _
  have eB : BlkIs (((w.alloc (.cells #[.int .i64 n] 153)).alloc (.cells #[.bool k.ok, .int .i64 k.sec, .slice ba bn bc] 32)).alloc (.cells #[.int .i64 l.gone, .slice ta l.way.length tc, .slice ga l.grs.length gc, .int .i64 l.drop] 38)) (w.heap.size + 1) [.bool k.ok, .int .i64 k.sec, .slice ba bn bc] 32 := (BlkIs.new2 _ _ _ _).alloc _
  have eL : BlkIs (((w.alloc (.cells #[.int .i64 n] 153)).alloc (.cells #[.bool k.ok, .int .i64 k.sec, .slice ba bn bc] 32)).alloc (.cells #[.int .i64 l.gone, .slice ta l.way.length tc, .slice ga l.grs.length gc, .int .i64 l.drop] 38)) (w.heap.size + 1 + 1) [.int .i64 l.gone, .slice ta l.way.length tc, .slice ga l.grs.length gc, .int .i64 l.drop] 38 := BlkIs.new3 _ _ _ _ _
  have eW : Below w.heap.size w (((w.alloc (.cells #[.int .i64 n] 153)).alloc (.cells #[.bool k.ok, .int .i64 k.sec, .slice ba bn bc] 32)).alloc (.cells #[.int .i64 l.gone, .slice ta l.way.length tc, .slice ga l.grs.length gc, .int .i64 l.drop] 38)) := below3 w _ _ _
  clear hW hG hD he hLs
  have tA : Hid (¬ (l.gone ≤ n ∧ n ≤ totD l - 1) → (lineDo (ownedB k.lns n) l 5 n).1 = 2) := fun h => by
    have h' : n < l.gone ∨ totD l ≤ n := by omega
    simp [lineDo, h']
  have tB : Hid (l.gone ≤ n ∧ n ≤ totD l - 1 → n < lastCel l → (lineDo (ownedB k.lns n) l 5 n).1 = 3) := fun h g => by
    have h' : ¬ (n < l.gone ∨ totD l ≤ n) := by omega
    simp [lineDo, h', g]
  have tC : Hid (l.gone ≤ n ∧ n ≤ totD l - 1 → ¬ n < lastCel l → (lineDo (ownedB k.lns n) l 5 n).1 = 0) := fun h g => by
    have h' : ¬ (n < l.gone ∨ totD l ≤ n) := by omega
    simp [lineDo, h', g]
  have hT0 : 0 ≤ totD l := by unfold totD; omega
  have hT1 : totD l ≤ 1000000 := htot
  generalize totD l = T at *
  generalize mostOf l.grs = M at *
  generalize lastVer l = LV at *
  generalize lastCel l = LC at *
  go_enter Tryd.func166, Tryd.ntmps166
  go_wp2_with fail
  generalize ((w.alloc (.cells #[.int .i64 n] 153)).alloc (.cells #[.bool k.ok, .int .i64 k.sec, .slice ba bn bc] 32)).alloc (.cells #[.int .i64 l.gone, .slice ta l.way.length tc, .slice ga l.grs.length gc, .int .i64 l.drop] 38) = W at *
  have hLW := hL.below eW hL.lt
  have ne : Nonempty (Ext W.heap.size W) := ext_some
  have x0 := eH.ext (B := W.heap.size) eH.lt 0
  have l0 := eL.ext (B := W.heap.size) eL.lt 0
  have l1 := eL.ext (B := W.heap.size) eL.lt 1
  have l2 := eL.ext (B := W.heap.size) eL.lt 2
  have l3 := eL.ext (B := W.heap.size) eL.lt 3
  simp only [List.getElem?_cons_zero, List.getElem?_cons_succ] at x0 l0 l1 l2 l3
  have hLx : Hid (∀ x : Ext W.heap.size W, LnAt x.val (.agg #[.int .i64 l.gone, .slice ta l.way.length tc, .slice ga l.grs.length gc, .int .i64 l.drop]) l ls) := LnAt.ext (B := W.heap.size) hLW hLW.lt
  by_cases h1 : l.gone ≤ n ∧ n ≤ T - 1
  · refine wp_region_ext W.heap.size (by kernel_rfl) (by kernel_rfl) ?_
    repeat (go_big_quiet_step (first | (go_at_call 78; exact ext_of (Nat.le_refl _) _ (HT.out _ (hLx.out _))) | (go_at_call 48; exact ext_of_same _ (within_yes n l.gone (T - 1) _ h1.1 h1.2))))
    refine wpQuiet_nil ?_
    intro w1 hx1
    have eW1 := eW.trans ((ext_below hx1).mono eW.size)
    have eX1 := ext_below hx1
    have g1 := (HE.out _ eW1).g1
    have g2 := (HE.out _ eW1).g2
    clear hx1 x0 l0 l1 l2 l3 hLx ne hLW
    go_wp2_with fail
    have eH1 := eH.below eX1 eH.lt
    have eL1 := eL.below eX1 eL.lt
    clear eH eL eB eX1 g1 g2
    have hLW := hL.below eW1 hL.lt
    have ne : Nonempty (Ext w1.heap.size w1) := ext_some
    have x0 := eH1.ext (B := w1.heap.size) eH1.lt 0
    have l0 := eL1.ext (B := w1.heap.size) eL1.lt 0
    have l1 := eL1.ext (B := w1.heap.size) eL1.lt 1
    have l2 := eL1.ext (B := w1.heap.size) eL1.lt 2
    have l3 := eL1.ext (B := w1.heap.size) eL1.lt 3
    simp only [List.getElem?_cons_zero, List.getElem?_cons_succ] at x0 l0 l1 l2 l3
    have hLx : Hid (∀ x : Ext w1.heap.size w1, LnAt x.val (.agg #[.int .i64 l.gone, .slice ta l.way.length tc, .slice ga l.grs.length gc, .int .i64 l.drop]) l ls) := LnAt.ext (B := w1.heap.size) hLW hLW.lt
    have hfd0 : ∀ x : World, (Instr.field 40 (.agg #[.int .i64 LV, .int .i64 LC]) 0).run Tryd.prog x = .ok (.int .i64 LV) x := fun _ => by kernel_rfl
    have hfd1 : ∀ x : World, (Instr.field 40 (.agg #[.int .i64 LV, .int .i64 LC]) 1).run Tryd.prog x = .ok (.int .i64 LC) x := fun _ => by kernel_rfl
    by_cases h2 : n < LC
    · have h2' : decide (n < LC) = true := by simpa using h2
      refine wp_region_ext w1.heap.size (by kernel_rfl) (by kernel_rfl) ?_
      repeat (go_big_quiet_step (first | (go_at_call 79; exact ext_of (Nat.le_refl _) _ (HLa.out _ (hLx.out _)))))
      refine wpQuiet_nil ?_
      intro w2 hx1
      have eW2 := eW1.trans ((ext_below hx1).mono eW1.size)
      have eX1 := ext_below hx1
      have g1 := (HE.out _ eW2).g1
      have g2 := (HE.out _ eW2).g2
      clear hx1 x0 l0 l1 l2 l3 hLx ne hLW hfd0 hfd1
      go_wp2
      go_ret
      exact ⟨by rw [tB.out h1 h2]; rfl, eW2⟩
    · have h2' : decide (n < LC) = false := by simpa using h2
      refine wp_region_ext w1.heap.size (by kernel_rfl) (by kernel_rfl) ?_
      repeat (go_big_quiet_step (first | (go_at_call 79; exact ext_of (Nat.le_refl _) _ (HLa.out _ (hLx.out _)))))
      refine wpQuiet_nil ?_
      intro w2 hx1
      have eW2 := eW1.trans ((ext_below hx1).mono eW1.size)
      have eX1 := ext_below hx1
      have g1 := (HE.out _ eW2).g1
      have g2 := (HE.out _ eW2).g2
      clear hx1 x0 l0 l1 l2 l3 hLx ne hLW hfd0 hfd1
      go_wp2
      go_ret
      exact ⟨by rw [tC.out h1 h2]; rfl, eW2⟩
  · refine wp_region_ext W.heap.size (by kernel_rfl) (by kernel_rfl) ?_
    repeat (go_big_quiet_step (first | (go_at_call 78; exact ext_of (Nat.le_refl _) _ (HT.out _ (hLx.out _))) | (go_at_call 48; exact ext_of_same _ (within_no n l.gone (T - 1) _ h1))))
    refine wpQuiet_nil ?_
    intro w1 hx1
    have eW1 := eW.trans ((ext_below hx1).mono eW.size)
    have eX1 := ext_below hx1
    have g1 := (HE.out _ eW1).g1
    have g2 := (HE.out _ eW1).g2
    clear hx1 x0 l0 l1 l2 l3 hLx ne hLW
    go_wp2
    go_ret
    exact ⟨by rw [tA.out h1]; rfl, eW1⟩

set_option maxHeartbeats 1000000 in
set_option maxRecDepth 100000 in
theorem refusal2 (k : Bk) (l : Ln) (n : Int) (vb vl : Value) (bs ls : List Nat) (w : World) (a0 a1 a2 : Addr) (hb : BkAt w vb k bs) (hl : LnAt w vl l ls) (he : Errs w a0 a1 a2) (hW : WayOk k.sec l) (hG : GrsOk l) (hD : DropOk l) (h4 : (lineDo (ownedB k.lns n) l 2 n).1 ≠ 4) :
    Calls Tryd.prog 163 #[.agg #[.int .i64 n], vb, vl] w fun e w' => e = .returned (errV a0 a1 a2 (lineDo (ownedB k.lns n) l 2 n).1) ∧ Below w.heap.size w w' := by
  have hL := hl
  have hB := hb
  obtain ⟨vw, vg, b1, b2, rfl, hbs, hwi, hgi⟩ := hl
  obtain ⟨ta, tn, tc, rfl⟩ := hwi.slice
  obtain ⟨ga, gn, gc, rfl⟩ := hgi.slice
  have hgn : gn = l.grs.length := by obtain ⟨a', c', hv, _⟩ := hgi; simp at hv; exact hv.2.1
  have htn : tn = l.way.length := by obtain ⟨a', c', hv, _⟩ := hwi; simp at hv; exact hv.2.1
  subst hgn htn
  obtain ⟨m, hm⟩ : ∃ m, l.grs.length = m + 1 := ⟨l.grs.length - 1, by have := hG.some; omega⟩
  have HLa : Hid (∀ W, LnAt W (.agg #[.int .i64 l.gone, .slice ta l.way.length tc, .slice ga l.grs.length gc, .int .i64 l.drop]) l ls → Calls Tryd.prog 79 #[.agg #[.int .i64 l.gone, .slice ta l.way.length tc, .slice ga l.grs.length gc, .int .i64 l.drop]] W fun e w' => e = .returned (.agg #[.int .i64 (lastVer l), .int .i64 (lastCel l)]) ∧ Below W.heap.size W w') := fun W h => by
    have e1 : lastVer l = (l.grs[m]?.getD gr0).ver := by unfold lastVer; rw [hm]; rfl
    have e2 : lastCel l = (l.grs[m]?.getD gr0).cel := by unfold lastCel; rw [hm]; rfl
    rw [e1, e2]
    exact last_any l _ ls W h m hm
  have hgl1 : (1 : Int) ≤ (l.grs.length : Int) := by omega
  have hgl2 : (l.grs.length : Int) ≤ 20 := by have := hG.few; omega
  clear hm
  obtain ⟨vb0, rfl, hLs⟩ := hb
  obtain ⟨ba, bn, bc, rfl⟩ := hLs.slice
  have HW : Hid (WayOk k.sec l) := hW
  have HG : Hid (GrsOk l) := hG
  have HD : Hid (l.drop = -1 ∨ 0 ≤ l.drop) := by
    rcases hD with h | h
    · exact Or.inl h
    · exact Or.inr (by have := h.lo; have := hW.head.lo; omega)
  have HE : Hid (∀ W, Below w.heap.size w W → Errs W a0 a1 a2) := fun W hw => he.below hw he.lt
  have hlo := hW.head.lo
  have hhi := hW.head.hi
  have hlen := hW.head.len
  have htot := hW.head.tot
  have HT : Hid (∀ W, LnAt W (.agg #[.int .i64 l.gone, .slice ta l.way.length tc, .slice ga l.grs.length gc, .int .i64 l.drop]) l ls → Calls Tryd.prog 78 #[.agg #[.int .i64 l.gone, .slice ta l.way.length tc, .slice ga l.grs.length gc, .int .i64 l.drop]] W fun e w' => e = .returned (.int .i64 (totD l)) ∧ Below W.heap.size W w') := fun W h => total_any l _ ls W h HW.out.head.lo HW.out.head.hi HW.out.head.len
  have HR : Hid (∀ W, LnAt W (.agg #[.int .i64 l.gone, .slice ta l.way.length tc, .slice ga l.grs.length gc, .int .i64 l.drop]) l ls → Calls Tryd.prog 49 #[.agg #[.int .i64 l.gone, .slice ta l.way.length tc, .slice ga l.grs.length gc, .int .i64 l.drop]] W fun e w' => e = .returned (.int .i64 (mostOf l.grs)) ∧ Below W.heap.size W w') := fun W h => reach_any l _ ls W h
  have eH : BlkIs (((w.alloc (.cells #[.int .i64 n] 148)).alloc (.cells #[.bool k.ok, .int .i64 k.sec, .slice ba bn bc] 32)).alloc (.cells #[.int .i64 l.gone, .slice ta l.way.length tc, .slice ga l.grs.length gc, .int .i64 l.drop] 38)) w.heap.size [.int .i64 n] 148 := ((BlkIs.new _ _ _).alloc _).alloc _
  have eB : BlkIs (((w.alloc (.cells #[.int .i64 n] 148)).alloc (.cells #[.bool k.ok, .int .i64 k.sec, .slice ba bn bc] 32)).alloc (.cells #[.int .i64 l.gone, .slice ta l.way.length tc, .slice ga l.grs.length gc, .int .i64 l.drop] 38)) (w.heap.size + 1) [.bool k.ok, .int .i64 k.sec, .slice ba bn bc] 32 := (BlkIs.new2 _ _ _ _).alloc _
  have eL : BlkIs (((w.alloc (.cells #[.int .i64 n] 148)).alloc (.cells #[.bool k.ok, .int .i64 k.sec, .slice ba bn bc] 32)).alloc (.cells #[.int .i64 l.gone, .slice ta l.way.length tc, .slice ga l.grs.length gc, .int .i64 l.drop] 38)) (w.heap.size + 1 + 1) [.int .i64 l.gone, .slice ta l.way.length tc, .slice ga l.grs.length gc, .int .i64 l.drop] 38 := BlkIs.new3 _ _ _ _ _
  have eW : Below w.heap.size w (((w.alloc (.cells #[.int .i64 n] 148)).alloc (.cells #[.bool k.ok, .int .i64 k.sec, .slice ba bn bc] 32)).alloc (.cells #[.int .i64 l.gone, .slice ta l.way.length tc, .slice ga l.grs.length gc, .int .i64 l.drop] 38)) := below3 w _ _ _
  clear hW hG hD he hLs
  have tA : Hid (¬ (l.gone ≤ n ∧ n ≤ totD l) → (lineDo (ownedB k.lns n) l 2 n).1 = 2) := fun h => by
    have h' : n < l.gone ∨ totD l < n ∨ (0 ≤ l.drop ∧ l.drop < n) := by omega
    simp [lineDo, h']
  have tB : Hid (¬ l.drop = -1 → l.drop < n → (lineDo (ownedB k.lns n) l 2 n).1 = 2) := fun h g => by
    have h0 : 0 ≤ l.drop := HD.out.resolve_left h
    have h' : n < l.gone ∨ totD l < n ∨ (0 ≤ l.drop ∧ l.drop < n) := Or.inr (Or.inr ⟨h0, g⟩)
    simp [lineDo, h']
  have t0 : Hid (l.gone ≤ n ∧ n ≤ totD l → (l.drop = -1 ∨ ¬ l.drop < n) → (lineDo (ownedB k.lns n) l 2 n).1 = if l.grs.length = 20 ∨ lastVer l = 1000000 then 4 else 0) := fun h g => by
    have h' : ¬ (n < l.gone ∨ totD l < n ∨ (0 ≤ l.drop ∧ l.drop < n)) := by omega
    simp only [lineDo]
    rw [if_neg (by decide), if_pos trivial, if_neg h']
    split <;> rfl
  have tN : Hid (l.gone ≤ n ∧ n ≤ totD l → (l.drop = -1 ∨ ¬ l.drop < n) → ¬ (l.grs.length = 20 ∨ lastVer l = 1000000)) := fun h g c => h4 (by rw [t0.out h g, if_pos c])
  have tC : Hid (l.gone ≤ n ∧ n ≤ totD l → (l.drop = -1 ∨ ¬ l.drop < n) → (lineDo (ownedB k.lns n) l 2 n).1 = 0) := fun h g => by rw [t0.out h g, if_neg (tN.out h g)]
  clear h4 t0
  have hT0 : 0 ≤ totD l := by unfold totD; omega
  have hT1 : totD l ≤ 1000000 := htot
  generalize totD l = T at *
  generalize mostOf l.grs = M at *
  generalize lastVer l = LV at *
  generalize lastCel l = LC at *
  go_enter Tryd.func163, Tryd.ntmps163
  go_wp2_with fail
  generalize ((w.alloc (.cells #[.int .i64 n] 148)).alloc (.cells #[.bool k.ok, .int .i64 k.sec, .slice ba bn bc] 32)).alloc (.cells #[.int .i64 l.gone, .slice ta l.way.length tc, .slice ga l.grs.length gc, .int .i64 l.drop] 38) = W at *
  have hLW := hL.below eW hL.lt
  have ne : Nonempty (Ext W.heap.size W) := ext_some
  have x0 := eH.ext (B := W.heap.size) eH.lt 0
  have l0 := eL.ext (B := W.heap.size) eL.lt 0
  have l1 := eL.ext (B := W.heap.size) eL.lt 1
  have l2 := eL.ext (B := W.heap.size) eL.lt 2
  have l3 := eL.ext (B := W.heap.size) eL.lt 3
  simp only [List.getElem?_cons_zero, List.getElem?_cons_succ] at x0 l0 l1 l2 l3
  have hLx : Hid (∀ x : Ext W.heap.size W, LnAt x.val (.agg #[.int .i64 l.gone, .slice ta l.way.length tc, .slice ga l.grs.length gc, .int .i64 l.drop]) l ls) := LnAt.ext (B := W.heap.size) hLW hLW.lt
  by_cases h1 : l.gone ≤ n ∧ n ≤ T
  · by_cases h2 : l.drop = -1
    · have h2' : (l.drop != -1) = false := by simp [h2]
      have h2'' : (l.drop == -1) = true := by simp [h2]
      have H2 : Hid (l.drop = -1) := h2
      clear h2
      have hN := tN.out h1 (Or.inl H2.out)
      have hn1 : ((l.grs.length : Int) == 20) = false := by simp; omega
      have hn2 : (LV == 1000000) = false := by simp; omega
      refine wp_region_ext W.heap.size (by kernel_rfl) (by kernel_rfl) ?_
      repeat (go_big_quiet_step (first | (go_at_call 78; exact ext_of (Nat.le_refl _) _ (HT.out _ (hLx.out _))) | (go_at_call 48; exact ext_of_same _ (within_yes n l.gone T _ h1.1 h1.2))))
      refine wpQuiet_nil ?_
      intro w1 hx1
      have eW1 := eW.trans ((ext_below hx1).mono eW.size)
      have eX1 := ext_below hx1
      have g1 := (HE.out _ eW1).g1
      have g2 := (HE.out _ eW1).g2
      clear hx1 x0 l0 l1 l2 l3 hLx ne hLW
      have eH1 := eH.below eX1 eH.lt
      have eL1 := eL.below eX1 eL.lt
      clear eH eL eB eX1 g1 g2
      have hfd0 : ∀ x : World, (Instr.field 40 (.agg #[.int .i64 LV, .int .i64 LC]) 0).run Tryd.prog x = .ok (.int .i64 LV) x := fun _ => by kernel_rfl
      have hfd1 : ∀ x : World, (Instr.field 40 (.agg #[.int .i64 LV, .int .i64 LC]) 1).run Tryd.prog x = .ok (.int .i64 LC) x := fun _ => by kernel_rfl
      obtain ⟨q0, q1, q2, q3⟩ := eL1.four
      go_wp2_with fail
      refine (HLa.out _ (hL.below eW1 hL.lt)).mono ?_
      rintro _ w2 ⟨rfl, hb2⟩
      have eW2 := eW1.trans (hb2.mono eW1.size)
      go_wp2
      go_ret
      exact ⟨by rw [tC.out h1 (Or.inl H2.out)]; rfl, eW2⟩
    · have h2' : (l.drop != -1) = true := by simp [h2]
      have h2'' : (l.drop == -1) = false := by simp [h2]
      have H2 : Hid (¬ l.drop = -1) := h2
      clear h2
      by_cases h3 : l.drop < n
      · have h3' : decide (l.drop < n) = true := by simpa using h3
        refine wp_region_ext W.heap.size (by kernel_rfl) (by kernel_rfl) ?_
        repeat (go_big_quiet_step (first | (go_at_call 78; exact ext_of (Nat.le_refl _) _ (HT.out _ (hLx.out _))) | (go_at_call 48; exact ext_of_same _ (within_yes n l.gone T _ h1.1 h1.2))))
        refine wpQuiet_nil ?_
        intro w1 hx1
        have eW1 := eW.trans ((ext_below hx1).mono eW.size)
        have eX1 := ext_below hx1
        have g1 := (HE.out _ eW1).g1
        have g2 := (HE.out _ eW1).g2
        clear hx1 x0 l0 l1 l2 l3 hLx ne hLW
        go_wp2
        go_ret
        exact ⟨by rw [tB.out H2.out h3]; rfl, eW1⟩
      · have h3' : decide (l.drop < n) = false := by simpa using h3
        have hN := tN.out h1 (Or.inr (by omega))
        have hn1 : ((l.grs.length : Int) == 20) = false := by simp; omega
        have hn2 : (LV == 1000000) = false := by simp; omega
        refine wp_region_ext W.heap.size (by kernel_rfl) (by kernel_rfl) ?_
        repeat (go_big_quiet_step (first | (go_at_call 78; exact ext_of (Nat.le_refl _) _ (HT.out _ (hLx.out _))) | (go_at_call 48; exact ext_of_same _ (within_yes n l.gone T _ h1.1 h1.2))))
        refine wpQuiet_nil ?_
        intro w1 hx1
        have eW1 := eW.trans ((ext_below hx1).mono eW.size)
        have eX1 := ext_below hx1
        have g1 := (HE.out _ eW1).g1
        have g2 := (HE.out _ eW1).g2
        clear hx1 x0 l0 l1 l2 l3 hLx ne hLW
        have eH1 := eH.below eX1 eH.lt
        have eL1 := eL.below eX1 eL.lt
        clear eH eL eB eX1 g1 g2
        have hfd0 : ∀ x : World, (Instr.field 40 (.agg #[.int .i64 LV, .int .i64 LC]) 0).run Tryd.prog x = .ok (.int .i64 LV) x := fun _ => by kernel_rfl
        have hfd1 : ∀ x : World, (Instr.field 40 (.agg #[.int .i64 LV, .int .i64 LC]) 1).run Tryd.prog x = .ok (.int .i64 LC) x := fun _ => by kernel_rfl
        obtain ⟨q0, q1, q2, q3⟩ := eL1.four
        go_wp2_with fail
        refine (HLa.out _ (hL.below eW1 hL.lt)).mono ?_
        rintro _ w2 ⟨rfl, hb2⟩
        have eW2 := eW1.trans (hb2.mono eW1.size)
        go_wp2
        go_ret
        exact ⟨by rw [tC.out h1 (Or.inr (by omega))]; rfl, eW2⟩
  · refine wp_region_ext W.heap.size (by kernel_rfl) (by kernel_rfl) ?_
    repeat (go_big_quiet_step (first | (go_at_call 78; exact ext_of (Nat.le_refl _) _ (HT.out _ (hLx.out _))) | (go_at_call 48; exact ext_of_same _ (within_no n l.gone T _ h1))))
    refine wpQuiet_nil ?_
    intro w1 hx1
    have eW1 := eW.trans ((ext_below hx1).mono eW.size)
    have eX1 := ext_below hx1
    have g1 := (HE.out _ eW1).g1
    have g2 := (HE.out _ eW1).g2
    clear hx1 x0 l0 l1 l2 l3 hLx ne hLW
    go_wp2
    go_ret
    exact ⟨by rw [tA.out h1]; rfl, eW1⟩

set_option maxHeartbeats 1000000 in
set_option maxRecDepth 100000 in
theorem refusal1 (k : Bk) (l : Ln) (n : Int) (vb vl : Value) (bs ls : List Nat) (w : World) (a0 a1 a2 : Addr) (hb : BkAt w vb k bs) (hl : LnAt w vl l ls) (he : Errs w a0 a1 a2) (hW : WayOk k.sec l) (hG : GrsOk l) (hD : DropOk l) (h4 : (lineDo (ownedB k.lns n) l 1 n).1 ≠ 4) (hR : Right k) (hn0 : 0 ≤ n) (hn1 : n ≤ 1000000) :
    Calls Tryd.prog 162 #[.agg #[.int .i64 n], vb, vl] w fun e w' => e = .returned (errV a0 a1 a2 (lineDo (ownedB k.lns n) l 1 n).1) ∧ Below w.heap.size w w' := by
  have hL := hl
  have hB := hb
  obtain ⟨vw, vg, b1, b2, rfl, hbs, hwi, hgi⟩ := hl
  obtain ⟨ta, tn, tc, rfl⟩ := hwi.slice
  obtain ⟨ga, gn, gc, rfl⟩ := hgi.slice
  have hgn : gn = l.grs.length := by obtain ⟨a', c', hv, _⟩ := hgi; simp at hv; exact hv.2.1
  have htn : tn = l.way.length := by obtain ⟨a', c', hv, _⟩ := hwi; simp at hv; exact hv.2.1
  subst hgn htn
  obtain ⟨m, hm⟩ : ∃ m, l.grs.length = m + 1 := ⟨l.grs.length - 1, by have := hG.some; omega⟩
  have HLa : Hid (∀ W, LnAt W (.agg #[.int .i64 l.gone, .slice ta l.way.length tc, .slice ga l.grs.length gc, .int .i64 l.drop]) l ls → Calls Tryd.prog 79 #[.agg #[.int .i64 l.gone, .slice ta l.way.length tc, .slice ga l.grs.length gc, .int .i64 l.drop]] W fun e w' => e = .returned (.agg #[.int .i64 (lastVer l), .int .i64 (lastCel l)]) ∧ Below W.heap.size W w') := fun W h => by
    have e1 : lastVer l = (l.grs[m]?.getD gr0).ver := by unfold lastVer; rw [hm]; rfl
    have e2 : lastCel l = (l.grs[m]?.getD gr0).cel := by unfold lastCel; rw [hm]; rfl
    rw [e1, e2]
    exact last_any l _ ls W h m hm
  have hgl1 : (1 : Int) ≤ (l.grs.length : Int) := by omega
  have hgl2 : (l.grs.length : Int) ≤ 20 := by have := hG.few; omega
  clear hm
  obtain ⟨vb0, rfl, hLs⟩ := hb
  obtain ⟨ba, bn, bc, rfl⟩ := hLs.slice
  have HW : Hid (WayOk k.sec l) := hW
  have HG : Hid (GrsOk l) := hG
  have HD : Hid (l.drop = -1 ∨ 0 ≤ l.drop) := by
    rcases hD with h | h
    · exact Or.inl h
    · exact Or.inr (by have := h.lo; have := hW.head.lo; omega)
  have HE : Hid (∀ W, Below w.heap.size w W → Errs W a0 a1 a2) := fun W hw => he.below hw he.lt
  have hlo := hW.head.lo
  have hhi := hW.head.hi
  have hlen := hW.head.len
  have htot := hW.head.tot
  have HT : Hid (∀ W, LnAt W (.agg #[.int .i64 l.gone, .slice ta l.way.length tc, .slice ga l.grs.length gc, .int .i64 l.drop]) l ls → Calls Tryd.prog 78 #[.agg #[.int .i64 l.gone, .slice ta l.way.length tc, .slice ga l.grs.length gc, .int .i64 l.drop]] W fun e w' => e = .returned (.int .i64 (totD l)) ∧ Below W.heap.size W w') := fun W h => total_any l _ ls W h HW.out.head.lo HW.out.head.hi HW.out.head.len
  have HR : Hid (∀ W, LnAt W (.agg #[.int .i64 l.gone, .slice ta l.way.length tc, .slice ga l.grs.length gc, .int .i64 l.drop]) l ls → Calls Tryd.prog 49 #[.agg #[.int .i64 l.gone, .slice ta l.way.length tc, .slice ga l.grs.length gc, .int .i64 l.drop]] W fun e w' => e = .returned (.int .i64 (mostOf l.grs)) ∧ Below W.heap.size W w') := fun W h => reach_any l _ ls W h
  have eH : BlkIs (((w.alloc (.cells #[.int .i64 n] 146)).alloc (.cells #[.bool k.ok, .int .i64 k.sec, .slice ba bn bc] 32)).alloc (.cells #[.int .i64 l.gone, .slice ta l.way.length tc, .slice ga l.grs.length gc, .int .i64 l.drop] 38)) w.heap.size [.int .i64 n] 146 := ((BlkIs.new _ _ _).alloc _).alloc _
  have eB : BlkIs (((w.alloc (.cells #[.int .i64 n] 146)).alloc (.cells #[.bool k.ok, .int .i64 k.sec, .slice ba bn bc] 32)).alloc (.cells #[.int .i64 l.gone, .slice ta l.way.length tc, .slice ga l.grs.length gc, .int .i64 l.drop] 38)) (w.heap.size + 1) [.bool k.ok, .int .i64 k.sec, .slice ba bn bc] 32 := (BlkIs.new2 _ _ _ _).alloc _
  have eL : BlkIs (((w.alloc (.cells #[.int .i64 n] 146)).alloc (.cells #[.bool k.ok, .int .i64 k.sec, .slice ba bn bc] 32)).alloc (.cells #[.int .i64 l.gone, .slice ta l.way.length tc, .slice ga l.grs.length gc, .int .i64 l.drop] 38)) (w.heap.size + 1 + 1) [.int .i64 l.gone, .slice ta l.way.length tc, .slice ga l.grs.length gc, .int .i64 l.drop] 38 := BlkIs.new3 _ _ _ _ _
  have eW : Below w.heap.size w (((w.alloc (.cells #[.int .i64 n] 146)).alloc (.cells #[.bool k.ok, .int .i64 k.sec, .slice ba bn bc] 32)).alloc (.cells #[.int .i64 l.gone, .slice ta l.way.length tc, .slice ga l.grs.length gc, .int .i64 l.drop] 38)) := below3 w _ _ _
  clear hW hG hD he hLs
  have HRt : Hid (Right k) := hR
  clear hR
  have tA : Hid (ownedB k.lns n = true → (lineDo (ownedB k.lns n) l 1 n).1 = 2) := fun h => by simp [lineDo, h]
  have tB : Hid (¬ ownedB k.lns n = true → ¬ l.drop = -1 → (lineDo (ownedB k.lns n) l 1 n).1 = 3) := fun h g => by
    have h0 : 0 ≤ l.drop := HD.out.resolve_left g
    simp [lineDo, h, h0]
  have t0 : Hid (¬ ownedB k.lns n = true → l.drop = -1 → (lineDo (ownedB k.lns n) l 1 n).1 = if l.way.length = 100 ∨ totD l = 1000000 then 4 else 0) := fun h g => by
    have h' : ¬ 0 ≤ l.drop := by omega
    simp only [lineDo]
    rw [if_pos trivial, if_neg h, if_neg h']
    split <;> rfl
  have tN : Hid (¬ ownedB k.lns n = true → l.drop = -1 → ¬ (l.way.length = 100 ∨ totD l = 1000000)) := fun h g c => h4 (by rw [t0.out h g, if_pos c])
  have tC : Hid (¬ ownedB k.lns n = true → l.drop = -1 → (lineDo (ownedB k.lns n) l 1 n).1 = 0) := fun h g => by rw [t0.out h g, if_neg (tN.out h g)]
  clear h4 t0
  have HO : Hid (∀ W, BkAt W (.agg #[.bool k.ok, .int .i64 k.sec, .slice ba bn bc]) k bs → Calls Tryd.prog 16 #[.agg #[.bool k.ok, .int .i64 k.sec, .slice ba bn bc], .int .i64 n] W fun e w' => (∃ c, e = .returned (.int .i64 c) ∧ OwnerIs k n c) ∧ Below W.heap.size W w') := fun W h => implOwner_any k _ bs n W h (by omega) (by omega)
  have hT0 : 0 ≤ totD l := by unfold totD; omega
  have hT1 : totD l ≤ 1000000 := htot
  have x0 : ∀ W : World, BlkIs W w.heap.size [.int .i64 n] 146 → W.cell? ⟨w.heap.size, 0, none⟩ = some (.int .i64 n) := fun W h => h.cell 0
  have HX : Hid (∀ W : World, BlkIs W w.heap.size [.int .i64 n] 146 → W.cell? ⟨w.heap.size, 0, none⟩ = some (.int .i64 n)) := x0
  clear x0
  generalize totD l = T at *
  generalize mostOf l.grs = M at *
  generalize lastVer l = LV at *
  generalize lastCel l = LC at *
  go_enter Tryd.func162, Tryd.ntmps162
  go_wp2_with fail
  generalize ((w.alloc (.cells #[.int .i64 n] 146)).alloc (.cells #[.bool k.ok, .int .i64 k.sec, .slice ba bn bc] 32)).alloc (.cells #[.int .i64 l.gone, .slice ta l.way.length tc, .slice ga l.grs.length gc, .int .i64 l.drop] 38) = W at *
  refine (HO.out _ (hB.below eW hB.lt)).mono ?_
  rintro _ w1 ⟨⟨c, rfl, hc⟩, hb1⟩
  have eW1 := eW.trans (hb1.mono eW.size)
  have eL1 := eL.below hb1 eL.lt
  obtain ⟨q0, q1, q2, q3⟩ := eL1.four
  have hown := owner_owned hc HRt.out
  have hcm : c = -1 ∨ 0 ≤ c := by
    rcases hc with ⟨_, h⟩ | ⟨_, i, _, _, _, _, h⟩ | ⟨_, _, h⟩
    · exact Or.inl h
    · exact Or.inr (by omega)
    · exact Or.inl h
  have g1 := (HE.out _ eW1).g1
  have g2 := (HE.out _ eW1).g2
  have HOw : Hid (0 ≤ c ↔ ownedB k.lns n = true) := hown
  clear hown hc hb1 eL eH eB
  by_cases hA : c = -1
  · have hA' : (c != -1) = false := by simp [hA]
    have hnO : Hid (¬ ownedB k.lns n = true) := fun h => by have := HOw.out.2 h; omega
    clear hcm hA
    by_cases h2 : l.drop = -1
    · have h2' : (l.drop != -1) = false := by simp [h2]
      have hN := tN.out hnO.out h2
      have hw1 : ((l.way.length : Int) == 100) = false := by simp; omega
      have hw2 : (T == 1000000) = false := by simp; omega
      have H2 : Hid (l.drop = -1) := h2
      clear h2
      go_wp2_with fail
      refine (HT.out _ (hL.below eW1 hL.lt)).mono ?_
      rintro _ w2 ⟨rfl, hb2⟩
      have eW2 := eW1.trans (hb2.mono eW1.size)
      go_wp2
      go_ret
      exact ⟨by rw [tC.out hnO.out H2.out]; rfl, eW2⟩
    · have h2' : (l.drop != -1) = true := by simp [h2]
      have H2 : Hid (¬ l.drop = -1) := h2
      clear h2
      go_wp2
      go_ret
      exact ⟨by rw [tB.out hnO.out H2.out]; rfl, eW1⟩
  · have hA' : (c != -1) = true := by simp [hA]
    have hO : Hid (ownedB k.lns n = true) := HOw.out.1 (by omega)
    clear hcm hA
    go_wp2
    go_ret
    exact ⟨by rw [tA.out hO.out]; rfl, eW1⟩

set_option maxHeartbeats 1000000 in
set_option maxRecDepth 100000 in
theorem refusal3 (k : Bk) (l : Ln) (n : Int) (vb vl : Value) (bs ls : List Nat) (w : World) (a0 a1 a2 : Addr) (hb : BkAt w vb k bs) (hl : LnAt w vl l ls) (he : Errs w a0 a1 a2) (hW : WayOk k.sec l) (hG : GrsOk l) (hD : DropOk l) :
    Calls Tryd.prog 164 #[.agg #[.int .i64 n], vb, vl] w fun e w' => e = .returned (errV a0 a1 a2 (lineDo (ownedB k.lns n) l 3 n).1) ∧ Below w.heap.size w w' := by
  have hL := hl
  have hB := hb
  obtain ⟨vw, vg, b1, b2, rfl, hbs, hwi, hgi⟩ := hl
  obtain ⟨ta, tn, tc, rfl⟩ := hwi.slice
  obtain ⟨ga, gn, gc, rfl⟩ := hgi.slice
  have hgn : gn = l.grs.length := by obtain ⟨a', c', hv, _⟩ := hgi; simp at hv; exact hv.2.1
  have htn : tn = l.way.length := by obtain ⟨a', c', hv, _⟩ := hwi; simp at hv; exact hv.2.1
  subst hgn htn
  obtain ⟨m, hm⟩ : ∃ m, l.grs.length = m + 1 := ⟨l.grs.length - 1, by have := hG.some; omega⟩
  have HLa : Hid (∀ W, LnAt W (.agg #[.int .i64 l.gone, .slice ta l.way.length tc, .slice ga l.grs.length gc, .int .i64 l.drop]) l ls → Calls Tryd.prog 79 #[.agg #[.int .i64 l.gone, .slice ta l.way.length tc, .slice ga l.grs.length gc, .int .i64 l.drop]] W fun e w' => e = .returned (.agg #[.int .i64 (lastVer l), .int .i64 (lastCel l)]) ∧ Below W.heap.size W w') := fun W h => by
    have e1 : lastVer l = (l.grs[m]?.getD gr0).ver := by unfold lastVer; rw [hm]; rfl
    have e2 : lastCel l = (l.grs[m]?.getD gr0).cel := by unfold lastCel; rw [hm]; rfl
    rw [e1, e2]
    exact last_any l _ ls W h m hm
  have hgl1 : (1 : Int) ≤ (l.grs.length : Int) := by omega
  have hgl2 : (l.grs.length : Int) ≤ 20 := by have := hG.few; omega
  clear hm
  obtain ⟨vb0, rfl, hLs⟩ := hb
  obtain ⟨ba, bn, bc, rfl⟩ := hLs.slice
  have HW : Hid (WayOk k.sec l) := hW
  have HG : Hid (GrsOk l) := hG
  have HD : Hid (l.drop = -1 ∨ 0 ≤ l.drop) := by
    rcases hD with h | h
    · exact Or.inl h
    · exact Or.inr (by have := h.lo; have := hW.head.lo; omega)
  have HE : Hid (∀ W, Below w.heap.size w W → Errs W a0 a1 a2) := fun W hw => he.below hw he.lt
  have hlo := hW.head.lo
  have hhi := hW.head.hi
  have hlen := hW.head.len
  have htot := hW.head.tot
  have HT : Hid (∀ W, LnAt W (.agg #[.int .i64 l.gone, .slice ta l.way.length tc, .slice ga l.grs.length gc, .int .i64 l.drop]) l ls → Calls Tryd.prog 78 #[.agg #[.int .i64 l.gone, .slice ta l.way.length tc, .slice ga l.grs.length gc, .int .i64 l.drop]] W fun e w' => e = .returned (.int .i64 (totD l)) ∧ Below W.heap.size W w') := fun W h => total_any l _ ls W h HW.out.head.lo HW.out.head.hi HW.out.head.len
  have HR : Hid (∀ W, LnAt W (.agg #[.int .i64 l.gone, .slice ta l.way.length tc, .slice ga l.grs.length gc, .int .i64 l.drop]) l ls → Calls Tryd.prog 49 #[.agg #[.int .i64 l.gone, .slice ta l.way.length tc, .slice ga l.grs.length gc, .int .i64 l.drop]] W fun e w' => e = .returned (.int .i64 (mostOf l.grs)) ∧ Below W.heap.size W w') := fun W h => reach_any l _ ls W h
  have eH : BlkIs (((w.alloc (.cells #[.int .i64 n] 150)).alloc (.cells #[.bool k.ok, .int .i64 k.sec, .slice ba bn bc] 32)).alloc (.cells #[.int .i64 l.gone, .slice ta l.way.length tc, .slice ga l.grs.length gc, .int .i64 l.drop] 38)) w.heap.size [.int .i64 n] 150 := ((BlkIs.new _ _ _).alloc _).alloc _
  have eB : BlkIs (((w.alloc (.cells #[.int .i64 n] 150)).alloc (.cells #[.bool k.ok, .int .i64 k.sec, .slice ba bn bc] 32)).alloc (.cells #[.int .i64 l.gone, .slice ta l.way.length tc, .slice ga l.grs.length gc, .int .i64 l.drop] 38)) (w.heap.size + 1) [.bool k.ok, .int .i64 k.sec, .slice ba bn bc] 32 := (BlkIs.new2 _ _ _ _).alloc _
  have eL : BlkIs (((w.alloc (.cells #[.int .i64 n] 150)).alloc (.cells #[.bool k.ok, .int .i64 k.sec, .slice ba bn bc] 32)).alloc (.cells #[.int .i64 l.gone, .slice ta l.way.length tc, .slice ga l.grs.length gc, .int .i64 l.drop] 38)) (w.heap.size + 1 + 1) [.int .i64 l.gone, .slice ta l.way.length tc, .slice ga l.grs.length gc, .int .i64 l.drop] 38 := BlkIs.new3 _ _ _ _ _
  have eW : Below w.heap.size w (((w.alloc (.cells #[.int .i64 n] 150)).alloc (.cells #[.bool k.ok, .int .i64 k.sec, .slice ba bn bc] 32)).alloc (.cells #[.int .i64 l.gone, .slice ta l.way.length tc, .slice ga l.grs.length gc, .int .i64 l.drop] 38)) := below3 w _ _ _
  clear hW hG hD he hLs
  have tA : Hid (¬ (0 ≤ n - firstVer l ∧ n - firstVer l < l.grs.length) → (lineDo (ownedB k.lns n) l 3 n).1 = 2) := fun h => by
    have h' : n - firstVer l < 0 ∨ (l.grs.length : Int) ≤ n - firstVer l := by omega
    simp [lineDo, h']
  have tB : Hid (∀ m : Nat, n - firstVer l = m → m < l.grs.length → mostOf (l.grs.drop m) < l.gone → (lineDo (ownedB k.lns n) l 3 n).1 = 3) := fun m a b c => by
    have h' : ¬ (n - firstVer l < 0 ∨ (l.grs.length : Int) ≤ n - firstVer l) := by omega
    have e : (n - firstVer l).toNat = m := by omega
    simp [lineDo, h', e, c]
  have tC : Hid (∀ m : Nat, n - firstVer l = m → m < l.grs.length → ¬ mostOf (l.grs.drop m) < l.gone → (lineDo (ownedB k.lns n) l 3 n).1 = 0) := fun m a b c => by
    have h' : ¬ (n - firstVer l < 0 ∨ (l.grs.length : Int) ≤ n - firstVer l) := by omega
    have e : (n - firstVer l).toNat = m := by omega
    simp [lineDo, h', e, c]
  have HS : Hid (∀ W, LnAt W (.agg #[.int .i64 l.gone, .slice ta l.way.length tc, .slice ga l.grs.length gc, .int .i64 l.drop]) l ls → Calls Tryd.prog 96 #[.agg #[.int .i64 l.gone, .slice ta l.way.length tc, .slice ga l.grs.length gc, .int .i64 l.drop], .int .i64 n] W fun e w' => (∃ v, e = .returned v ∧ SinceIs l n ga gc v) ∧ Below W.heap.size W w') := fun W h => since_any l n _ ga gc ls W h HG.out
  have HGr : Hid (∀ W, Below w.heap.size w W → GrsAt W (.slice ga l.grs.length gc) l.grs b2) := fun W hw => hgi.below hw hgi.lt
  generalize totD l = T at *
  generalize mostOf l.grs = M at *
  generalize lastVer l = LV at *
  generalize lastCel l = LC at *
  go_enter Tryd.func164, Tryd.ntmps164
  go_wp2_with fail
  generalize ((w.alloc (.cells #[.int .i64 n] 150)).alloc (.cells #[.bool k.ok, .int .i64 k.sec, .slice ba bn bc] 32)).alloc (.cells #[.int .i64 l.gone, .slice ta l.way.length tc, .slice ga l.grs.length gc, .int .i64 l.drop] 38) = W at *
  have l0' := eL.cell 0
  refine (HS.out _ (hL.below eW hL.lt)).mono ?_
  rintro _ w1 ⟨⟨v, rfl, hv⟩, hb1⟩
  have eW1 := eW.trans (hb1.mono eW.size)
  have eL1 := eL.below hb1 eL.lt
  have g1 := (HE.out _ eW1).g1
  clear l0' eL eH eB hb1
  rcases hv with ⟨hn, rfl⟩ | ⟨m, gb, go, h1, h2, rfl, rfl⟩
  · have HN : Hid _ := tA.out hn
    clear hn
    go_wp2
    go_ret
    exact ⟨by rw [HN.out]; rfl, eW1⟩
  · have H1 : Hid (n - firstVer l = (m : Int)) := h1
    have H2 : Hid (m < l.grs.length) := h2
    have hz : (((l.grs.length - m : Nat) : Int) == 0) = false := by simp; omega
    have hz2 : ¬ (l.grs.length - m = 0) := by omega
    have ne : Nonempty (Ext w1.heap.size w1) := ext_some
    have l0 := eL1.ext (B := w1.heap.size) eL1.lt 0
    simp only [List.getElem?_cons_zero] at l0
    have hGx : Hid (∀ x : Ext w1.heap.size w1, GrsAt x.val (.slice (some ⟨gb, go + m * 2, none⟩) (l.grs.length - m) (gc - m)) (l.grs.drop m) b2) := fun x => ((HGr.out _ eW1).drop H2.out).below x.prop (HGr.out _ eW1).lt
    clear h1 g1
    by_cases hC : mostOf (l.grs.drop m) < l.gone
    · have HC : Hid _ := tB.out m H1.out H2.out hC
      have hC' : decide (mostOf (l.grs.drop m) < l.gone) = true := by simpa using hC
      go_wp2_with fail
      refine wp_region_ext w1.heap.size (by kernel_rfl) (by kernel_rfl) ?_
      repeat (go_big_quiet_step (first | (go_at_call 80; exact ext_of (Nat.le_refl _) _ (mostCells_any _ _ _ _ (hGx.out _)))))
      refine wpQuiet_nil ?_
      intro w2 hx1
      have eW2 := eW1.trans ((ext_below hx1).mono eW1.size)
      have g2 := (HE.out _ eW2).g2
      clear hx1 l0 hGx ne
      go_wp2
      go_ret
      exact ⟨by rw [HC.out]; rfl, eW2⟩
    · have HC : Hid _ := tC.out m H1.out H2.out (by omega)
      have hC' : decide (mostOf (l.grs.drop m) < l.gone) = false := by simpa using hC
      go_wp2_with fail
      refine wp_region_ext w1.heap.size (by kernel_rfl) (by kernel_rfl) ?_
      repeat (go_big_quiet_step (first | (go_at_call 80; exact ext_of (Nat.le_refl _) _ (mostCells_any _ _ _ _ (hGx.out _)))))
      refine wpQuiet_nil ?_
      intro w2 hx1
      have eW2 := eW1.trans ((ext_below hx1).mono eW1.size)
      have g2 := (HE.out _ eW2).g2
      clear hx1 l0 hGx ne
      go_wp2
      go_ret
      exact ⟨by rw [HC.out]; rfl, eW2⟩

end Go.Proofs.YtnaaheddhgpnoaaDoor
