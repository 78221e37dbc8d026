import Derived.Test.YtnaaheddhgpnoaaDoorCode
import Derived.Test.YtnaaheddhgpnoaaDoorEv
import Derived.Test.YtnaaheddhgpnoaaDoorCpD
import Derived.Test.YtnaaheddhgpnoaaDoorBookOk
import Derived.Test.YtnaaheddhgpnoaaDoorBookD
/-
  impl.Do where nothing is done: a wrong book or a wrong event.
-/
namespace Go.Proofs.YtnaaheddhgpnoaaDoor
open Go.ChangeShapes Go.WideShapes Go.ChangeAt Go.RowKit

set_option maxHeartbeats 2000000 in
set_option maxRecDepth 100000 in
theorem behind_no (k : Bk) (e : Ev) (v : Value) (bs : List Nat) (w : World) (a0 a1 a2 : Addr) (h : BkAt w v k bs) (he : Errs w a0 a1 a2) (hno : ¬ EvOk k e) :
    Calls Tryd.prog 38 #[v, .agg #[.int .i64 e.op, .int .i64 e.train, .int .i64 e.n]] w fun r w' => r = .returned (.tuple #[.agg #[.bool false, .int .i64 0, .slice none 0 0], .iface 231 (.pointer (some a0))]) ∧ Below w.heap.size w w' := by
  have hK := h
  have HE : Hid (∀ W, Below w.heap.size w W → Errs W a0 a1 a2) := fun W hw => he.below hw he.lt
  obtain ⟨vl, rfl, hLs⟩ := h
  obtain ⟨a, nn, ca, rfl⟩ := hLs.slice
  have HN : Hid (¬ EvOk k e) := hno
  have bA : Below w.heap.size w (((w.alloc (.cells #[.bool k.ok, .int .i64 k.sec, .slice a nn ca] 32)).alloc (.cells #[.int .i64 e.op, .int .i64 e.train, .int .i64 e.n] 46)).alloc (.cells #[.bool false, .int .i64 0, .slice none 0 0] 32)) := below3 w _ _ _
  have eR : BlkIs (((w.alloc (.cells #[.bool k.ok, .int .i64 k.sec, .slice a nn ca] 32)).alloc (.cells #[.int .i64 e.op, .int .i64 e.train, .int .i64 e.n] 46)).alloc (.cells #[.bool false, .int .i64 0, .slice none 0 0] 32)) (w.heap.size + 1 + 1) [.bool false, .int .i64 0, .slice none 0 0] 32 := BlkIs.new3 _ _ _ _ _
  clear he hLs hno
  go_enter Tryd.func38, Tryd.ntmps38
  go_wp2_with fail
  generalize (((w.alloc (.cells #[.bool k.ok, .int .i64 k.sec, .slice a nn ca] 32)).alloc (.cells #[.int .i64 e.op, .int .i64 e.train, .int .i64 e.n] 46)).alloc (.cells #[.bool false, .int .i64 0, .slice none 0 0] 32)) = A at *
  refine (implEventOk_any k e _ bs _ (hK.below bA hK.lt)).mono ?_
  rintro _ w1 ⟨⟨c, rfl, hc⟩, hb1⟩
  obtain rfl : c = false := by
    cases c with
    | false => rfl
    | true => exact absurd (hc.1 rfl) HN.out
  have b1 := bA.trans (hb1.mono bA.size)
  have eR1 := eR.below hb1 eR.lt
  have g0 := (HE.out _ b1).g0
  clear hc hb1 eR bA
  obtain ⟨x0, x1, x2⟩ := eR1.three
  have fr : ∀ x, w1.frozen? ⟨w.heap.size + 1 + 1, x, none⟩ = false := fun x => eR1.frozen x
  go_wp2_with fail
  go_region
  go_wp2
  exact bodyPost_ret (v := .tuple #[.agg #[.bool false, .int .i64 0, .slice none 0 0], .iface 231 (.pointer (some a0))]) (by simp [results, Tryd.results38, go_sem, x0, x1, x2]) rfl ⟨rfl, (((b1.setCell (by simp; omega) _).setCell (by simp; omega) _).setCell (by simp; omega) _).drew⟩

set_option maxHeartbeats 2000000 in
set_option maxRecDepth 100000 in
theorem implDo_no (k : Bk) (e : Ev) (v : Value) (bs : List Nat) (w : World) (a0 a1 a2 : Addr) (h : BkAt w v k bs) (he : Errs w a0 a1 a2) (hno : ¬ EvOk k e) :
    Calls Tryd.prog 18 #[v, .agg #[.int .i64 e.op, .int .i64 e.train, .int .i64 e.n]] w fun r w' => r = .returned (.agg #[.int .i64 1, .bool false, .int .i64 0, .slice none 0 0]) ∧ Below w.heap.size w w' := by
  have hK := h
  have HE : Hid (∀ W, Below w.heap.size w W → Errs W a0 a1 a2) := fun W hw => he.below hw he.lt
  obtain ⟨vl, rfl, hLs⟩ := h
  obtain ⟨a, nn, ca, rfl⟩ := hLs.slice
  have HB : Hid (∀ W, BkAt W (.agg #[.bool k.ok, .int .i64 k.sec, .slice a nn ca]) k bs → Errs W a0 a1 a2 → Calls Tryd.prog 38 #[.agg #[.bool k.ok, .int .i64 k.sec, .slice a nn ca], .agg #[.int .i64 e.op, .int .i64 e.train, .int .i64 e.n]] W fun r w' => r = .returned (.tuple #[.agg #[.bool false, .int .i64 0, .slice none 0 0], .iface 231 (.pointer (some a0))]) ∧ Below W.heap.size W w') := fun W h1 h2 => behind_no k e _ bs W a0 a1 a2 h1 h2 hno
  have HCo : Hid (∀ W, Errs W a0 a1 a2 → Calls Tryd.prog 41 #[.iface 231 (.pointer (some a0))] W fun r w' => r = .returned (.int .i64 1) ∧ w' = W) := fun W h1 => codeOf_1 a0 a1 a2 W h1
  have bA : Below w.heap.size w (((w.alloc (.cells #[.bool k.ok, .int .i64 k.sec, .slice a nn ca] 32)).alloc (.cells #[.int .i64 e.op, .int .i64 e.train, .int .i64 e.n] 46)).alloc (.cells #[.int .i64 0, .bool false, .int .i64 0, .slice none 0 0] 34)) := below3 w _ _ _
  have eR : BlkIs (((w.alloc (.cells #[.bool k.ok, .int .i64 k.sec, .slice a nn ca] 32)).alloc (.cells #[.int .i64 e.op, .int .i64 e.train, .int .i64 e.n] 46)).alloc (.cells #[.int .i64 0, .bool false, .int .i64 0, .slice none 0 0] 34)) (w.heap.size + 1 + 1) [.int .i64 0, .bool false, .int .i64 0, .slice none 0 0] 34 := BlkIs.new3 _ _ _ _ _
  have hAz : (((w.alloc (.cells #[.bool k.ok, .int .i64 k.sec, .slice a nn ca] 32)).alloc (.cells #[.int .i64 e.op, .int .i64 e.train, .int .i64 e.n] 46)).alloc (.cells #[.int .i64 0, .bool false, .int .i64 0, .slice none 0 0] 34)).heap.size = w.heap.size + 3 := by simp
  clear he hLs hno
  go_enter Tryd.func18, Tryd.ntmps18
  go_wp2_with fail
  generalize (((w.alloc (.cells #[.bool k.ok, .int .i64 k.sec, .slice a nn ca] 32)).alloc (.cells #[.int .i64 e.op, .int .i64 e.train, .int .i64 e.n] 46)).alloc (.cells #[.int .i64 0, .bool false, .int .i64 0, .slice none 0 0] 34)) = A at *
  refine (HB.out _ (hK.below bA hK.lt) (HE.out _ bA)).mono ?_
  rintro _ w1 ⟨rfl, hb1⟩
  have b1 := bA.trans (hb1.mono bA.size)
  have eR1 := eR.below hb1 eR.lt
  have z1 := hb1.size
  clear eR
  have bF : Below w1.heap.size w1 (w1.alloc (.cells #[.bool false, .int .i64 0, .slice none 0 0] 32)) := (Below.refl _ _).alloc (Nat.le_refl _) _
  have eF : BlkIs (w1.alloc (.cells #[.bool false, .int .i64 0, .slice none 0 0] 32)) w1.heap.size [.bool false, .int .i64 0, .slice none 0 0] 32 := BlkIs.new _ _ _
  have eR2 := eR1.below bF eR1.lt
  have b2 := b1.trans (bF.mono b1.size)
  have HCF : Hid (Calls Tryd.prog 41 #[.iface 231 (.pointer (some a0))] (w1.alloc (.cells #[.bool false, .int .i64 0, .slice none 0 0] 32)).drew fun r w' => r = .returned (.int .i64 1) ∧ w' = (w1.alloc (.cells #[.bool false, .int .i64 0, .slice none 0 0] 32)).drew) := HCo.out _ (HE.out _ b2.drew)
  clear eR1
  go_wp2_with fail
  generalize (w1.alloc (.cells #[.bool false, .int .i64 0, .slice none 0 0] 32)) = F at *
  obtain ⟨f0, f1, f2⟩ := eF.three
  obtain ⟨r0, r1, r2, r3⟩ := eR2.four
  have rf : ∀ x, F.frozen? ⟨w.heap.size + 1 + 1, x, none⟩ = false := fun x => eR2.frozen x
  go_region_with (first
    | (go_at_call 41; refine (Calls.mono HCF.out ?_); rintro _ w2 ⟨rfl, rfl⟩))
  all_goals (
    go_wp2
    exact bodyPost_ret (v := .agg #[.int .i64 1, .bool false, .int .i64 0, .slice none 0 0]) (by simp [results, Tryd.results18, go_sem, r0, r1, r2, r3]) rfl ⟨rfl, ((((b2.setCell (by simp; omega) _).setCell (by simp; omega) _).setCell (by simp; omega) _).setCell (by simp; omega) _).drew⟩)

end Go.Proofs.YtnaaheddhgpnoaaDoor

/-
  impl.Reach alone (Reach.lean.t holds it beside spec.Reach, which the door's program lacks).
-/
namespace Go.Proofs.YtnaaheddhgpnoaaDoor
open Go.ChangeShapes Go.WideShapes Go.ChangeAt Go.RowKit

set_option maxHeartbeats 1000000 in
theorem implReach_any (k : Bk) (v : Value) (bs : List Nat) (t : Int) (w : World) (h : BkAt w v k bs) :
    Calls Tryd.prog 15 #[v, .int .i64 t] w fun e w' => RetReach e k t ∧ Below w.heap.size w w' := by
  have hK := h
  obtain ⟨vl, rfl, hLs⟩ := h
  obtain ⟨a, ca, rfl, hca, hcm, h⟩ := hLs
  unfold maxLen at hcm
  have a1 : ∀ o, Below w.heap.size w (w.alloc o) := fun o => (Below.refl _ _).alloc (Nat.le_refl _) _
  have B0 := BlkIs.new w [.bool k.ok, .int .i64 k.sec, .slice a k.lns.length ca] 32
  have HNo : Hid (¬ (Right k ∧ 0 ≤ t ∧ t ≤ (k.lns.length : Int) - 1) → RetReach (.returned (.int .i64 (-1))) k t) := fun h => RetReach.no h
  have HIs : Hid (∀ i : Nat, Right k → i < k.lns.length → RetReach (.returned (.int .i64 (mostOf (k.lns[i]?.getD ln0).grs))) k i) := fun i h hi => RetReach.is h hi
  have hBO := fun W h => implBookOk_any k (.agg #[.bool k.ok, .int .i64 k.sec, .slice a k.lns.length ca]) bs W h
  generalize k.lns.length = n at *
  go_enter Tryd.func15, Tryd.ntmps15
  go_wp2_with fail
  refine (hBO _ (hK.below (a1 _) hK.lt)).mono ?_
  rintro e w1 ⟨⟨c, rfl, hc⟩, hb1⟩
  have hz := hc.zero
  have B1 := B0.below hb1 B0.lt
  have T1 := (a1 _).trans (hb1.mono (by simp))
  clear hBO B0 hb1 hc a1
  obtain ⟨x0, x1, x2⟩ := B1.three
  by_cases hc0 : c = 0
  · have HRt : Hid (Right k) := hz.1 hc0
    subst hc0
    clear hz
    by_cases ht : 0 ≤ t ∧ t ≤ (n : Int) - 1
    · obtain ⟨ht1, ht2⟩ := ht
      obtain ⟨j, rfl⟩ := Int.eq_ofNat_of_zero_le ht1
      have hlt : j < n := by omega
      rcases h with ⟨h00, _⟩ | ⟨b, o, E, rfl, _, hs, hc⟩
      · omega
      obtain ⟨vw, vg, p0, p1, p2, p3, hl⟩ := (hc j hlt).at
      have hl' := hl.below T1 hl.lt
      obtain ⟨_, _, _, _, hv, _, hiw, hgw⟩ := hl
      obtain ⟨sa1, sn1, sc1, rfl⟩ := hiw.slice
      obtain ⟨sa2, sn2, sc2, rfl⟩ := hgw.slice
      simp only [Value.agg.injEq, Array.mk.injEq, List.cons.injEq, and_true, true_and] at hv
      obtain ⟨rfl, rfl⟩ := hv
      have c0 := ((bcell T1).1 _ _ hs).trans p0
      have c1 := ((bcell T1).1 _ _ hs).trans p1
      have c2 := ((bcell T1).1 _ _ hs).trans p2
      have c3 := ((bcell T1).1 _ _ hs).trans p3
      have HF : Hid _ := HIs.out j HRt.out hlt
      have hjn : (j : Int) < (n : Int) := by omega
      clear hc p0 p1 p2 p3 hiw hgw
      generalize k.lns[j]?.getD ln0 = l at *
      go_wp2_with fail
      refine (within_yes (j : Int) 0 ((n : Int) - 1) _ ht1 ht2).mono ?_
      rintro e w2 ⟨rfl, rfl⟩
      go_wp2_with fail
      refine (reach_any l _ _ _ hl').mono ?_
      rintro e w3 ⟨rfl, hb3⟩
      have T3 := T1.trans (hb3.mono T1.size)
      clear x0 x1 x2 c0 c1 c2 c3
      go_wp2
      go_ret
      exact ⟨HF.out, T3⟩
    · have HF : Hid _ := HNo.out (fun h => ht h.2)
      go_wp2_with fail
      refine (within_no t 0 ((n : Int) - 1) _ ht).mono ?_
      rintro e w2 ⟨rfl, rfl⟩
      go_wp2
      go_ret
      exact ⟨HF.out, T1⟩
  · have HF : Hid _ := HNo.out (fun h => hc0 (hz.2 h.1))
    have hc0' : (c != 0) = true := by simp [hc0]
    clear hz hc0
    go_wp2
    go_ret
    exact ⟨HF.out, T1⟩

end Go.Proofs.YtnaaheddhgpnoaaDoor
