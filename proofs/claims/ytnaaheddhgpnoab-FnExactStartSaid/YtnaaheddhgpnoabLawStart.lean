import Derived.Test.YtnaaheddhgpnoabWdI
import Derived.Test.YtnaaheddhgpnoabTo
import Derived.Test.YtnaaheddhgpnoabStI
import Derived.Test.YtnaaheddhgpnoabStS
import Derived.Test.YtnaaheddhgpnoabRead
import Derived.OpenShut
import Derived.ShutString
import Derived.ChangeOld
import Derived.Below
namespace Go.Proofs.Ytnaaheddhgpnoab
namespace FnExactStartProof
open Go.ChangeShapes Go.WideShapes Go.ChangeAt Go.RowKit
set_option linter.unusedVariables false

theorem own : ownKnob Try.prog.godebug = none := by kernel_rfl
theorem laidOut : laidOutB Try.prog = true := by kernel_rfl

theorem start_small {s : Int} {xs : List Int} {k : Wd} (h : StartIs s xs k) : 1 ≤ wdEnd k 1 ∧ wdEnd k 1 ≤ 1000 := by
  rcases h with ⟨hr, rfl⟩ | ⟨_, rfl⟩
  · have hf := start_frame hr
    have ho : ∀ i, i ≤ xs.length → offs (xs.map lnS) i 1 = 1 + 5 * i := by
      intro i
      induction i with
      | zero => intro _; rfl
      | succ i ih =>
        intro hi
        have := ih (by omega)
        simp only [offs]
        rw [this, List.getElem?_map, List.getElem?_eq_getElem (show i < xs.length by omega)]
        simp [lnS, lnSize]
        omega
    have h1 := ho xs.length (Nat.le_refl _)
    unfold wdEnd
    simp only [stBk, List.length_map, List.length_replicate]
    rw [h1]
    omega
  · simp [wdEnd, wd0, bk0, offs]

/-- What stands while the law goes on: the specification's world and the program's, each in its box. -/
structure LSt (w W : World) (v2 v4 : Value) (k k4 : Wd) (b2 b4 : List Nat) (B2 B4 : Nat) (c2 c4 : List Value) (t : TypeId) : Prop where
  T : Below w.heap.size w W
  A2 : WdAt W v2 k b2
  X2 : BlkIs W B2 c2 t
  A4 : WdAt W v4 k4 b4
  X4 : BlkIs W B4 c4 t
theorem LSt.below {w W W' : World} {v2 v4 : Value} {k k4 : Wd} {b2 b4 : List Nat} {B2 B4 : Nat} {c2 c4 : List Value} {t : TypeId} (h : LSt w W v2 v4 k k4 b2 b4 B2 B4 c2 c4 t) (hb : Below W.heap.size W W') : LSt w W' v2 v4 k k4 b2 b4 B2 B4 c2 c4 t :=
  ⟨h.T.trans (hb.mono h.T.size), h.A2.below hb h.A2.lt, h.X2.below hb h.X2.lt, h.A4.below hb h.A4.lt, h.X4.below hb h.X4.lt⟩
theorem LSt.chg {w W W' : World} {v2 v4 : Value} {k k4 : Wd} {b2 b4 bs : List Nat} {B2 B4 : Nat} {c2 c4 : List Value} {t : TypeId} (h : LSt w W v2 v4 k k4 b2 b4 B2 B4 c2 c4 t) (hc : Chg bs W W')
    (d0 : ∀ x ∈ bs, w.heap.size ≤ x) (d1 : ∀ x ∈ b2, x ∉ bs) (d2 : B2 ∉ bs) (d3 : ∀ x ∈ b4, x ∉ bs) (d4 : B4 ∉ bs) : LSt w W' v2 v4 k k4 b2 b4 B2 B4 c2 c4 t :=
  ⟨h.T.trans (hc.below h.T.size d0), h.A2.keep fun x hx => hc.block x (h.A2.lt x hx) (d1 x hx), h.X2.chg hc d2, h.A4.keep fun x hx => hc.block x (h.A4.lt x hx) (d3 x hx), h.X4.chg hc d4⟩

set_option maxHeartbeats 4000000 in
set_option maxRecDepth 100000 in
theorem walk (s : Int) (xs : List Int) (v : Value) (bs : List Nat) (w : World) (h : IntsAt w v xs bs) :
    Calls Try.prog 3 #[.int .i64 s, v] w fun e w' => e = .returned (.bool true) ∧ Below w.heap.size w w' := by
  obtain ⟨k, hk⟩ := start_exists s xs
  obtain ⟨hq1, hq2⟩ := start_small hk
  have hA := h
  obtain ⟨a, cap, rfl, hc1, hc2, _⟩ := h
  unfold maxLen at hc2
  generalize hn : xs.length = n at *
  by_cases hbig : (1048576 : Int) < (n : Int)
  · go_enter Try.func3, Try.ntmps3
    go_wp2
    go_ret
    exact ⟨rfl, Below.refl _ _⟩
  · have hL : xs.length ≤ 1048576 := by omega
    have HA : Hid (∀ W, Below w.heap.size w W → IntsAt W (.slice a n cap) xs bs) := fun W hW => hA.below hW hA.lt
    have HS : Hid (∀ W v b, IntsAt W v xs b → Calls Try.prog 5 #[.int .i64 s, v] W fun e w' => ∃ v' bs', e = .returned v' ∧ WdAt w' v' k bs' ∧ Below W.heap.size W w') := fun W v b hv => specStart_any s xs v b W k hv hk
    have HI : Hid (∀ W v b, IntsAt W v xs b → Calls Try.prog 7 #[.int .i64 s, v] W fun e w' => ∃ v', e = .returned v' ∧ NewWd W w' v' k) := fun W v b hv => implStart_any s xs v b W k hv hk
    have HT : Hid (∀ W v b, IntsAt W v xs b → Calls Try.prog 6 #[v] W fun e w' => ∃ v', e = .returned v' ∧ NewInts W w' v' xs) := fun W v b hv => toIntS_any xs v b W hv hL
    clear hA hk
    have Hn : Hid (xs.length = n) := hn
    clear hn
    generalize hq : wdEnd k 1 = q at *
    have Hq : Hid (wdEnd k 1 = q) := hq
    clear hq
    go_enter Try.func3, Try.ntmps3
    go_wp2_with fail
    refine (HT.out _ _ _ (HA.out _ (Below.refl _ _))).mono ?_
    rintro _ w1 ⟨v1, rfl, b1, hi1, _, _, _, hb1⟩
    obtain ⟨a1, n1, c1, rfl⟩ := hi1.slice
    go_wp2_with fail
    refine (HS.out _ _ _ hi1).mono ?_
    rintro _ w2 ⟨v2, b2, rfl, hw2, hb2⟩
    have T2 := hb1.trans (hb2.mono hb1.size)
    obtain ⟨p1, p2, p3, p4, p5, p6, rfl⟩ := hw2.five
    clear hi1 hb1 hb2
    have a2 : Below w2.heap.size w2 (w2.alloc (.cells #[.bool k.ok, .bool k.bk.ok, .int .i64 k.bk.sec, .slice p1 p2 p3, .slice p4 p5 p6] 28)) := (Below.refl _ _).alloc (Nat.le_refl _) _
    have X2 : BlkIs (w2.alloc (.cells #[.bool k.ok, .bool k.bk.ok, .int .i64 k.bk.sec, .slice p1 p2 p3, .slice p4 p5 p6] 28)) w2.heap.size [.bool k.ok, .bool k.bk.ok, .int .i64 k.bk.sec, .slice p1 p2 p3, .slice p4 p5 p6] 28 := BlkIs.new _ _ _
    have zV : (w2.alloc (.cells #[.bool k.ok, .bool k.bk.ok, .int .i64 k.bk.sec, .slice p1 p2 p3, .slice p4 p5 p6] 28)).heap.size = w2.heap.size + 1 := by simp
    have l2 := hw2.lt
    have A2 := hw2.below a2 hw2.lt
    have T3 := T2.trans (a2.mono T2.size)
    have hzW := T2.size
    clear hw2 a2 T2
    go_wp2_with fail
    generalize (w2.alloc (.cells #[.bool k.ok, .bool k.bk.ok, .int .i64 k.bk.sec, .slice p1 p2 p3, .slice p4 p5 p6] 28)) = V2 at *
    refine (HT.out _ _ _ (HA.out _ T3)).mono ?_
    rintro _ w3 ⟨v3, rfl, b3, hi3, nd3, fr3, ge3, hb3⟩
    obtain ⟨a3, n3, c3, rfl⟩ := hi3.slice
    have T4 := T3.trans (hb3.mono T3.size)
    have A3 := A2.below hb3 A2.lt
    have X3 := X2.below hb3 X2.lt
    have z3 := hb3.size
    have l3 := hi3.lt
    clear hb3 A2 X2
    go_wp2_with fail
    refine (HI.out _ _ _ hi3).mono ?_
    rintro _ w4 ⟨v4, rfl, b4, hw4, nd4, fr4, ge4, hb4⟩
    obtain ⟨r1, r2, r3, r4, r5, r6, rfl⟩ := hw4.five
    have z4 := hb4.size
    have a4 : Below w4.heap.size w4 (w4.alloc (.cells #[.bool k.ok, .bool k.bk.ok, .int .i64 k.bk.sec, .slice r1 r2 r3, .slice r4 r5 r6] 28)) := (Below.refl _ _).alloc (Nat.le_refl _) _
    have X4 : BlkIs (w4.alloc (.cells #[.bool k.ok, .bool k.bk.ok, .int .i64 k.bk.sec, .slice r1 r2 r3, .slice r4 r5 r6] 28)) w4.heap.size [.bool k.ok, .bool k.bk.ok, .int .i64 k.bk.sec, .slice r1 r2 r3, .slice r4 r5 r6] 28 := BlkIs.new _ _ _
    have l4 := hw4.lt
    have fr4' := fr4.below a4 l4
    have hi4 := (hi3.below hb4 hi3.lt).below a4 (fun x hx => by have := l3 x hx; omega)
    have fr3' := (fr3.below hb4 l3).below a4 (fun x hx => by have := l3 x hx; omega)
    have S4 : LSt w (w4.alloc (.cells #[.bool k.ok, .bool k.bk.ok, .int .i64 k.bk.sec, .slice r1 r2 r3, .slice r4 r5 r6] 28)) _ _ k k b2 b4 w2.heap.size w4.heap.size _ _ 28 :=
      ⟨(T4.trans (hb4.mono T4.size)).trans (a4.mono (by have := T4.size; omega)), (A3.below hb4 A3.lt).below a4 (fun x hx => by have := l2 x hx; omega), (X3.below hb4 X3.lt).below a4 (by omega), hw4.below a4 l4, X4⟩
    clear A3 X3 hw4 hb4 X4 fr4 fr3 hi3 T4 T3
    have hzT : Hid (w.heap.size ≤ w2.heap.size) := hzW
    have zV4 : (w4.alloc (.cells #[.bool k.ok, .bool k.bk.ok, .int .i64 k.bk.sec, .slice r1 r2 r3, .slice r4 r5 r6] 28)).heap.size = w4.heap.size + 1 := by simp
    have HS4 : Hid (LSt w (w4.alloc (.cells #[.bool k.ok, .bool k.bk.ok, .int .i64 k.bk.sec, .slice r1 r2 r3, .slice r4 r5 r6] 28)) (.agg #[.bool k.ok, .bool k.bk.ok, .int .i64 k.bk.sec, .slice p1 p2 p3, .slice p4 p5 p6]) (.agg #[.bool k.ok, .bool k.bk.ok, .int .i64 k.bk.sec, .slice r1 r2 r3, .slice r4 r5 r6]) k k b2 b4 w2.heap.size w4.heap.size [.bool k.ok, .bool k.bk.ok, .int .i64 k.bk.sec, .slice p1 p2 p3, .slice p4 p5 p6] [.bool k.ok, .bool k.bk.ok, .int .i64 k.bk.sec, .slice r1 r2 r3, .slice r4 r5 r6] 28) := S4
    obtain ⟨x0, x1, x2, x3, x4⟩ := S4.X2.five
    go_wp2_with fail
    generalize (w4.alloc (.cells #[.bool k.ok, .bool k.bk.ok, .int .i64 k.bk.sec, .slice r1 r2 r3, .slice r4 r5 r6] 28)) = V4 at *
    clear x0 x1 x2 x3 x4 HS4
    refine (eqWorld_same k _ _ b4 b2 _ S4.A4 S4.A2).mono ?_
    rintro _ w5 ⟨rfl, hb5⟩
    have S5 : LSt w w5 (.agg #[.bool k.ok, .bool k.bk.ok, .int .i64 k.bk.sec, .slice p1 p2 p3, .slice p4 p5 p6]) (.agg #[.bool k.ok, .bool k.bk.ok, .int .i64 k.bk.sec, .slice r1 r2 r3, .slice r4 r5 r6]) k (k) b2 b4 w2.heap.size w4.heap.size [.bool k.ok, .bool k.bk.ok, .int .i64 k.bk.sec, .slice p1 p2 p3, .slice p4 p5 p6] [.bool k.ok, .bool k.bk.ok, .int .i64 k.bk.sec, .slice r1 r2 r3, .slice r4 r5 r6] 28 := S4.below hb5
    have z5 := hb5.size
    have hi5 := hi4.below hb5 hi4.lt
    have fr3a := fr3'.below hb5 hi4.lt
    have fr4a := fr4'.below hb5 S4.A4.lt
    clear S4 hb5 hi4 fr3' fr4'
    go_wp2_with fail
    refine (HT.out _ _ _ (HA.out _ S5.T)).mono ?_
    rintro _ w6 ⟨v6, rfl, b6, hi6, _, _, _, hb6⟩
    obtain ⟨a6, n6, c6, rfl⟩ := hi6.slice
    have S6 : LSt w w6 (.agg #[.bool k.ok, .bool k.bk.ok, .int .i64 k.bk.sec, .slice p1 p2 p3, .slice p4 p5 p6]) (.agg #[.bool k.ok, .bool k.bk.ok, .int .i64 k.bk.sec, .slice r1 r2 r3, .slice r4 r5 r6]) k (k) b2 b4 w2.heap.size w4.heap.size [.bool k.ok, .bool k.bk.ok, .int .i64 k.bk.sec, .slice p1 p2 p3, .slice p4 p5 p6] [.bool k.ok, .bool k.bk.ok, .int .i64 k.bk.sec, .slice r1 r2 r3, .slice r4 r5 r6] 28 := S5.below hb6
    have z6 := hb6.size
    have hi7 := hi5.below hb6 hi5.lt
    have fr3b := fr3a.below hb6 hi5.lt
    have fr4b := fr4a.below hb6 S5.A4.lt
    clear S5 hb6 hi5 fr3a fr4a
    go_wp2_with fail
    refine (eqIntS_same xs _ _ b3 b6 _ hi7 hi6).mono ?_
    rintro _ w7 ⟨rfl, hb7⟩
    have S7 : LSt w w7 (.agg #[.bool k.ok, .bool k.bk.ok, .int .i64 k.bk.sec, .slice p1 p2 p3, .slice p4 p5 p6]) (.agg #[.bool k.ok, .bool k.bk.ok, .int .i64 k.bk.sec, .slice r1 r2 r3, .slice r4 r5 r6]) k (k) b2 b4 w2.heap.size w4.heap.size [.bool k.ok, .bool k.bk.ok, .int .i64 k.bk.sec, .slice p1 p2 p3, .slice p4 p5 p6] [.bool k.ok, .bool k.bk.ok, .int .i64 k.bk.sec, .slice r1 r2 r3, .slice r4 r5 r6] 28 := S6.below hb7
    have z7 := hb7.size
    have hi8 := hi7.below hb7 hi7.lt
    have fr3c := fr3b.below hb7 hi7.lt
    have fr4c := fr4b.below hb7 S6.A4.lt
    clear S6 hb7 hi7 hi6 fr3b fr4b
    go_wp2_with fail
    have hmk := markIntS_any xs _ b3 w7 1 hi8 fr3c (by omega) (by rw [Hn.out]; omega)
    rw [Hn.out] at hmk
    refine hmk.mono ?_
    rintro _ w8 ⟨rfl, _, hc8⟩
    have S8 : LSt w w8 (.agg #[.bool k.ok, .bool k.bk.ok, .int .i64 k.bk.sec, .slice p1 p2 p3, .slice p4 p5 p6]) (.agg #[.bool k.ok, .bool k.bk.ok, .int .i64 k.bk.sec, .slice r1 r2 r3, .slice r4 r5 r6]) k (k) b2 b4 w2.heap.size w4.heap.size [.bool k.ok, .bool k.bk.ok, .int .i64 k.bk.sec, .slice p1 p2 p3, .slice p4 p5 p6] [.bool k.ok, .bool k.bk.ok, .int .i64 k.bk.sec, .slice r1 r2 r3, .slice r4 r5 r6] 28 := S7.chg hc8 (fun x hx => by have := ge3 x hx; have := S7.T.size; have := hzT.out; omega) (fun x hx h => by have := l2 x hx; have := ge3 x h; omega) (fun h => by have := ge3 _ h; omega) (fun x hx h => by have := ge4 x hx; have := l3 x h; omega) (fun h => by have := l3 _ h; omega)
    have fr4d := fr4c.chg hc8 S7.A4.lt
    have z8 := hc8.size
    clear S7 hc8 hi8 fr3c fr4c hmk
    obtain ⟨x0, x1, x2, x3, x4⟩ := S8.X2.five
    obtain ⟨y0, y1, y2, y3, y4⟩ := S8.X4.five
    have hneg : ¬ (1 : Int) + (n : Int) < 0 := by omega
    go_wp2_with fail
    refine (eqWorld_same k _ _ b4 b2 _ S8.A4 S8.A2).mono ?_
    rintro _ w9 ⟨rfl, hb9⟩
    have S9 : LSt w w9 (.agg #[.bool k.ok, .bool k.bk.ok, .int .i64 k.bk.sec, .slice p1 p2 p3, .slice p4 p5 p6]) (.agg #[.bool k.ok, .bool k.bk.ok, .int .i64 k.bk.sec, .slice r1 r2 r3, .slice r4 r5 r6]) k (k) b2 b4 w2.heap.size w4.heap.size [.bool k.ok, .bool k.bk.ok, .int .i64 k.bk.sec, .slice p1 p2 p3, .slice p4 p5 p6] [.bool k.ok, .bool k.bk.ok, .int .i64 k.bk.sec, .slice r1 r2 r3, .slice r4 r5 r6] 28 := S8.below hb9
    have fr4e := fr4d.below hb9 S8.A4.lt
    have z9 := hb9.size
    clear S8 hb9 fr4d x0 x1 x2 x3 x4 y0 y1 y2 y3 y4
    obtain ⟨y0, y1, y2, y3, y4⟩ := S9.X4.five
    go_wp2_with fail
    refine (markWorld_any k _ b4 _ 1 S9.A4 fr4e nd4 (by omega) (by rw [Hq.out]; omega)).mono ?_
    rintro _ w10 ⟨rfl, hm10, hc10⟩
    rw [Hq.out]
    have S10 : LSt w w10 (.agg #[.bool k.ok, .bool k.bk.ok, .int .i64 k.bk.sec, .slice p1 p2 p3, .slice p4 p5 p6]) (.agg #[.bool k.ok, .bool k.bk.ok, .int .i64 k.bk.sec, .slice r1 r2 r3, .slice r4 r5 r6]) k (markWd k 1) b2 b4 w2.heap.size w4.heap.size [.bool k.ok, .bool k.bk.ok, .int .i64 k.bk.sec, .slice p1 p2 p3, .slice p4 p5 p6] [.bool k.ok, .bool k.bk.ok, .int .i64 k.bk.sec, .slice r1 r2 r3, .slice r4 r5 r6] 28 := by
      have hT := S9.T.trans (hc10.below S9.T.size (fun x hx => by have := ge4 x hx; have := hzT.out; omega))
      exact ⟨hT, S9.A2.keep fun x hx => hc10.block x (S9.A2.lt x hx) (fun h => by have := l2 x hx; have := ge4 x h; omega), S9.X2.chg hc10 (fun h => by have := ge4 _ h; omega), hm10, S9.X4.chg hc10 (fun h => by have := l4 _ h; omega)⟩
    have z10 := hc10.size
    clear S9 hc10 hm10 fr4e y0 y1 y2 y3 y4
    obtain ⟨y0, y1, y2, y3, y4⟩ := S10.X4.five
    go_wp2_with fail
    refine (heldWorld_any k _ b4 _ 1 S10.A4 (by omega) (by rw [Hq.out]; omega)).mono ?_
    rintro _ w11 ⟨rfl, hb11⟩
    rw [Hq.out]
    have S11 : LSt w w11 (.agg #[.bool k.ok, .bool k.bk.ok, .int .i64 k.bk.sec, .slice p1 p2 p3, .slice p4 p5 p6]) (.agg #[.bool k.ok, .bool k.bk.ok, .int .i64 k.bk.sec, .slice r1 r2 r3, .slice r4 r5 r6]) k (markWd k 1) b2 b4 w2.heap.size w4.heap.size [.bool k.ok, .bool k.bk.ok, .int .i64 k.bk.sec, .slice p1 p2 p3, .slice p4 p5 p6] [.bool k.ok, .bool k.bk.ok, .int .i64 k.bk.sec, .slice r1 r2 r3, .slice r4 r5 r6] 28 := S10.below hb11
    clear S10 hb11 y0 y1 y2 y3 y4
    go_wp2_with fail
    refine (HT.out _ _ _ (HA.out _ S11.T)).mono ?_
    rintro _ w12 ⟨v12, rfl, b12, hi12, _, _, _, hb12⟩
    obtain ⟨a12, n12, c12, rfl⟩ := hi12.slice
    have S12 : LSt w w12 (.agg #[.bool k.ok, .bool k.bk.ok, .int .i64 k.bk.sec, .slice p1 p2 p3, .slice p4 p5 p6]) (.agg #[.bool k.ok, .bool k.bk.ok, .int .i64 k.bk.sec, .slice r1 r2 r3, .slice r4 r5 r6]) k (markWd k 1) b2 b4 w2.heap.size w4.heap.size [.bool k.ok, .bool k.bk.ok, .int .i64 k.bk.sec, .slice p1 p2 p3, .slice p4 p5 p6] [.bool k.ok, .bool k.bk.ok, .int .i64 k.bk.sec, .slice r1 r2 r3, .slice r4 r5 r6] 28 := S11.below hb12
    clear S11 hb12
    go_wp2_with fail
    refine (HI.out _ _ _ hi12).mono ?_
    rintro _ w13 ⟨v13, rfl, b13, hw13, _, _, _, hb13⟩
    obtain ⟨t1, t2, t3, t4, t5, t6, rfl⟩ := hw13.five
    have S13 : LSt w w13 (.agg #[.bool k.ok, .bool k.bk.ok, .int .i64 k.bk.sec, .slice p1 p2 p3, .slice p4 p5 p6]) (.agg #[.bool k.ok, .bool k.bk.ok, .int .i64 k.bk.sec, .slice r1 r2 r3, .slice r4 r5 r6]) k (markWd k 1) b2 b4 w2.heap.size w4.heap.size [.bool k.ok, .bool k.bk.ok, .int .i64 k.bk.sec, .slice p1 p2 p3, .slice p4 p5 p6] [.bool k.ok, .bool k.bk.ok, .int .i64 k.bk.sec, .slice r1 r2 r3, .slice r4 r5 r6] 28 := S12.below hb13
    have a13 : Below w13.heap.size w13 (w13.alloc (.cells #[.bool k.ok, .bool k.bk.ok, .int .i64 k.bk.sec, .slice t1 t2 t3, .slice t4 t5 t6] 28)) := (Below.refl _ _).alloc (Nat.le_refl _) _
    have S14 : LSt w (w13.alloc (.cells #[.bool k.ok, .bool k.bk.ok, .int .i64 k.bk.sec, .slice t1 t2 t3, .slice t4 t5 t6] 28)) (.agg #[.bool k.ok, .bool k.bk.ok, .int .i64 k.bk.sec, .slice p1 p2 p3, .slice p4 p5 p6]) (.agg #[.bool k.ok, .bool k.bk.ok, .int .i64 k.bk.sec, .slice r1 r2 r3, .slice r4 r5 r6]) k (markWd k 1) b2 b4 w2.heap.size w4.heap.size [.bool k.ok, .bool k.bk.ok, .int .i64 k.bk.sec, .slice p1 p2 p3, .slice p4 p5 p6] [.bool k.ok, .bool k.bk.ok, .int .i64 k.bk.sec, .slice r1 r2 r3, .slice r4 r5 r6] 28 := S13.below a13
    have A13 := hw13.below a13 hw13.lt
    clear S12 S13 hb13 hi12 hw13 a13
    obtain ⟨x0, x1, x2, x3, x4⟩ := S14.X2.five
    go_wp2_with fail
    generalize (w13.alloc (.cells #[.bool k.ok, .bool k.bk.ok, .int .i64 k.bk.sec, .slice t1 t2 t3, .slice t4 t5 t6] 28)) = V13 at *
    refine (eqWorld_same k _ _ b13 b2 _ A13 S14.A2).mono ?_
    rintro _ w15 ⟨rfl, hb15⟩
    have S15 : LSt w w15 (.agg #[.bool k.ok, .bool k.bk.ok, .int .i64 k.bk.sec, .slice p1 p2 p3, .slice p4 p5 p6]) (.agg #[.bool k.ok, .bool k.bk.ok, .int .i64 k.bk.sec, .slice r1 r2 r3, .slice r4 r5 r6]) k (markWd k 1) b2 b4 w2.heap.size w4.heap.size [.bool k.ok, .bool k.bk.ok, .int .i64 k.bk.sec, .slice p1 p2 p3, .slice p4 p5 p6] [.bool k.ok, .bool k.bk.ok, .int .i64 k.bk.sec, .slice r1 r2 r3, .slice r4 r5 r6] 28 := S14.below hb15
    clear S14 hb15 A13 x0 x1 x2 x3 x4
    obtain ⟨y0, y1, y2, y3, y4⟩ := S15.X4.five
    go_wp2_with fail
    refine (heldWorld_any k _ b4 _ 1 S15.A4 (by omega) (by rw [Hq.out]; omega)).mono ?_
    rintro _ w16 ⟨rfl, hb16⟩
    rw [Hq.out]
    have T16 := S15.T.trans (hb16.mono S15.T.size)
    clear y0 y1 y2 y3 y4 S15 hb16
    go_wp2
    go_ret
    exact ⟨rfl, T16⟩

set_option maxRecDepth 100000 in
theorem lifted (os : Os) (started : os.Started) (H : Type) (enc : TypeId × Value → H) :
    ReturnsInHanded {} Try.checked os 3 .any (Rows.fnExactStartSpec.pre6 enc Try.prog Try.f3 Rows.fnExactStartRow.domain false) (Rows.fnExactStartSpec.post enc Try.prog Try.f3 false true false false) := by
  refine returnsInHanded_of_change (C := Try.checked) own started (by kernel_rfl) Try.func3
    (ChangeSpec.witness6 (enc := enc) (C := Try.checked) false ⟨#[], #[.int .i64 0, .slice none 0 0], []⟩ 8 (by kernel_rfl) (by kernel_rfl) (by kernel_rfl) (by kernel_rfl)) ?_
  intro W base args ds gs before hval0 hW hcnd _
  have hval : ∀ (j : Nat) t v, Try.f3.params[j]? = some t → args[j]? = some v → Value.okWide Try.prog W .any base t v := hval0
  have hW' := hW
  obtain ⟨p, q, hA0, hV, rfl, hfz, hnd⟩ := hW
  have hA : DataW.TrodAll enc Try.prog W 0 (fun _ => true) true Try.f3.params.toList args.toList ds p := hA0
  rw [Try.params3] at hA hval
  obtain ⟨v0, vs0, d0, ds0, p0, q0, hargs, rfl, rfl, h0, r0⟩ := trodAll_cons hA
  obtain ⟨v1, vs1, d1, ds1, p1, q1, rfl, rfl, rfl, h1, r1⟩ := trodAll_cons r0
  obtain ⟨rfl, rfl, rfl⟩ := trodAll_nil r1
  obtain rfl : args = #[v0, v1] := by cases args; simp_all
  obtain ⟨rfl, rfl⟩ := trodVars_none hV
  obtain ⟨a0, rfl, rfl, rfl, w0⟩ := open_int Try.underlying3 (hval 0 3 v0 rfl rfl) h0
  have lt1 : ∀ x ∈ p1, x.block < W.heap.size := by obtain ⟨m, hm⟩ := h1; exact DataW.trod_lt m _ _ _ hm
  obtain ⟨xs, bs, hxs⟩ : ∃ xs bs, IntsAt W v1 xs bs := by
    obtain ⟨m, hm⟩ := h1
    obtain ⟨b1, b2, b3, rfl⟩ := okWide_slice Try.underlying22 (hval 1 22 v1 rfl rfl)
    exact read_ints hm
  clear hA0 hval0
  refine (walk a0 xs v1 bs W hxs).mono fun e W' ⟨he, bel⟩ => ?_
  subst he
  exact ⟨_, rfl, _, _, _, [], _, [], hW', trodAll_mk1 (shut_bool Try.underlying4 _), (trodAll_cons_mk (shut_int Try.underlying3 w0) (trodAll_cons_mk (Below.trod laidOut (by kernel_rfl) (of_decide_eq_true (by kernel_rfl)) h1 bel lt1) trodAll_mk0)), rfl, bel.frame _, fun h => by cases h⟩

theorem over : Rows.fnExactStartRow.holds Try.pinned (OpenSpec.ofChange Rows.fnExactStartSpec) :=
  OpenClaim.holds_of_wide 3 Try.f3 rfl rfl rfl rfl rfl rfl rfl ⟨rfl, rfl, rfl, rfl, rfl⟩ rfl rfl rfl rfl rfl (by kernel_rfl) Try.func3 (by kernel_rfl)
    (of_decide_eq_true (by kernel_rfl)) (by unfold Func.isWrapper; first | (rw [if_pos (by decide +kernel)]; kernel_rfl) | (rw [if_neg (by decide +kernel)]; exact ⟨rfl, rfl⟩))
    (fun os started H enc _ => lifted os started H enc)

end FnExactStartProof

theorem fnExactStart_holds : Rows.FnExactStartSaid := FnExactStartProof.over
#print axioms fnExactStart_holds
end Go.Proofs.Ytnaaheddhgpnoab
