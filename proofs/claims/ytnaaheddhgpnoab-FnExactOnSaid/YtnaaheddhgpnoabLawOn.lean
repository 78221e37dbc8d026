import Derived.Test.YtnaaheddhgpnoabWdI
import Derived.Test.YtnaaheddhgpnoabWdT
import Derived.Test.YtnaaheddhgpnoabOn1
import Derived.OpenShut
import Derived.ShutString
import Derived.ChangeOld
import Derived.Below
import Derived.Deep.RegionHeld3
namespace Go.Proofs.Ytnaaheddhgpnoab
namespace FnExactOnProof
open Go.ChangeShapes Go.WideShapes Go.ChangeAt Go.RowKit
set_option linter.unusedVariables false

theorem own : ownKnob Try.prog.godebug = none := by kernel_rfl
theorem laidOut : laidOutB Try.prog = true := by kernel_rfl

theorem offs_sum (ls : List Ln) : ∀ i, offs ls i 1 ≤ 1 + 2 * i + 2 * sumW ls i
  | 0 => by simp [offs, sumW]
  | i + 1 => by
    have := offs_sum ls i
    simp only [offs, sumW, lnSize, lnW]
    omega
theorem end_small {k : Wd} (h1 : bkW k.bk ≤ 1048576) (h2 : k.bds.length ≤ 1048576) : wdEnd k 1 ≤ 2305843009213693952 := by
  have := offs_sum k.bk.lns k.bk.lns.length
  unfold wdEnd
  unfold bkW at h1
  have := sumW_pos k.bk.lns k.bk.lns.length
  omega

set_option maxHeartbeats 4000000 in
set_option maxRecDepth 100000 in
theorem walk (k : Wd) (s : Int) (v : Value) (bs : List Nat) (w : World) (h : WdAt w v k bs) (hwf : ∀ i : Nat, I64 (k.bds[i]?.getD bd0).ver) :
    Calls Try.prog 4 #[v, .int .i64 s] w fun e w' => e = .returned (.bool true) ∧ Below w.heap.size w w' := by
  obtain ⟨xs, hxs⟩ := on_exists k s
  have hlen := on_is_small hxs
  have hK := h
  obtain ⟨a1, a2, a3, a4, a5, a6, rfl⟩ := h.five
  clear h
  have B0 : Below w.heap.size w (w.alloc (.cells #[.bool k.ok, .bool k.bk.ok, .int .i64 k.bk.sec, .slice a1 a2 a3, .slice a4 a5 a6] 41)) := (Below.refl _ _).alloc (Nat.le_refl _) _
  have X0 : BlkIs (w.alloc (.cells #[.bool k.ok, .bool k.bk.ok, .int .i64 k.bk.sec, .slice a1 a2 a3, .slice a4 a5 a6] 41)) w.heap.size [.bool k.ok, .bool k.bk.ok, .int .i64 k.bk.sec, .slice a1 a2 a3, .slice a4 a5 a6] 41 := BlkIs.new _ _ _
  have HA : Hid (∀ W, Below w.heap.size w W → WdAt W (.agg #[.bool k.ok, .bool k.bk.ok, .int .i64 k.bk.sec, .slice a1 a2 a3, .slice a4 a5 a6]) k bs) := fun W hW => hK.below hW hK.lt
  have HS : Hid (∀ W v b, WdAt W v k b → Calls Try.prog 14 #[v, .int .i64 s] W fun e w' => ∃ v', e = .returned v' ∧ NewInts W w' v' xs) := fun W v b hv => specOn_any k s v b W xs hv hwf hxs
  have HI : Hid (∀ W v b, WdAt W v k b → Calls Try.prog 16 #[v, .int .i64 s] W fun e w' => ∃ v', e = .returned v' ∧ NewInts W w' v' xs) := fun W v b hv => implOn_any k s v b W xs hv hxs
  clear hK hwf hxs
  go_enter Try.func4, Try.ntmps4
  go_wp2_with fail
  generalize (w.alloc (.cells #[.bool k.ok, .bool k.bk.ok, .int .i64 k.bk.sec, .slice a1 a2 a3, .slice a4 a5 a6] 41)) = V0 at *
  refine (szWorld_any k _ bs _ 1048576 (HA.out _ B0) (by omega) (by omega)).mono ?_
  rintro _ W1 ⟨r, rfl, hr, hrr, hb1⟩
  have T1 := B0.trans (hb1.mono B0.size)
  have X1 := X0.below hb1 X0.lt
  have HR : Hid (0 ≤ r → r + bkW k.bk + k.bds.length = 1048576) := hrr
  have hbp : 0 ≤ bkW k.bk := by unfold bkW; have := sumW_pos k.bk.lns k.bk.lns.length; omega
  clear hrr X0 B0 hb1
  by_cases hr0 : r < 0
  · go_wp2
    go_ret
    exact ⟨rfl, T1⟩
  · have HL1 : Hid (bkW k.bk ≤ 1048576) := by have := HR.out (by omega); show bkW k.bk ≤ 1048576; omega
    have HL2 : Hid (k.bds.length ≤ 1048576) := by have := HR.out (by omega); show k.bds.length ≤ 1048576; omega
    have HEnd : Hid (wdEnd k 1 ≤ 2305843009213693952) := end_small HL1.out HL2.out
    have HPos : Hid (1 ≤ wdEnd k 1) := by
      show 1 ≤ wdEnd k 1
      have := offs_le k.bk.lns 1 k.bk.lns.length
      unfold wdEnd
      omega
    have HT : Hid (∀ W, Below w.heap.size w W → Calls Try.prog 15 #[.agg #[.bool k.ok, .bool k.bk.ok, .int .i64 k.bk.sec, .slice a1 a2 a3, .slice a4 a5 a6]] W fun e w' => ∃ v', e = .returned v' ∧ NewWd W w' v' k) := fun W hW => toWorld_any k _ bs W (HA.out W hW) HL1.out HL2.out
    clear hbp HL1 HL2
    obtain ⟨x0, x1, x2, x3, x4⟩ := X1.five
    go_wp2_with fail
    refine (HT.out _ T1).mono ?_
    rintro _ W2 ⟨v1, rfl, c1, hk1, _, _, _, hb2⟩
    have T2 := T1.trans (hb2.mono T1.size)
    have X2 := X1.below hb2 X1.lt
    clear x0 x1 x2 x3 x4 X1 T1 hb2
    go_wp2_with fail
    refine (HS.out _ _ _ hk1).mono ?_
    rintro _ W3 ⟨v0, rfl, b0, I0, _, _, _, hb3⟩
    obtain ⟨i1, i2, i3, rfl⟩ := I0.slice
    have T3 := T2.trans (hb3.mono T2.size)
    have X3 := X2.below hb3 X2.lt
    have l0 := I0.lt
    have lX := X3.lt
    clear X2 T2 hb3 hk1
    obtain ⟨x0, x1, x2, x3, x4⟩ := X3.five
    go_wp2_with fail
    refine (HT.out _ T3).mono ?_
    rintro _ W4 ⟨v4, rfl, b4, hk4, nd4, fr4, ge4, hb4⟩
    obtain ⟨r1, r2, r3, r4, r5, r6, rfl⟩ := hk4.five
    have z4 := hb4.size
    have l4 := hk4.lt
    have T4 := T3.trans (hb4.mono T3.size)
    have X4 := X3.below hb4 X3.lt
    have I4 := I0.below hb4 I0.lt
    have aV : Below W4.heap.size W4 (W4.alloc (.cells #[.bool k.ok, .bool k.bk.ok, .int .i64 k.bk.sec, .slice r1 r2 r3, .slice r4 r5 r6] 28)) := (Below.refl _ _).alloc (Nat.le_refl _) _
    have YV : BlkIs (W4.alloc (.cells #[.bool k.ok, .bool k.bk.ok, .int .i64 k.bk.sec, .slice r1 r2 r3, .slice r4 r5 r6] 28)) W4.heap.size [.bool k.ok, .bool k.bk.ok, .int .i64 k.bk.sec, .slice r1 r2 r3, .slice r4 r5 r6] 28 := BlkIs.new _ _ _
    have HzV : Hid ((W4.alloc (.cells #[.bool k.ok, .bool k.bk.ok, .int .i64 k.bk.sec, .slice r1 r2 r3, .slice r4 r5 r6] 28)).heap.size = W4.heap.size + 1) := by show _ = _; simp
    have TV := T4.trans (aV.mono T4.size)
    have XV := X4.below aV X4.lt
    have IV := I4.below aV I4.lt
    have kV := hk4.below aV l4
    have fV := fr4.below aV l4
    clear x0 x1 x2 x3 x4 X3 T3 hb4 I0 T4 X4 I4 hk4 fr4 aV
    go_wp2_with fail
    generalize (W4.alloc (.cells #[.bool k.ok, .bool k.bk.ok, .int .i64 k.bk.sec, .slice r1 r2 r3, .slice r4 r5 r6] 28)) = V at *
    refine (HI.out _ _ _ kV).mono ?_
    rintro _ W5 ⟨vg, rfl, bg, G5, ndg, frg, geg, hb5⟩
    obtain ⟨g1, g2, g3, rfl⟩ := G5.slice
    have lg := G5.lt
    have T5 := TV.trans (hb5.mono TV.size)
    have X5 := XV.below hb5 XV.lt
    have Y5 := YV.below hb5 YV.lt
    have I5 := IV.below hb5 IV.lt
    have k5 := kV.below hb5 kV.lt
    have f5 := fV.below hb5 kV.lt
    clear TV XV YV IV kV fV hb5
    go_wp2_with fail
    refine (eqIntS_same xs _ _ bg b0 _ G5 I5).mono ?_
    rintro _ W6 ⟨rfl, hb6⟩
    have T6 := T5.trans (hb6.mono T5.size)
    have X6 := X5.below hb6 X5.lt
    have Y6 := Y5.below hb6 Y5.lt
    have I6 := I5.below hb6 I5.lt
    have k6 := k5.below hb6 k5.lt
    have f6 := f5.below hb6 k5.lt
    have G6 := G5.below hb6 G5.lt
    have fg6 := frg.below hb6 G5.lt
    clear T5 X5 Y5 I5 k5 f5 G5 frg hb6
    have HS6 : Hid (∀ W, Below W6.heap.size W6 W → (W.cell? ⟨W4.heap.size, 0, none⟩ = some (.bool k.ok) ∧ W.cell? ⟨W4.heap.size, 1, none⟩ = some (.bool k.bk.ok) ∧ W.cell? ⟨W4.heap.size, 2, none⟩ = some (.int .i64 k.bk.sec) ∧ W.cell? ⟨W4.heap.size, 3, none⟩ = some (.slice r1 r2 r3) ∧ W.cell? ⟨W4.heap.size, 4, none⟩ = some (.slice r4 r5 r6)) ∧ W.cell? ⟨w.heap.size, 0, none⟩ = some (.bool k.ok) ∧ W.cell? ⟨w.heap.size, 1, none⟩ = some (.bool k.bk.ok) ∧ W.cell? ⟨w.heap.size, 2, none⟩ = some (.int .i64 k.bk.sec) ∧ W.cell? ⟨w.heap.size, 3, none⟩ = some (.slice a1 a2 a3) ∧ W.cell? ⟨w.heap.size, 4, none⟩ = some (.slice a4 a5 a6)) := fun W hW => ⟨(Y6.below hW Y6.lt).five, (X6.below hW X6.lt).five⟩
    have HT6 : Hid (∀ W, Below W6.heap.size W6 W → Below w.heap.size w W) := fun W hW => T6.trans (hW.mono T6.size)
    have Hk6 : Hid (∀ W, Below W6.heap.size W6 W → WdAt W (.agg #[.bool k.ok, .bool k.bk.ok, .int .i64 k.bk.sec, .slice r1 r2 r3, .slice r4 r5 r6]) k b4) := fun W hW => k6.below hW k6.lt
    go_wp2_with fail
    have d6 : Below W6.heap.size W6 W6.drew := (Below.refl _ _).drew
    go_region_held3 (fun W => (W.cell? ⟨W4.heap.size, 0, none⟩ = some (.bool k.ok) ∧ W.cell? ⟨W4.heap.size, 1, none⟩ = some (.bool k.bk.ok) ∧ W.cell? ⟨W4.heap.size, 2, none⟩ = some (.int .i64 k.bk.sec) ∧ W.cell? ⟨W4.heap.size, 3, none⟩ = some (.slice r1 r2 r3) ∧ W.cell? ⟨W4.heap.size, 4, none⟩ = some (.slice r4 r5 r6)) ∧ W.cell? ⟨w.heap.size, 0, none⟩ = some (.bool k.ok) ∧ W.cell? ⟨w.heap.size, 1, none⟩ = some (.bool k.bk.ok) ∧ W.cell? ⟨w.heap.size, 2, none⟩ = some (.int .i64 k.bk.sec) ∧ W.cell? ⟨w.heap.size, 3, none⟩ = some (.slice a1 a2 a3) ∧ W.cell? ⟨w.heap.size, 4, none⟩ = some (.slice a4 a5 a6)) (first | exact HS6.out _ t8 | exact HS6.out _ t7 | exact HS6.out _ d6)
      (first
      | (go_at_call 15; refine (HT.out _ (HT6.out _ d6)).mono ?_; rintro _ W7 ⟨v7, rfl, b7, hk7, _, _, _, hb7⟩; obtain ⟨t1, t2, t3, t4, t5, t6, rfl⟩ := hk7.five; have t7 : Below W6.heap.size W6 W7 := d6.trans hb7)
      | (go_at_call 8; refine (eqWorld_same k _ _ b4 b7 _ (Hk6.out _ t7) hk7).mono ?_; rintro _ W8 ⟨rfl, hb8⟩; have t8 : Below W6.heap.size W6 W8 := t7.trans (hb8.mono t7.size)))
    have T8 := T6.trans (t8.mono T6.size)
    have X8 := X6.below t8 X6.lt
    have Y8 := Y6.below t8 Y6.lt
    have I8 := I6.below t8 I6.lt
    have k8 := k6.below t8 k6.lt
    have f8 := f6.below t8 k6.lt
    have G8 := G6.below t8 G6.lt
    have fg8 := fg6.below t8 G6.lt
    have zV := HzV.out
    have HgeV : Hid (∀ b ∈ bg, W4.heap.size + 1 ≤ b) := fun b hb => by have := geg b hb; omega
    clear T6 X6 Y6 I6 k6 f6 G6 fg6 HS6 HT6 Hk6 d6 t8 zV HzV geg
    obtain ⟨y0, y1, y2, y3, y4⟩ := Y8.five
    go_wp2_with fail
    refine (markWorld_any k _ b4 _ 1 k8 f8 nd4 (by omega) HEnd.out).mono ?_
    rintro _ W9 ⟨rfl, _, hc9⟩
    have hpos := HPos.out
    have T9 := T8.trans (hc9.below T8.size (fun x hx => by have := ge4 x hx; omega))
    have X9 := X8.chg hc9 (fun h => by have := ge4 _ h; omega)
    have I9 := I8.keep (w' := W9) (fun x hx => hc9.block x (I8.lt x hx) (fun h => by have := ge4 x h; have := l0 x hx; omega))
    have G9 := G8.keep (w' := W9) (fun x hx => hc9.block x (G8.lt x hx) (fun h => by have := l4 x h; have := HgeV.out x hx; omega))
    have fg9 := fg8.chg hc9 G8.lt
    clear T8 X8 Y8 I8 k8 f8 G8 fg8 hc9 y0 y1 y2 y3 y4
    generalize hqe : wdEnd k 1 = qe at *
    clear hqe
    have hqn : ¬ qe < 0 := by omega
    go_wp2_with fail
    refine (eqIntS_same xs _ _ bg b0 _ G9 I9).mono ?_
    rintro _ W10 ⟨rfl, hb10⟩
    have T10 := T9.trans (hb10.mono T9.size)
    have X10 := X9.below hb10 X9.lt
    have I10 := I9.below hb10 I9.lt
    have G10 := G9.below hb10 G9.lt
    have fg10 := fg9.below hb10 G9.lt
    clear T9 X9 I9 G9 fg9 hb10
    generalize hnx : xs.length = nx at *
    have Hnx : Hid (xs.length = nx) := hnx
    clear hnx
    go_wp2_with fail
    have hmk := markIntS_any xs _ bg W10 1 G10 fg10 (by omega) (by rw [Hnx.out]; omega)
    rw [Hnx.out] at hmk
    refine hmk.mono ?_
    rintro _ W11 ⟨rfl, M11, hc11⟩
    have T11 := T10.trans (hc11.below T10.size (fun x hx => by have := HgeV.out x hx; omega))
    have X11 := X10.chg hc11 (fun h => by have := HgeV.out _ h; omega)
    have I11 := I10.keep (w' := W11) (fun x hx => hc11.block x (I10.lt x hx) (fun h => by have := HgeV.out x h; have := l0 x hx; omega))
    clear T10 X10 I10 G10 fg10 hc11 hmk
    go_wp2_with fail
    refine (heldIntS_any nx _ bg _ 1 M11 (by omega) (by omega)).mono ?_
    rintro _ W12 ⟨rfl, rfl⟩
    obtain ⟨x0, x1, x2, x3, x4⟩ := X11.five
    have hnn : ¬ (1 : Int) + (nx : Int) < 0 := by omega
    go_wp2_with fail
    refine (HT.out _ T11).mono ?_
    rintro _ W13 ⟨v13, rfl, b13, hk13, _, _, _, hb13⟩
    have T13 := T11.trans (hb13.mono T11.size)
    have I13 := I11.below hb13 I11.lt
    have M13 := M11.below hb13 M11.lt
    clear T11 X11 I11 M11 hb13 x0 x1 x2 x3 x4
    go_wp2_with fail
    refine (HI.out _ _ _ hk13).mono ?_
    rintro _ W14 ⟨v14, rfl, b14, G14, _, _, _, hb14⟩
    obtain ⟨j1, j2, j3, rfl⟩ := G14.slice
    have T14 := T13.trans (hb14.mono T13.size)
    have I14 := I13.below hb14 I13.lt
    have M14 := M13.below hb14 M13.lt
    clear T13 I13 M13 hb14 hk13
    go_wp2_with fail
    refine (eqIntS_same xs _ _ b14 b0 _ G14 I14).mono ?_
    rintro _ W15 ⟨rfl, hb15⟩
    have T15 := T14.trans (hb15.mono T14.size)
    have M15 := M14.below hb15 M14.lt
    clear T14 I14 M14 G14 hb15
    go_wp2_with fail
    refine (heldIntS_any nx _ bg _ 1 M15 (by omega) (by omega)).mono ?_
    rintro _ W16 ⟨rfl, rfl⟩
    clear M15
    go_wp2
    go_ret
    exact ⟨rfl, T15⟩

set_option maxRecDepth 100000 in
theorem lifted (os : Os) (started : os.Started) (H : Type) (enc : TypeId × Value → H) :
    ReturnsInHanded {} Try.checked os 4 .any (Rows.fnExactOnSpec.pre6 enc Try.prog Try.f4 Rows.fnExactOnRow.domain false) (Rows.fnExactOnSpec.post enc Try.prog Try.f4 false true false false) := by
  refine returnsInHanded_of_change (C := Try.checked) own started (by kernel_rfl) Try.func4
    (ChangeSpec.witness6 (enc := enc) (C := Try.checked) false ⟨#[], #[.agg #[.bool false, .bool false, .int .i64 0, .slice none 0 0, .slice none 0 0], .int .i64 0], []⟩ 8 (by kernel_rfl) (by kernel_rfl) (by kernel_rfl) (by kernel_rfl)) ?_
  intro W base args ds gs before hval0 hW hcnd _
  have hval : ∀ (j : Nat) t v, Try.f4.params[j]? = some t → args[j]? = some v → Value.okWide Try.prog W .any base t v := hval0
  have hW' := hW
  obtain ⟨p, q, hA0, hV, rfl, hfz, hnd⟩ := hW
  have hA : DataW.TrodAll enc Try.prog W 0 (fun _ => true) true Try.f4.params.toList args.toList ds p := hA0
  rw [Try.params4] at hA hval
  obtain ⟨v0, vs0, d0, ds0, p0, q0, hargs, rfl, rfl, h0, r0⟩ := trodAll_cons hA
  obtain ⟨v1, vs1, d1, ds1, p1, q1, rfl, rfl, rfl, h1, r1⟩ := trodAll_cons r0
  obtain ⟨rfl, rfl, rfl⟩ := trodAll_nil r1
  obtain rfl : args = #[v0, v1] := by cases args; simp_all
  obtain ⟨rfl, rfl⟩ := trodVars_none hV
  obtain ⟨k, bs, hk, hwf⟩ := read_world (hval 0 41 v0 rfl rfl) h0
  have lt0 : ∀ x ∈ p0, x.block < W.heap.size := by obtain ⟨m, hm⟩ := h0; exact DataW.trod_lt m _ _ _ hm
  obtain ⟨s, rfl, rfl, rfl, w1⟩ := open_int Try.underlying3 (hval 1 3 v1 rfl rfl) h1
  clear hA0 hval0
  refine (walk k s v0 bs W hk hwf).mono fun e W' ⟨he, bel⟩ => ?_
  subst he
  exact ⟨_, rfl, _, _, _, [], _, [], hW', trodAll_mk1 (shut_bool Try.underlying4 _), (trodAll_cons_mk (Below.trod laidOut (by kernel_rfl) (of_decide_eq_true (by kernel_rfl)) h0 bel lt0) (trodAll_cons_mk (shut_int Try.underlying3 w1) trodAll_mk0)), rfl, bel.frame _, fun h => by cases h⟩

theorem over : Rows.fnExactOnRow.holds Try.pinned (OpenSpec.ofChange Rows.fnExactOnSpec) :=
  OpenClaim.holds_of_wide 4 Try.f4 rfl rfl rfl rfl rfl rfl rfl ⟨rfl, rfl, rfl, rfl, rfl⟩ rfl rfl rfl rfl rfl (by kernel_rfl) Try.func4 (by kernel_rfl)
    (of_decide_eq_true (by kernel_rfl)) (by unfold Func.isWrapper; first | (rw [if_pos (by decide +kernel)]; kernel_rfl) | (rw [if_neg (by decide +kernel)]; exact ⟨rfl, rfl⟩))
    (fun os started H enc _ => lifted os started H enc)

end FnExactOnProof

theorem fnExactOn_holds : Rows.FnExactOnSaid := FnExactOnProof.over
#print axioms fnExactOn_holds
end Go.Proofs.Ytnaaheddhgpnoab
