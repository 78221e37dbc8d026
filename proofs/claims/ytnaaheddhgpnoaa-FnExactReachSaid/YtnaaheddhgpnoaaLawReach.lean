import Derived.Test.YtnaaheddhgpnoaaEq
import Derived.Test.YtnaaheddhgpnoaaTo
import Derived.Test.YtnaaheddhgpnoaaReach
import Derived.Test.YtnaaheddhgpnoaaRead
import Derived.OpenShut
import Derived.ShutString
import Derived.ChangeOld
import Derived.Below
import Derived.Deep.RegionWith
namespace Go.Proofs.Ytnaaheddhgpnoaa
namespace FnExactReachProof
open Go.ChangeShapes Go.WideShapes Go.ChangeAt Go.RowKit
set_option linter.unusedVariables false

theorem own : ownKnob Try.prog.godebug = none := by kernel_rfl
theorem laidOut : laidOutB Try.prog = true := by kernel_rfl

set_option maxHeartbeats 1000000 in
theorem walk (k : Bk) (v : Value) (bs : List Nat) (t : Int) (w : World) (h : BkAt w v k bs) (ht : (Lit.int .i64 t).wf = true) :
    Calls Try.prog 6 #[v, .int .i64 t] w fun e w' => e = .returned (.bool true) ∧ Below w.heap.size w w' := by
  have hK := h
  obtain ⟨vl, rfl, hLs⟩ := h
  obtain ⟨a, n, c, rfl⟩ := hLs.slice
  clear hLs
  clear ht
  have a1 : ∀ o, Below w.heap.size w (w.alloc o) := fun o => (Below.refl _ _).alloc (Nat.le_refl _) _
  have X0 := BlkIs.new w [.bool k.ok, .int .i64 k.sec, .slice a n c] 31
  go_enter Try.func6, Try.ntmps6
  go_wp2_with fail
  refine (szBook_any k _ bs _ 1048576 (hK.below (a1 _) hK.lt) (by omega) (by omega)).mono ?_
  rintro e W1 ⟨r, rfl, hr, hrr, hb1⟩
  have T1 := (a1 _).trans (hb1.mono (by simp))
  by_cases hr0 : r < 0
  · have HR : Hid (0 ≤ r → r + bkW k = 1048576) := hrr
    clear hrr
    go_wp2
    go_ret
    exact ⟨rfl, T1⟩
  · have hsz : bkW k ≤ 1048576 := by have := hrr (by omega); omega
    have X1 := X0.below hb1 X0.lt
    clear hrr hb1 X0 a1
    obtain ⟨x0, x1, x2⟩ := X1.three
    go_wp2_with fail
    refine (toBook_any k _ bs _ (hK.below T1 hK.lt) hsz).mono ?_
    rintro e W2 ⟨v1, rfl, bs1, hk1, _, _, _, hb2⟩
    have X2 := X1.below hb2 X1.lt
    have T2 := T1.trans (hb2.mono T1.size)
    clear X1 T1 hb2 x0 x1 x2
    go_wp2_with fail
    refine (specReach_any k _ bs1 t _ hk1).mono ?_
    rintro e W3 ⟨⟨c1, rfl, hc1⟩, hb3⟩
    have X3 := X2.below hb3 X2.lt
    have T3 := T2.trans (hb3.mono T2.size)
    clear X2 T2 hb3 hk1
    obtain ⟨x0, x1, x2⟩ := X3.three
    go_wp2_with fail
    refine (toBook_any k _ bs _ (hK.below T3 hK.lt) hsz).mono ?_
    rintro e W4 ⟨v2, rfl, bs2, ⟨vl2, rfl, hl2⟩, _, _, _, hb4⟩
    obtain ⟨a2, n2, d2, rfl⟩ := hl2.slice
    have X4 := X3.below hb4 X3.lt
    have T4 := T3.trans (hb4.mono T3.size)
    clear X3 T3 hb4 x0 x1 x2
    go_wp2_with fail
    have Y4 : BlkIs (W4.alloc (.cells #[.bool k.ok, .int .i64 k.sec, .slice a2 n2 d2] 24)) W4.heap.size [.bool k.ok, .int .i64 k.sec, .slice a2 n2 d2] 24 := BlkIs.new _ _ _
    have al := (Below.refl W4.heap.size W4).alloc (Nat.le_refl _) (.cells #[.bool k.ok, .int .i64 k.sec, .slice a2 n2 d2] 24)
    have X5 := X4.alloc (.cells #[.bool k.ok, .int .i64 k.sec, .slice a2 n2 d2] 24)
    have hl5 := hl2.below al hl2.lt
    have T5 := T4.alloc T4.size (.cells #[.bool k.ok, .int .i64 k.sec, .slice a2 n2 d2] 24)
    clear X4 T4 hl2 al
    generalize W4.alloc (.cells #[.bool k.ok, .int .i64 k.sec, .slice a2 n2 d2] 24) = V at *
    refine (implReach_any k _ bs2 t _ ⟨_, rfl, hl5⟩).mono ?_
    rintro e W6 ⟨⟨c2, rfl, hc2⟩, hb6⟩
    obtain rfl := hc1.one hc2
    have X6 := X5.below hb6 X5.lt
    have Y6 := Y4.below hb6 Y4.lt
    have hl6 := hl5.below hb6 hl5.lt
    have T6 := T5.trans (hb6.mono T5.size)
    clear X5 Y4 hl5 T5 hb6 hc1 hc2
    obtain ⟨x0, x1, x2⟩ := X6.three
    obtain ⟨y0, y1, y2⟩ := Y6.three
    have hKT : Hid (∀ W, Below W6.heap.size W6 W → BkAt W (.agg #[.bool k.ok, .int .i64 k.sec, .slice a n c]) k bs) := fun W hW => hK.below (T6.trans (hW.mono T6.size)) hK.lt
    have hLT : Hid (∀ W, Below W6.heap.size W6 W → LnsAt W (.slice a2 n2 d2) k.lns bs2) := fun W hW => hl6.below hW hl6.lt
    have hYT : Hid (∀ W, Below W6.heap.size W6 W → W.cell? ⟨W4.heap.size, 0, none⟩ = some (.bool k.ok) ∧ W.cell? ⟨W4.heap.size, 1, none⟩ = some (.int .i64 k.sec) ∧ W.cell? ⟨W4.heap.size, 2, none⟩ = some (.slice a2 n2 d2)) := fun W hW => (Y6.below hW Y6.lt).three
    have hBT : Hid (∀ W, Below W6.heap.size W6 W → Below w.heap.size w W) := fun W hW => T6.trans (hW.mono T6.size)
    clear hl6 X6 Y6 T6
    go_wp2_with fail
    have d6 : Below W6.heap.size W6 W6.drew := (Below.refl _ _).drew
    go_region_with (first
      | (go_at_call 15; refine (toBook_any k _ bs _ (hKT.out _ d6) hsz).mono ?_; rintro e W7 ⟨v3, rfl, bs3, ⟨vl3, rfl, hl3⟩, _, _, _, hb7⟩; obtain ⟨a3, n3, c3, rfl⟩ := hl3.slice; have t7 : Below W6.heap.size W6 W7 := d6.trans hb7; obtain ⟨y0', y1', y2'⟩ := hYT.out W7 t7)
      | (go_at_call 10; refine (eqBook_same k _ _ bs2 bs3 _ ⟨_, rfl, hLT.out _ t7⟩ ⟨_, rfl, hl3⟩).mono ?_; rintro e W8 ⟨rfl, hb8⟩; have t8 : Below W6.heap.size W6 W8 := t7.trans (hb8.mono t7.size)))
    all_goals
      go_wp2
      go_ret
      exact ⟨rfl, hBT.out _ t8⟩

set_option maxRecDepth 100000 in
theorem lifted (os : Os) (started : os.Started) (H : Type) (enc : TypeId × Value → H) :
    ReturnsInHanded {} Try.checked os 6 .any (Rows.fnExactReachSpec.pre6 enc Try.prog Try.f6 Rows.fnExactReachRow.domain false) (Rows.fnExactReachSpec.post enc Try.prog Try.f6 false true false false) := by
  refine returnsInHanded_of_change (C := Try.checked) own started (by kernel_rfl) Try.func6
    (ChangeSpec.witness6 (enc := enc) (C := Try.checked) false ⟨#[], #[.agg #[.bool false, .int .i64 0, .slice none 0 0], .int .i64 0], []⟩ 8 (by kernel_rfl) (by kernel_rfl) (by kernel_rfl) (by kernel_rfl)) ?_
  intro W base args ds gs before hval0 hW hcnd _
  have hval : ∀ (j : Nat) t v, Try.f6.params[j]? = some t → args[j]? = some v → Value.okWide Try.prog W .any base t v := hval0
  have hW' := hW
  obtain ⟨p, q, hA0, hV, rfl, hfz, hnd⟩ := hW
  have hA : DataW.TrodAll enc Try.prog W 0 (fun _ => true) true Try.f6.params.toList args.toList ds p := hA0
  rw [Try.params6] at hA hval
  obtain ⟨v0, vs0, d0, ds0, p0, q0, hargs, rfl, rfl, h0, r0⟩ := trodAll_cons hA
  obtain ⟨v1, vs1, d1, ds1, p1, q1, rfl, rfl, rfl, h1, r1⟩ := trodAll_cons r0
  obtain ⟨rfl, rfl, rfl⟩ := trodAll_nil r1
  obtain rfl : args = #[v0, v1] := by cases args; simp_all
  obtain ⟨rfl, rfl⟩ := trodVars_none hV
  obtain ⟨k, bs, hk⟩ := read_book (hval 0 31 v0 rfl rfl) h0
  have lt0 : ∀ x ∈ p0, x.block < W.heap.size := by obtain ⟨m, hm⟩ := h0; exact DataW.trod_lt m _ _ _ hm
  obtain ⟨t, rfl, rfl, rfl, w1⟩ := open_int Try.underlying3 (hval 1 3 v1 rfl rfl) h1
  clear hA0 hval0
  refine (walk k v0 bs t W hk w1).mono fun e W' ⟨he, bel⟩ => ?_
  subst he
  exact ⟨_, rfl, _, _, _, [], _, [], hW', trodAll_mk1 (shut_bool Try.underlying4 _), (trodAll_cons_mk (Below.trod laidOut (by kernel_rfl) (of_decide_eq_true (by kernel_rfl)) h0 bel lt0) (trodAll_cons_mk (shut_int Try.underlying3 w1) trodAll_mk0)), rfl, bel.frame _, fun h => by cases h⟩

theorem over : Rows.fnExactReachRow.holds Try.pinned (OpenSpec.ofChange Rows.fnExactReachSpec) :=
  OpenClaim.holds_of_wide 6 Try.f6 rfl rfl rfl rfl rfl rfl rfl ⟨rfl, rfl, rfl, rfl, rfl⟩ rfl rfl rfl rfl rfl (by kernel_rfl) Try.func6 (by kernel_rfl)
    (of_decide_eq_true (by kernel_rfl)) (by unfold Func.isWrapper; first | (rw [if_pos (by decide +kernel)]; kernel_rfl) | (rw [if_neg (by decide +kernel)]; exact ⟨rfl, rfl⟩))
    (fun os started H enc _ => lifted os started H enc)

end FnExactReachProof

theorem fnExactReach_holds : Rows.FnExactReachSaid := FnExactReachProof.over
#print axioms fnExactReach_holds
end Go.Proofs.Ytnaaheddhgpnoaa
