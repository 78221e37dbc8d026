import Derived.Test.YtnaaheddhgpnoaaEq
import Derived.Test.YtnaaheddhgpnoaaTo
import Derived.Test.YtnaaheddhgpnoaaEv
import Derived.Test.YtnaaheddhgpnoaaRead
import Derived.OpenShut
import Derived.ShutString
import Derived.ChangeOld
import Derived.Below
import Derived.Deep.RegionHeld3
namespace Go.Proofs.Ytnaaheddhgpnoaa
namespace FnExactEventOkProof
open Go.ChangeShapes Go.WideShapes Go.ChangeAt Go.RowKit
set_option linter.unusedVariables false

theorem own : ownKnob Try.prog.godebug = none := by kernel_rfl
theorem laidOut : laidOutB Try.prog = true := by kernel_rfl

set_option maxRecDepth 100000 in
theorem read_event {H : Type} {enc : TypeId × Value → H} {w : World} {held : Bool} {r : Reach} {b0 : Nat} {v : Value} {d : DataW H} {p : List MemPlace} (hv : Value.okWide Try.prog w r b0 38 v) (h : DataW.Trod enc Try.prog w 0 (fun _ => true) held 38 v d p) : ∃ e : Ev, v = .agg #[.int .i64 e.op, .int .i64 e.train, .int .i64 e.n] := by
  obtain ⟨v0, v1, v2, y0, y1, y2, n, rfl, _, _, h0, h1, h2⟩ := Go.Joins.open_agg3 Try.underlying38 (by kernel_rfl) (by kernel_rfl) hv h
  obtain ⟨q0, e0, _, _⟩ := DataW.trod_int Try.underlying3 h0
  obtain ⟨q1, e1, _, _⟩ := DataW.trod_int Try.underlying3 h1
  obtain ⟨q2, e2, _, _⟩ := DataW.trod_int Try.underlying3 h2
  simp only [List.cons.injEq, and_true] at e0 e1 e2
  subst e0 e1 e2
  exact ⟨⟨q0, q1, q2⟩, rfl⟩

set_option maxHeartbeats 2000000 in
theorem walk (k : Bk) (e : Ev) (v : Value) (bs : List Nat) (w : World) (h : BkAt w v k bs) :
    Calls Try.prog 7 #[v, .agg #[.int .i64 e.op, .int .i64 e.train, .int .i64 e.n]] w fun r w' => r = .returned (.bool true) ∧ Below w.heap.size w w' := by
  have hK := h
  obtain ⟨vl, rfl, hLs⟩ := h
  obtain ⟨a, n, c, rfl⟩ := hLs.slice
  clear hLs
  have X0 : BlkIs ((w.alloc (.cells #[.bool k.ok, .int .i64 k.sec, .slice a n c] 31)).alloc (.cells #[.int .i64 e.op, .int .i64 e.train, .int .i64 e.n] 38)) w.heap.size [.bool k.ok, .int .i64 k.sec, .slice a n c] 31 := (BlkIs.new _ _ _).alloc _
  have E0 : BlkIs ((w.alloc (.cells #[.bool k.ok, .int .i64 k.sec, .slice a n c] 31)).alloc (.cells #[.int .i64 e.op, .int .i64 e.train, .int .i64 e.n] 38)) (w.heap.size + 1) [.int .i64 e.op, .int .i64 e.train, .int .i64 e.n] 38 := by
    have := BlkIs.new (w.alloc (.cells #[.bool k.ok, .int .i64 k.sec, .slice a n c] 31)) [.int .i64 e.op, .int .i64 e.train, .int .i64 e.n] 38
    rwa [World.size_alloc] at this
  have T0 : Below w.heap.size w ((w.alloc (.cells #[.bool k.ok, .int .i64 k.sec, .slice a n c] 31)).alloc (.cells #[.int .i64 e.op, .int .i64 e.train, .int .i64 e.n] 38)) := alloc2 w _ _
  go_enter Try.func7, Try.ntmps7
  go_wp2_with fail
  generalize (w.alloc (.cells #[.bool k.ok, .int .i64 k.sec, .slice a n c] 31)).alloc (.cells #[.int .i64 e.op, .int .i64 e.train, .int .i64 e.n] 38) = W0 at *
  refine (szBook_any k _ bs _ 1048576 (hK.below T0 hK.lt) (by omega) (by omega)).mono ?_
  rintro _ W1 ⟨r, rfl, hr, hrr, hb1⟩
  have T1 := T0.trans (hb1.mono T0.size)
  by_cases hr0 : r < 0
  · have HR : Hid (0 ≤ r → r + bkW k = 1048576) := hrr
    clear hrr
    go_wp2
    go_ret
    exact ⟨rfl, T1⟩
  · have hsz : bkW k ≤ 1048576 := by have := hrr (by omega); omega
    have X1 := X0.below hb1 X0.lt
    have E1 := E0.below hb1 E0.lt
    clear hrr hb1 X0 E0 T0
    have hKT : Hid (∀ W, Below W1.heap.size W1 W → BkAt W (.agg #[.bool k.ok, .int .i64 k.sec, .slice a n c]) k bs) := fun W hW => hK.below (T1.trans (hW.mono T1.size)) hK.lt
    have hXT : Hid (∀ W, Below W1.heap.size W1 W → W.cell? ⟨w.heap.size, 0, none⟩ = some (.bool k.ok) ∧ W.cell? ⟨w.heap.size, 1, none⟩ = some (.int .i64 k.sec) ∧ W.cell? ⟨w.heap.size, 2, none⟩ = some (.slice a n c)) := fun W hW => (X1.below hW X1.lt).three
    have hET : Hid (∀ W, Below W1.heap.size W1 W → W.cell? ⟨w.heap.size + 1, 0, none⟩ = some (.int .i64 e.op) ∧ W.cell? ⟨w.heap.size + 1, 1, none⟩ = some (.int .i64 e.train) ∧ W.cell? ⟨w.heap.size + 1, 2, none⟩ = some (.int .i64 e.n)) := fun W hW => (E1.below hW E1.lt).three
    have hBT : Hid (∀ W, Below W1.heap.size W1 W → Below w.heap.size w W) := fun W hW => T1.trans (hW.mono T1.size)
    have hS1 : Hid (∀ W, Below W1.heap.size W1 W → W.cell? ⟨w.heap.size, 0, none⟩ = some (.bool k.ok) ∧ W.cell? ⟨w.heap.size, 1, none⟩ = some (.int .i64 k.sec) ∧ W.cell? ⟨w.heap.size, 2, none⟩ = some (.slice a n c) ∧ W.cell? ⟨w.heap.size + 1, 0, none⟩ = some (.int .i64 e.op) ∧ W.cell? ⟨w.heap.size + 1, 1, none⟩ = some (.int .i64 e.train) ∧ W.cell? ⟨w.heap.size + 1, 2, none⟩ = some (.int .i64 e.n)) := fun W hW => ⟨(hXT.out W hW).1, (hXT.out W hW).2.1, (hXT.out W hW).2.2, hET.out W hW⟩
    clear X1 E1 T1
    have r1 : Below W1.heap.size W1 W1 := Below.refl _ _
    obtain ⟨x0, x1, x2, y0, y1, y2⟩ := hS1.out W1 r1
    go_wp2_with fail
    have d1 : Below W1.heap.size W1 W1.drew := (Below.refl _ _).drew
    clear x0 x1 x2 y0 y1 y2
    go_region_held3 (fun W => W.cell? ⟨w.heap.size, 0, none⟩ = some (.bool k.ok) ∧ W.cell? ⟨w.heap.size, 1, none⟩ = some (.int .i64 k.sec) ∧ W.cell? ⟨w.heap.size, 2, none⟩ = some (.slice a n c) ∧ W.cell? ⟨w.heap.size + 1, 0, none⟩ = some (.int .i64 e.op) ∧ W.cell? ⟨w.heap.size + 1, 1, none⟩ = some (.int .i64 e.train) ∧ W.cell? ⟨w.heap.size + 1, 2, none⟩ = some (.int .i64 e.n)) (first | exact hS1.out _ t4 | exact hS1.out _ t3 | exact hS1.out _ t2 | exact hS1.out _ d1)
      (first
      | (go_at_call 15; refine (toBook_any k _ bs _ (hKT.out _ d1) hsz).mono ?_; rintro _ W2 ⟨v1, rfl, bs1, hk1, _, _, _, hb2⟩; have t2 : Below W1.heap.size W1 W2 := d1.trans hb2)
      | (go_at_call 22; refine (toEvent_any e _).mono ?_; rintro _ W3 ⟨rfl, hb3⟩; have t3 : Below W1.heap.size W1 W3 := t2.trans (hb3.mono t2.size); have hk3 := hk1.below hb3 hk1.lt)
      | (go_at_call 21; refine (specEventOk_any k e _ bs1 _ hk3).mono ?_; rintro _ W4 ⟨⟨c1, rfl, hc1⟩, hb4⟩; have t4 : Below W1.heap.size W1 W4 := t3.trans (hb4.mono t3.size)))
    clear t2 t3 d1 r1 hb2 hb3 hb4 hk1 hk3
    obtain ⟨x0, x1, x2, _⟩ := hS1.out W4 t4
    go_wp2_with fail
    refine (toBook_any k _ bs _ (hKT.out _ t4) hsz).mono ?_
    rintro _ W5 ⟨v2, rfl, bs2, ⟨vl2, rfl, hl2⟩, _, _, _, hb5⟩
    obtain ⟨a2, n2, d2, rfl⟩ := hl2.slice
    have t5 : Below W1.heap.size W1 W5 := t4.trans (hb5.mono t4.size)
    clear x0 x1 x2 hb5 t4
    have Y5 : BlkIs (W5.alloc (.cells #[.bool k.ok, .int .i64 k.sec, .slice a2 n2 d2] 24)) W5.heap.size [.bool k.ok, .int .i64 k.sec, .slice a2 n2 d2] 24 := BlkIs.new _ _ _
    have al := (Below.refl W5.heap.size W5).alloc (Nat.le_refl _) (.cells #[.bool k.ok, .int .i64 k.sec, .slice a2 n2 d2] 24)
    have hl6 := hl2.below al hl2.lt
    have t6 := t5.alloc t5.size (.cells #[.bool k.ok, .int .i64 k.sec, .slice a2 n2 d2] 24)
    clear hl2 al t5
    go_wp2_with fail
    generalize W5.alloc (.cells #[.bool k.ok, .int .i64 k.sec, .slice a2 n2 d2] 24) = V at *
    have hLT : Hid (∀ W, Below V.heap.size V W → LnsAt W (.slice a2 n2 d2) k.lns bs2) := fun W hW => hl6.below hW hl6.lt
    have hVT : Hid (∀ W, Below V.heap.size V W → Below W1.heap.size W1 W) := fun W hW => t6.trans (hW.mono t6.size)
    have hS2 : Hid (∀ W, Below V.heap.size V W → (W.cell? ⟨W5.heap.size, 0, none⟩ = some (.bool k.ok) ∧ W.cell? ⟨W5.heap.size, 1, none⟩ = some (.int .i64 k.sec) ∧ W.cell? ⟨W5.heap.size, 2, none⟩ = some (.slice a2 n2 d2)) ∧ W.cell? ⟨w.heap.size + 1, 0, none⟩ = some (.int .i64 e.op) ∧ W.cell? ⟨w.heap.size + 1, 1, none⟩ = some (.int .i64 e.train) ∧ W.cell? ⟨w.heap.size + 1, 2, none⟩ = some (.int .i64 e.n)) := fun W hW => ⟨(Y5.below hW Y5.lt).three, hET.out W (hVT.out W hW)⟩
    have hS3 : Hid (∀ W, Below V.heap.size V W → (W.cell? ⟨W5.heap.size, 0, none⟩ = some (.bool k.ok) ∧ W.cell? ⟨W5.heap.size, 1, none⟩ = some (.int .i64 k.sec) ∧ W.cell? ⟨W5.heap.size, 2, none⟩ = some (.slice a2 n2 d2)) ∧ W.cell? ⟨w.heap.size, 0, none⟩ = some (.bool k.ok) ∧ W.cell? ⟨w.heap.size, 1, none⟩ = some (.int .i64 k.sec) ∧ W.cell? ⟨w.heap.size, 2, none⟩ = some (.slice a n c)) := fun W hW => ⟨(Y5.below hW Y5.lt).three, hXT.out W (hVT.out W hW)⟩
    clear Y5 hl6 t6
    have d6 : Below V.heap.size V V.drew := (Below.refl _ _).drew
    go_region_held3 (fun W => (W.cell? ⟨W5.heap.size, 0, none⟩ = some (.bool k.ok) ∧ W.cell? ⟨W5.heap.size, 1, none⟩ = some (.int .i64 k.sec) ∧ W.cell? ⟨W5.heap.size, 2, none⟩ = some (.slice a2 n2 d2)) ∧ W.cell? ⟨w.heap.size + 1, 0, none⟩ = some (.int .i64 e.op) ∧ W.cell? ⟨w.heap.size + 1, 1, none⟩ = some (.int .i64 e.train) ∧ W.cell? ⟨w.heap.size + 1, 2, none⟩ = some (.int .i64 e.n)) (first | exact hS2.out _ t8 | exact hS2.out _ t7 | exact hS2.out _ d6)
      (first
      | (go_at_call 22; refine (toEvent_any e _).mono ?_; rintro _ W6 ⟨rfl, hb6⟩; have t7 : Below V.heap.size V W6 := d6.trans hb6)
      | (go_at_call 23; refine (implEventOk_any k e _ bs2 _ ⟨_, rfl, hLT.out _ t7⟩).mono ?_; rintro _ W7 ⟨⟨c2, rfl, hc2⟩, hb7⟩; have t8 : Below V.heap.size V W7 := t7.trans (hb7.mono t7.size)))
    obtain rfl : c2 = c1 := by rw [Bool.eq_iff_iff, hc1, hc2]
    clear hc1 hc2 hb6 hb7 t7 d6
    go_wp2_with fail
    have d8 : Below V.heap.size V W7.drew := t8.drew
    go_region_held3 (fun W => (W.cell? ⟨W5.heap.size, 0, none⟩ = some (.bool k.ok) ∧ W.cell? ⟨W5.heap.size, 1, none⟩ = some (.int .i64 k.sec) ∧ W.cell? ⟨W5.heap.size, 2, none⟩ = some (.slice a2 n2 d2)) ∧ W.cell? ⟨w.heap.size, 0, none⟩ = some (.bool k.ok) ∧ W.cell? ⟨w.heap.size, 1, none⟩ = some (.int .i64 k.sec) ∧ W.cell? ⟨w.heap.size, 2, none⟩ = some (.slice a n c)) (first | exact hS3.out _ t10 | exact hS3.out _ t9 | exact hS3.out _ d8)
      (first
      | (go_at_call 15; refine (toBook_any k _ bs _ (hKT.out _ (hVT.out _ d8)) hsz).mono ?_; rintro _ W8 ⟨v3, rfl, bs3, ⟨vl3, rfl, hl3⟩, _, _, _, hb8⟩; obtain ⟨a3, n3, c3, rfl⟩ := hl3.slice; have t9 : Below V.heap.size V W8 := d8.trans (hb8.mono t8.size))
      | (go_at_call 10; refine (eqBook_same k _ _ bs2 bs3 _ ⟨_, rfl, hLT.out _ t9⟩ ⟨_, rfl, hl3⟩).mono ?_; rintro _ W9 ⟨rfl, hb9⟩; have t10 : Below V.heap.size V W9 := t9.trans (hb9.mono t9.size)))
    go_wp2
    go_ret
    exact ⟨rfl, hBT.out _ (hVT.out _ t10)⟩

set_option maxRecDepth 100000 in
theorem lifted (os : Os) (started : os.Started) (H : Type) (enc : TypeId × Value → H) :
    ReturnsInHanded {} Try.checked os 7 .any (Rows.fnExactEventOkSpec.pre6 enc Try.prog Try.f7 Rows.fnExactEventOkRow.domain false) (Rows.fnExactEventOkSpec.post enc Try.prog Try.f7 false true false false) := by
  refine returnsInHanded_of_change (C := Try.checked) own started (by kernel_rfl) Try.func7
    (ChangeSpec.witness6 (enc := enc) (C := Try.checked) false ⟨#[], #[.agg #[.bool false, .int .i64 0, .slice none 0 0], .agg #[.int .i64 0, .int .i64 0, .int .i64 0]], []⟩ 8 (by kernel_rfl) (by kernel_rfl) (by kernel_rfl) (by kernel_rfl)) ?_
  intro W base args ds gs before hval0 hW hcnd _
  have hval : ∀ (j : Nat) t v, Try.f7.params[j]? = some t → args[j]? = some v → Value.okWide Try.prog W .any base t v := hval0
  have hW' := hW
  obtain ⟨p, q, hA0, hV, rfl, hfz, hnd⟩ := hW
  have hA : DataW.TrodAll enc Try.prog W 0 (fun _ => true) true Try.f7.params.toList args.toList ds p := hA0
  rw [Try.params7] at hA hval
  obtain ⟨v0, vs0, d0, ds0, p0, q0, hargs, rfl, rfl, h0, r0⟩ := trodAll_cons hA
  obtain ⟨v1, vs1, d1, ds1, p1, q1, rfl, rfl, rfl, h1, r1⟩ := trodAll_cons r0
  obtain ⟨rfl, rfl, rfl⟩ := trodAll_nil r1
  obtain rfl : args = #[v0, v1] := by cases args; simp_all
  obtain ⟨rfl, rfl⟩ := trodVars_none hV
  obtain ⟨k, bs, hk⟩ := read_book (hval 0 31 v0 rfl rfl) h0
  have lt0 : ∀ x ∈ p0, x.block < W.heap.size := by obtain ⟨m, hm⟩ := h0; exact DataW.trod_lt m _ _ _ hm
  have lt1 : ∀ x ∈ p1, x.block < W.heap.size := by obtain ⟨m, hm⟩ := h1; exact DataW.trod_lt m _ _ _ hm
  obtain ⟨e, rfl⟩ := read_event (hval 1 38 v1 rfl rfl) h1
  clear hA0 hval0
  refine (walk k e v0 bs W hk).mono fun e' W' ⟨he, bel⟩ => ?_
  subst he
  exact ⟨_, rfl, _, _, _, [], _, [], hW', trodAll_mk1 (shut_bool Try.underlying4 _), (trodAll_cons_mk (Below.trod laidOut (by kernel_rfl) (of_decide_eq_true (by kernel_rfl)) h0 bel lt0) (trodAll_cons_mk (Below.trod laidOut (by kernel_rfl) (of_decide_eq_true (by kernel_rfl)) h1 bel lt1) trodAll_mk0)), rfl, bel.frame _, fun h => by cases h⟩

theorem over : Rows.fnExactEventOkRow.holds Try.pinned (OpenSpec.ofChange Rows.fnExactEventOkSpec) :=
  OpenClaim.holds_of_wide 7 Try.f7 rfl rfl rfl rfl rfl rfl rfl ⟨rfl, rfl, rfl, rfl, rfl⟩ rfl rfl rfl rfl rfl (by kernel_rfl) Try.func7 (by kernel_rfl)
    (of_decide_eq_true (by kernel_rfl)) (by unfold Func.isWrapper; first | (rw [if_pos (by decide +kernel)]; kernel_rfl) | (rw [if_neg (by decide +kernel)]; exact ⟨rfl, rfl⟩))
    (fun os started H enc _ => lifted os started H enc)

end FnExactEventOkProof

theorem fnExactEventOk_holds : Rows.FnExactEventOkSaid := FnExactEventOkProof.over
#print axioms fnExactEventOk_holds
end Go.Proofs.Ytnaaheddhgpnoaa
