import Derived.Test.YtnaaheddhgpnoaaEq
import Derived.Test.YtnaaheddhgpnoaaMark
import Derived.Test.YtnaaheddhgpnoaaBegin
import Derived.OpenShut
import Derived.ShutString
import Derived.ChangeOld
import Derived.Below
namespace Go.Proofs.Ytnaaheddhgpnoaa
namespace FnExactBeginProof
open Go.ChangeShapes Go.WideShapes Go.ChangeAt Go.RowKit
set_option linter.unusedVariables false

theorem own : ownKnob Try.prog.godebug = none := by kernel_rfl
theorem laidOut : laidOutB Try.prog = true := by kernel_rfl

theorem begD_small (s t : Int) : offs (begD s t).lns (begD s t).lns.length 1 ≤ 1000 := by
  have h : ∀ (l : Ln) (n i : Nat), i ≤ n → offs (List.replicate n l) i 1 ≤ 1 + i * lnSize l := by
    intro l n i
    induction i with
    | zero => intro _; simp [offs]
    | succ i ih =>
      intro hi
      have := ih (by omega)
      simp only [offs]
      rw [List.getElem?_replicate, if_pos (by omega)]
      simp only [Option.getD_some]
      have e : ((i + 1 : Nat) : Int) * lnSize l = i * lnSize l + lnSize l := by rw [Int.natCast_add, Int.add_mul]; simp
      omega
  unfold begD
  split
  · rename_i hc
    have := h lnB t.toNat t.toNat (Nat.le_refl _)
    rw [show lnSize lnB = 4 from rfl] at this
    simp only [List.length_replicate]
    omega
  · simp [bk0, offs]

set_option maxHeartbeats 1000000 in
theorem walk (a0 a1 : Int) (w : World) :
    Calls Try.prog 3 #[.int .i64 a0, .int .i64 a1] w fun e w' => e = .returned (.bool true) ∧ Below w.heap.size w w' := by
  have hsmall := begD_small a0 a1
  have hpos := offs_le (begD a0 a1).lns 1 (begD a0 a1).lns.length
  have hSI := specBegin_any a0 a1
  have hII := implBegin_any a0 a1
  generalize begD a0 a1 = B at *
  have HS : Hid (∀ w, Calls Try.prog 8 #[.int .i64 a0, .int .i64 a1] w fun e w' => ∃ v bs, e = .returned v ∧ BkAt w' v B bs ∧ Below w.heap.size w w') := hSI
  have HI : Hid (∀ w, Calls Try.prog 9 #[.int .i64 a0, .int .i64 a1] w fun e w' => ∃ v, e = .returned v ∧ NewBk w w' v B) := hII
  clear hSI hII
  generalize hq : offs B.lns B.lns.length 1 = q at *
  have Hq : Hid (offs B.lns B.lns.length 1 = q) := hq
  clear hq
  go_enter Try.func3, Try.ntmps3
  go_wp2_with fail
  refine (HS.out _).mono ?_
  rintro e W1 ⟨v0, bs0, rfl, ⟨vl0, rfl, hl0⟩, hb1⟩
  obtain ⟨a', n', c', rfl⟩ := hl0.slice
  go_wp2_with fail
  have B0 := BlkIs.new W1 [.bool B.ok, .int .i64 B.sec, .slice a' n' c'] 24
  have L0 := hl0.below ((Below.refl _ _).alloc (Nat.le_refl _) (.cells #[.bool B.ok, .int .i64 B.sec, .slice a' n' c'] 24)) hl0.lt
  have T1 : Below w.heap.size w (W1.alloc (.cells #[.bool B.ok, .int .i64 B.sec, .slice a' n' c'] 24)) := hb1.alloc hb1.size _
  have z1 : w.heap.size ≤ W1.heap.size := hb1.size
  clear hl0 hb1
  refine (HI.out _).mono ?_
  rintro e W2 ⟨v1, rfl, bs1, ⟨vl1, rfl, hl1⟩, nd1, fr1, hge1, hb2⟩
  obtain ⟨a1', n1', c1', rfl⟩ := hl1.slice
  have B0' := B0.below hb2 B0.lt
  have L0' := L0.below hb2 L0.lt
  have T2 := T1.trans (hb2.mono (by simp; omega))
  have z2 : W1.heap.size + 1 ≤ W2.heap.size := by have := hb2.size; simpa using this
  have l0 : ∀ b ∈ bs0, b < W1.heap.size + 1 := fun b hb => by have := L0.lt b hb; simpa using this
  have g1 : ∀ b ∈ bs1, W1.heap.size + 1 ≤ b := fun b hb => by have := hge1 b hb; simpa using this
  clear B0 L0 hb2 T1 hge1
  have B1 : ∀ o, BlkIs (W2.alloc o) W1.heap.size _ _ := fun o => B0'.alloc o
  have r0 := fun o => (B1 o).cell 0
  have r1 := fun o => (B1 o).cell 1
  have r2 := fun o => (B1 o).cell 2
  simp only [List.getElem?_cons_zero, List.getElem?_cons_succ] at r0 r1 r2
  go_wp2_with fail
  -- W2' : both books stand, the boxes at W1.heap.size, W2.heap.size
  have al := (Below.refl W2.heap.size W2).alloc (Nat.le_refl _) (.cells #[.bool B.ok, .int .i64 B.sec, .slice a1' n1' c1'] 24)
  have C1 : BlkIs (W2.alloc (.cells #[.bool B.ok, .int .i64 B.sec, .slice a1' n1' c1'] 24)) W2.heap.size [.bool B.ok, .int .i64 B.sec, .slice a1' n1' c1'] 24 := BlkIs.new _ _ _
  have C0 := B1 (.cells #[.bool B.ok, .int .i64 B.sec, .slice a1' n1' c1'] 24)
  have M0 := L0'.below al L0'.lt
  have M1 := hl1.below al hl1.lt
  have F1 := fr1.below al hl1.lt
  have l1 := hl1.lt
  have T3 := T2.alloc (by omega) (.cells #[.bool B.ok, .int .i64 B.sec, .slice a1' n1' c1'] 24)
  clear r0 r1 r2 B1 B0' L0' hl1 fr1 T2
  have z3 : (W2.alloc (.cells #[.bool B.ok, .int .i64 B.sec, .slice a1' n1' c1'] 24)).heap.size = W2.heap.size + 1 := by simp
  generalize hV : W2.alloc (.cells #[.bool B.ok, .int .i64 B.sec, .slice a1' n1' c1'] 24) = V at *
  clear hV
  refine (eqBook_same B _ _ bs1 bs0 _ ⟨_, rfl, M1⟩ ⟨_, rfl, M0⟩).mono ?_
  rintro e W3 ⟨rfl, hb3⟩
  have C1' := C1.below hb3 C1.lt
  have C0' := C0.below hb3 C0.lt
  have N0 := M0.below hb3 M0.lt
  have N1 := M1.below hb3 M1.lt
  have F1' := F1.below hb3 M1.lt
  have T4 := T3.trans (hb3.mono (by omega))
  have z4 := hb3.size
  clear C0 C1 M0 M1 F1 T3 hb3 al
  obtain ⟨q0, q1, q2⟩ := C1'.three
  go_wp2_with fail
  refine (markBook_any B _ bs1 _ 1 ⟨_, rfl, N1⟩ F1' nd1 (by omega) (by rw [Hq.out]; omega)).mono ?_
  rintro e W4 ⟨rfl, hk4, hc4⟩
  rw [Hq.out]
  have D1 := C1'.chg hc4 (fun h => by have := l1 _ h; omega)
  have D0 := C0'.chg hc4 (fun h => by have := g1 _ h; omega)
  have O0 := N0.keep (w' := W4) (fun b hb => hc4.block b (N0.lt b hb) (fun h => by have := g1 _ h; have := l0 b hb; omega))
  have T5 := T4.trans (hc4.below T4.size (fun b hb => by have := g1 b hb; omega))
  have z5 := hc4.size
  clear C0' C1' N0 N1 F1' T4 hc4 q0 q1 q2
  obtain ⟨q0, q1, q2⟩ := D1.three
  go_wp2_with fail
  refine (heldBook_any B _ bs1 _ 1 hk4 (by omega) (by rw [Hq.out]; omega)).mono ?_
  rintro e W5 ⟨rfl, hb5⟩
  rw [Hq.out]
  have E1 := D1.below hb5 D1.lt
  have E0 := D0.below hb5 D0.lt
  have P0 := O0.below hb5 O0.lt
  have K5 := hk4.below hb5 hk4.lt
  have T6 := T5.trans (hb5.mono T5.size)
  have z6 := hb5.size
  clear D0 D1 O0 hk4 hb5 T5 q0 q1 q2
  go_wp2_with fail
  refine (HI.out _).mono ?_
  rintro e W6 ⟨v2, rfl, bs2, ⟨vl2, rfl, hl2⟩, nd2, fr2, hge2, hb6⟩
  obtain ⟨a2', n2', c2', rfl⟩ := hl2.slice
  have G1 := E1.below hb6 E1.lt
  have G0 := E0.below hb6 E0.lt
  have Q0 := P0.below hb6 P0.lt
  have K6 := K5.below hb6 K5.lt
  have T7 := T6.trans (hb6.mono T6.size)
  have z7 := hb6.size
  clear E0 E1 P0 K5 hb6 T6 nd2 fr2 hge2
  have B1 : ∀ o, BlkIs (W6.alloc o) W1.heap.size _ _ := fun o => G0.alloc o
  have r0 := fun o => (B1 o).cell 0
  have r1 := fun o => (B1 o).cell 1
  have r2 := fun o => (B1 o).cell 2
  simp only [List.getElem?_cons_zero, List.getElem?_cons_succ] at r0 r1 r2
  go_wp2_with fail
  have al := (Below.refl W6.heap.size W6).alloc (Nat.le_refl _) (.cells #[.bool B.ok, .int .i64 B.sec, .slice a2' n2' c2'] 24)
  have R1 := G1.alloc (.cells #[.bool B.ok, .int .i64 B.sec, .slice a2' n2' c2'] 24)
  have S0 := Q0.below al Q0.lt
  have S2 := hl2.below al hl2.lt
  have K7 := K6.below al K6.lt
  have T8 := T7.alloc T7.size (.cells #[.bool B.ok, .int .i64 B.sec, .slice a2' n2' c2'] 24)
  clear r0 r1 r2 B1 G0 G1 Q0 hl2 K6 T7
  generalize W6.alloc (.cells #[.bool B.ok, .int .i64 B.sec, .slice a2' n2' c2'] 24) = V6 at *
  refine (eqBook_same B _ _ bs2 bs0 _ ⟨_, rfl, S2⟩ ⟨_, rfl, S0⟩).mono ?_
  rintro e W7 ⟨rfl, hb7⟩
  have R1' := R1.below hb7 R1.lt
  have K8 := K7.below hb7 K7.lt
  have T9 := T8.trans (hb7.mono T8.size)
  clear R1 K7 T8 hb7 S0 S2 al
  obtain ⟨q0, q1, q2⟩ := R1'.three
  go_wp2_with fail
  refine (heldBook_any B _ bs1 _ 1 K8 (by omega) (by rw [Hq.out]; omega)).mono ?_
  rintro e W8 ⟨rfl, hb8⟩
  rw [Hq.out]
  go_wp2
  go_ret
  exact ⟨rfl, T9.trans (hb8.mono T9.size)⟩

set_option maxRecDepth 100000 in
theorem lifted (os : Os) (started : os.Started) (H : Type) (enc : TypeId × Value → H) :
    ReturnsInHanded {} Try.checked os 3 .any (Rows.fnExactBeginSpec.pre6 enc Try.prog Try.f3 Rows.fnExactBeginRow.domain false) (Rows.fnExactBeginSpec.post enc Try.prog Try.f3 false true false false) := by
  refine returnsInHanded_of_change (C := Try.checked) own started (by kernel_rfl) Try.func3
    (ChangeSpec.witness6 (enc := enc) (C := Try.checked) false ⟨#[], #[.int .i64 0, .int .i64 0], []⟩ 8 (by kernel_rfl) (by kernel_rfl) (by kernel_rfl) (by kernel_rfl)) ?_
  intro W base args ds gs before hval0 hW hcnd _
  have hval : ∀ (j : Nat) t v, Try.f3.params[j]? = some t → args[j]? = some v → Value.okWide Try.prog W .any base t v := hval0
  have hW' := hW
  obtain ⟨p, q, hA0, hV, rfl, hfz, hnd⟩ := hW
  have hA : DataW.TrodAll enc Try.prog W 0 (fun _ => true) true Try.f3.params.toList args.toList ds p := hA0
  rw [Try.params3] at hA hval
  obtain ⟨v0, vs0, d0, ds0, p0, q0, hargs, rfl, rfl, h0, r0⟩ := trodAll_cons hA
  obtain ⟨v1, vs1, d1, ds1, p1, q1, rfl, rfl, rfl, h1, r1⟩ := trodAll_cons r0
  obtain ⟨rfl, rfl, rfl⟩ := trodAll_nil r1
  obtain rfl : args = #[v0, v1] := by cases args; simp_all
  obtain ⟨rfl, rfl⟩ := trodVars_none hV
  obtain ⟨a0, rfl, rfl, rfl, w0⟩ := open_int Try.underlying3 (hval 0 3 v0 rfl rfl) h0
  obtain ⟨a1, rfl, rfl, rfl, w1⟩ := open_int Try.underlying3 (hval 1 3 v1 rfl rfl) h1
  clear hA0 hval0
  refine (walk a0 a1 W).mono fun e W' ⟨he, bel⟩ => ?_
  subst he
  exact ⟨_, rfl, _, _, _, [], _, [], hW', trodAll_mk1 (shut_bool Try.underlying4 _), (trodAll_cons_mk (shut_int Try.underlying3 w0) (trodAll_cons_mk (shut_int Try.underlying3 w1) trodAll_mk0)), rfl, bel.frame _, fun h => by cases h⟩

theorem over : Rows.fnExactBeginRow.holds Try.pinned (OpenSpec.ofChange Rows.fnExactBeginSpec) :=
  OpenClaim.holds_of_wide 3 Try.f3 rfl rfl rfl rfl rfl rfl rfl ⟨rfl, rfl, rfl, rfl, rfl⟩ rfl rfl rfl rfl rfl (by kernel_rfl) Try.func3 (by kernel_rfl)
    (of_decide_eq_true (by kernel_rfl)) (by unfold Func.isWrapper; first | (rw [if_pos (by decide +kernel)]; kernel_rfl) | (rw [if_neg (by decide +kernel)]; exact ⟨rfl, rfl⟩))
    (fun os started H enc _ => lifted os started H enc)

end FnExactBeginProof

theorem fnExactBegin_holds : Rows.FnExactBeginSaid := FnExactBeginProof.over
#print axioms fnExactBegin_holds
end Go.Proofs.Ytnaaheddhgpnoaa
