import Derived.Test.YtnaaheddhgpnoaaDoorOk3
namespace Go.Proofs.YtnaaheddhgpnoaaDoor
open Go.ChangeShapes Go.WideShapes Go.ChangeAt Go.RowKit

set_option maxHeartbeats 1000000 in
theorem dropRight_any (l : Ln) (v : Value) (bs : List Nat) (w : World) (h : LnAt w v l bs) (hh : WayHead l) (hn : 1 ≤ l.grs.length) :
    Calls Tryd.prog 45 #[v] w fun e w' => RetB e (DropOk l) ∧ Below w.heap.size w w' := by
  have hL := h
  obtain ⟨vw, vg, b1, b2, rfl, hbs, hwi, ⟨a, c, rfl, hlc, hcm, hg⟩⟩ := h
  obtain ⟨ta, tn, tc, rfl⟩ := hwi.slice
  unfold maxLen at hcm
  have a1 : ∀ o, Below w.heap.size w (w.alloc o) := fun o => (Below.refl _ _).alloc (Nat.le_refl _) _
  by_cases hd : l.drop = -1
  · have hd' : (l.drop == -1) = true := by simp [hd]
    have hy : Hid (DropOk l) := Or.inl hd
    clear hd
    go_enter Tryd.func45, Tryd.ntmps45
    go_wp2
    go_ret
    exact ⟨RetB.yes hy.out, a1 _⟩
  · have hd' : (l.drop == -1) = false := by simp [hd]
    obtain ⟨m, hm⟩ : ∃ m, l.grs.length = m + 1 := ⟨l.grs.length - 1, by omega⟩
    have t1 : totD l ≤ 1000000 := hh.tot
    have t0 : 0 ≤ totD l := by have := hh.lo; unfold totD; omega
    have hT := fun W h => total_any l (.agg #[.int .i64 l.gone, .slice ta tn tc, .slice a l.grs.length c, .int .i64 l.drop]) bs W h hh.lo hh.hi hh.len
    have hR := fun W h => reach_any l (.agg #[.int .i64 l.gone, .slice ta tn tc, .slice a l.grs.length c, .int .i64 l.drop]) bs W h
    have hEnd : Hid (DropOk l ↔ l.gone ≤ l.drop ∧ l.drop ≤ totD l - 1 ∧ lastCel l ≤ l.drop ∧ totD l ≤ mostOf l.grs) :=
      ⟨fun h => ⟨(h.resolve_left hd).lo, (h.resolve_left hd).hi, (h.resolve_left hd).last, (h.resolve_left hd).far⟩, fun h => Or.inr ⟨h.1, h.2.1, h.2.2.1, h.2.2.2⟩⟩
    have hLa := fun W h => last_any l (.agg #[.int .i64 l.gone, .slice ta tn tc, .slice a l.grs.length c, .int .i64 l.drop]) bs W h m hm
    rw [show (l.grs[m]?.getD gr0).cel = lastCel l by unfold lastCel; rw [hm]; rfl] at hLa
    rw [hm] at hT hR hLa ⊢ hlc hL
    clear hg hd hm
    generalize totD l = T at *
    generalize mostOf l.grs = M at *
    generalize lastCel l = ce at *
    generalize (l.grs[m]?.getD gr0).ver = ve at *
    have HT : Hid (∀ W, LnAt W (.agg #[.int .i64 l.gone, .slice ta tn tc, .slice a (m + 1) c, .int .i64 l.drop]) l bs → Calls Tryd.prog 78 #[.agg #[.int .i64 l.gone, .slice ta tn tc, .slice a (m + 1) c, .int .i64 l.drop]] W fun e w' => e = .returned (.int .i64 T) ∧ Below W.heap.size W w') := hT
    have HR : Hid (∀ W, LnAt W (.agg #[.int .i64 l.gone, .slice ta tn tc, .slice a (m + 1) c, .int .i64 l.drop]) l bs → Calls Tryd.prog 49 #[.agg #[.int .i64 l.gone, .slice ta tn tc, .slice a (m + 1) c, .int .i64 l.drop]] W fun e w' => e = .returned (.int .i64 M) ∧ Below W.heap.size W w') := hR
    have HL : Hid (∀ W, LnAt W (.agg #[.int .i64 l.gone, .slice ta tn tc, .slice a (m + 1) c, .int .i64 l.drop]) l bs → Calls Tryd.prog 79 #[.agg #[.int .i64 l.gone, .slice ta tn tc, .slice a (m + 1) c, .int .i64 l.drop]] W fun e w' => e = .returned (.agg #[.int .i64 ve, .int .i64 ce]) ∧ Below W.heap.size W w') := hLa
    clear hT hR hLa
    have eL := BlkIs.new w [.int .i64 l.gone, .slice ta tn tc, .slice a (m + 1) c, .int .i64 l.drop] 38
    go_enter Tryd.func45, Tryd.ntmps45
    go_wp2_with fail
    have eW := a1 (.cells #[.int .i64 l.gone, .slice ta tn tc, .slice a (m + 1) c, .int .i64 l.drop] 38)
    generalize w.alloc (.cells #[.int .i64 l.gone, .slice ta tn tc, .slice a (m + 1) c, .int .i64 l.drop] 38) = W at *
    clear a1
    have hLW := hL.below eW hL.lt
    have l0 := eL.ext (B := W.heap.size) eL.lt 0
    have l1 := eL.ext (B := W.heap.size) eL.lt 1
    have l2 := eL.ext (B := W.heap.size) eL.lt 2
    have l3 := eL.ext (B := W.heap.size) eL.lt 3
    simp only [List.getElem?_cons_zero, List.getElem?_cons_succ] at l0 l1 l2 l3
    have hLx : Hid _ := LnAt.ext (B := W.heap.size) hLW hLW.lt
    have ne : Nonempty (Ext W.heap.size W) := ext_some
    have hfd : ∀ x : World, (Instr.field 40 (.agg #[.int .i64 ve, .int .i64 ce]) 1).run Tryd.prog x = .ok (.int .i64 ce) x := fun _ => by kernel_rfl
    by_cases h1 : l.gone ≤ l.drop ∧ l.drop ≤ T - 1
    · by_cases h2 : ce ≤ l.drop
      · have HF : Hid (DropOk l ↔ T ≤ M) := by
          show DropOk l ↔ T ≤ M
          rw [hEnd.out]
          exact ⟨fun h => h.2.2.2, fun h => ⟨h1.1, h1.2, h2, h⟩⟩
        refine wp_region_ext W.heap.size (by kernel_rfl) (by kernel_rfl) ?_
        repeat (go_big_quiet_step (first | (go_at_call 78; exact ext_of (Nat.le_refl _) _ (HT.out _ (hLx.out _))) | (go_at_call 49; exact ext_of (Nat.le_refl _) _ (HR.out _ (hLx.out _))) | (go_at_call 79; exact ext_of (Nat.le_refl _) _ (HL.out _ (hLx.out _))) | (go_at_call 48; exact ext_of_same _ (within_yes l.drop l.gone (T - 1) _ h1.1 h1.2))))
        refine wpQuiet_nil ?_
        intro w1 hx1
        have eW1 := eW.trans ((ext_below hx1).mono eW.size)
        clear hx1 l0 l1 l2 l3 hLx ne
        go_wp2
        go_ret
        exact ⟨RetB.of (by rw [HF.out]; simp), eW1⟩
      · have HF : Hid (¬ DropOk l) := fun h => h2 (hEnd.out.1 h).2.2.1
        have h2' : decide (ce ≤ l.drop) = false := by simpa using h2
        refine wp_region_ext W.heap.size (by kernel_rfl) (by kernel_rfl) ?_
        repeat (go_big_quiet_step (first | (go_at_call 78; exact ext_of (Nat.le_refl _) _ (HT.out _ (hLx.out _))) | (go_at_call 79; exact ext_of (Nat.le_refl _) _ (HL.out _ (hLx.out _))) | (go_at_call 48; exact ext_of_same _ (within_yes l.drop l.gone (T - 1) _ h1.1 h1.2))))
        refine wpQuiet_nil ?_
        intro w1 hx1
        have eW1 := eW.trans ((ext_below hx1).mono eW.size)
        clear hx1 l0 l1 l2 l3 hLx ne
        go_wp2
        go_ret
        exact ⟨RetB.no HF.out, eW1⟩
    · have HF : Hid (¬ DropOk l) := fun h => h1 ⟨(hEnd.out.1 h).1, (hEnd.out.1 h).2.1⟩
      refine wp_region_ext W.heap.size (by kernel_rfl) (by kernel_rfl) ?_
      repeat (go_big_quiet_step (first | (go_at_call 78; exact ext_of (Nat.le_refl _) _ (HT.out _ (hLx.out _))) | (go_at_call 48; exact ext_of_same _ (within_no l.drop l.gone (T - 1) _ h1))))
      refine wpQuiet_nil ?_
      intro w1 hx1
      have eW1 := eW.trans ((ext_below hx1).mono eW.size)
      clear hx1 l0 l1 l2 l3 hLx ne
      go_wp2
      go_ret
      exact ⟨RetB.no HF.out, eW1⟩

end Go.Proofs.YtnaaheddhgpnoaaDoor
