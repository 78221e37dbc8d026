import Derived.Test.YtnaaheddhgpnoaaDoorBook4
import Derived.Test.YtnaaheddhgpnoaaDoorDoNo
import Derived.Test.YtnaaheddhgpnoaaDoorCards
import Derived.Test.YtnaaheddhgpnoaaDoorTie
import Derived.OpenShut
import Derived.OpenVars
import Derived.LaidMore
import Derived.Stop.LaidTwo
import Derived.Stop.Joined
import Derived.Deep.Slices
import Derived.Lib.SmallJoins
import Derived.Below
/-
  The law FnSpoilt, walked.
-/
namespace Go.Proofs.YtnaaheddhgpnoaaDoor
open Go.ChangeShapes Go.WideShapes Go.ChangeAt Go.RowKit

def evS : Ev := ⟨1, 0, 0⟩
theorem evS_right {k : Bk} (h : Right k) : EvOk k evS ↔ 0 < k.lns.length := by
  have hl := h.frame.lo
  constructor
  · intro e
    have h0 := e.t0
    have h1 := e.t1
    simp only [evS] at h0 h1
    omega
  · intro hn
    exact ⟨h, by decide, by show (0 : Int) ≤ _; omega, by decide, by decide, by decide, fun _ => by show (0 : Int) ≤ _; omega, fun _ => by decide⟩

set_option maxHeartbeats 4000000 in
set_option maxRecDepth 100000 in
theorem spoilt_walk (v : Value) (w : World) (a0 a1 a2 : Addr) (hv : BysLow w v w.heap.size) (he : Errs w a0 a1 a2) :
    Calls Tryd.prog 7 #[v] w fun r w' => r = .returned (.bool true) ∧ Below w.heap.size w w' := by
  have HD : Hid (Calls Tryd.prog 22 #[v] w fun r w' => ∃ vb k bs, r = .returned vb ∧ BkAt w' vb k bs ∧ BendOk 2000 k ∧ Below w.heap.size w w') := drawBookOk_any v w hv
  have HE : Hid (∀ W, Below w.heap.size w W → Errs W a0 a1 a2) := fun W hw => he.below hw he.lt
  obtain ⟨x, m, cap, rfl, hm1, hm2, _⟩ := hv
  unfold maxLen at hm2
  clear he
  by_cases hbig : (1048576 : Int) < (m : Int)
  · go_enter Tryd.func7, Tryd.ntmps7
    go_wp2
    go_ret
    exact ⟨rfl, Below.refl _ _⟩
  · go_enter Tryd.func7, Tryd.ntmps7
    go_wp2_with fail
    refine HD.out.mono ?_
    rintro _ w1 ⟨vb, k, bs, rfl, hK, _, T1⟩
    obtain ⟨vl, rfl, hl⟩ := id hK
    obtain ⟨la, ca, rfl, hca, hcm, _⟩ := hl
    unfold maxLen at hcm
    have HIB : Hid (∀ W, BkAt W (.agg #[.bool k.ok, .int .i64 k.sec, .slice la k.lns.length ca]) k bs → Calls Tryd.prog 13 #[.agg #[.bool k.ok, .int .i64 k.sec, .slice la k.lns.length ca]] W fun e w' => RetCode e k ∧ Below W.heap.size W w') := fun W h => implBookOk_any k _ bs W h
    have HSB : Hid (∀ W, BkAt W (.agg #[.bool k.ok, .int .i64 k.sec, .slice la k.lns.length ca]) k bs → Calls Tryd.prog 23 #[.agg #[.bool k.ok, .int .i64 k.sec, .slice la k.lns.length ca]] W fun e w' => RetCode e k ∧ Below W.heap.size W w') := fun W h => specBookOk_any k _ bs W h
    have HEv : Hid (∀ W, BkAt W (.agg #[.bool k.ok, .int .i64 k.sec, .slice la k.lns.length ca]) k bs → Calls Tryd.prog 24 #[.agg #[.bool k.ok, .int .i64 k.sec, .slice la k.lns.length ca], .agg #[.int .i64 1, .int .i64 0, .int .i64 0]] W fun r w' => RetB r (EvOk k evS) ∧ Below W.heap.size W w') := fun W h => implEventOk_any k evS _ bs W h
    have HDo : Hid (∀ W, BkAt W (.agg #[.bool k.ok, .int .i64 k.sec, .slice la k.lns.length ca]) k bs → Errs W a0 a1 a2 → ¬ EvOk k evS → Calls Tryd.prog 18 #[.agg #[.bool k.ok, .int .i64 k.sec, .slice la k.lns.length ca], .agg #[.int .i64 1, .int .i64 0, .int .i64 0]] W fun r w' => r = .returned (.agg #[.int .i64 1, .bool false, .int .i64 0, .slice none 0 0]) ∧ Below W.heap.size W w') := fun W h1 h2 h3 => implDo_no k evS _ bs W a0 a1 a2 h1 h2 h3
    have HOw : Hid (∀ W, BkAt W (.agg #[.bool k.ok, .int .i64 k.sec, .slice la k.lns.length ca]) k bs → Calls Tryd.prog 16 #[.agg #[.bool k.ok, .int .i64 k.sec, .slice la k.lns.length ca], .int .i64 0] W fun e w' => RetOwner e k 0 ∧ Below W.heap.size W w') := fun W h => implOwner_any k _ bs 0 W h (by omega) (by omega)
    have HRe : Hid (∀ W, BkAt W (.agg #[.bool k.ok, .int .i64 k.sec, .slice la k.lns.length ca]) k bs → Calls Tryd.prog 15 #[.agg #[.bool k.ok, .int .i64 k.sec, .slice la k.lns.length ca], .int .i64 0] W fun e w' => RetReach e k 0 ∧ Below W.heap.size W w') := fun W h => implReach_any k _ bs 0 W h
    have HEq : Hid (Right k → (EvOk k evS ↔ 0 < k.lns.length)) := evS_right
    generalize k.lns.length = n at *
    have HK : Hid (∀ W, Below w1.heap.size w1 W → BkAt W (.agg #[.bool k.ok, .int .i64 k.sec, .slice la n ca]) k bs) := fun W hW => hK.below hW hK.lt
    have B1 : BlkIs (w1.alloc (.cells #[.bool k.ok, .int .i64 k.sec, .slice la n ca] 32)) w1.heap.size [.bool k.ok, .int .i64 k.sec, .slice la n ca] 32 := BlkIs.new _ _ _
    have U1 : Below w1.heap.size w1 (w1.alloc (.cells #[.bool k.ok, .int .i64 k.sec, .slice la n ca] 32)) := (Below.refl _ _).alloc (Nat.le_refl _) _
    clear hK
    go_wp2_with fail
    generalize (w1.alloc (.cells #[.bool k.ok, .int .i64 k.sec, .slice la n ca] 32)) = W1 at *
    refine (HIB.out _ (HK.out _ U1)).mono ?_
    rintro _ w2 ⟨⟨c, rfl, hc⟩, hb2⟩
    have B2 := B1.below hb2 B1.lt
    have U2 := U1.trans (hb2.mono U1.size)
    clear B1 hb2 U1
    obtain ⟨x0, x1, x2⟩ := B2.three
    go_wp2_with fail
    refine (HSB.out _ (HK.out _ U2)).mono ?_
    rintro _ w3 ⟨⟨c', rfl, hc'⟩, hb3⟩
    obtain rfl := hc.one hc'
    have B3 := B2.below hb3 B2.lt
    have U3 := U2.trans (hb3.mono U2.size)
    have Hz : Hid (c = 0 ↔ Right k) := hc.zero
    have hne : (c != c) = false := by simp
    clear B2 hb3 U2 x0 x1 x2 hc hc'
    have B4 := B3.alloc (.cells #[.int .i64 1, .int .i64 0, .int .i64 0] 46)
    have E4 : BlkIs (w3.alloc (.cells #[.int .i64 1, .int .i64 0, .int .i64 0] 46)) w3.heap.size [.int .i64 1, .int .i64 0, .int .i64 0] 46 := BlkIs.new _ _ _
    have U4 := U3.alloc U3.size (.cells #[.int .i64 1, .int .i64 0, .int .i64 0] 46)
    clear B3 U3
    go_upto_region 8 with fail
    generalize (w3.alloc (.cells #[.int .i64 1, .int .i64 0, .int .i64 0] 46)) = W4 at *
    generalize w3.heap.size = Ex at *
    have T4 : Below w.heap.size w W4 := T1.trans (U4.mono T1.size)
    obtain ⟨x0, x1, x2⟩ := B4.three
    obtain ⟨y0, y1, y2⟩ := E4.three
    by_cases hc0 : c = 0
    · have HR := Hz.out.1 hc0
      subst hc0
      have HQ : Hid (EvOk k evS ↔ 0 < n) := HEq.out HR
      clear HR Hz hne
      by_cases hn : 0 < n
      · have hn' : (0 : Int) < (n : Int) := by omega
        have Hq : Hid (Calls Tryd.prog 24 #[.agg #[.bool k.ok, .int .i64 k.sec, .slice la n ca], .agg #[.int .i64 1, .int .i64 0, .int .i64 0]] W4.drew fun r w' => r = .returned (.bool true) ∧ Below W4.heap.size W4 w') := (HEv.out W4.drew (HK.out _ U4.drew)).mono fun r w' ⟨⟨b, hb1, hb2⟩, hb3⟩ => ⟨by rw [hb1, hb2.2 (HQ.out.2 hn)], (Below.refl _ W4).drew.trans hb3⟩
        go_upto_region 9 with fail
        go_region_with (go_at_call 24; (with_reducible refine Hq.out.mono ?_); rintro _ w5 ⟨rfl, hb5⟩; obtain ⟨z0, z1, z2⟩ := (B4.below hb5 B4.lt).three)
        all_goals (
          go_wp2
          go_ret
          exact ⟨rfl, T4.trans (hb5.mono T4.size)⟩)
      · obtain rfl : n = 0 := by omega
        have Hq : Hid (Calls Tryd.prog 24 #[.agg #[.bool k.ok, .int .i64 k.sec, .slice la 0 ca], .agg #[.int .i64 1, .int .i64 0, .int .i64 0]] W4.drew fun r w' => r = .returned (.bool false) ∧ Below W4.heap.size W4 w') := (HEv.out W4.drew (HK.out _ U4.drew)).mono fun r w' ⟨⟨b, hb1, hb2⟩, hb3⟩ => ⟨by rw [hb1, show b = false from Bool.eq_false_iff.2 fun e => absurd (HQ.out.1 (hb2.1 e)) (by omega)], (Below.refl _ W4).drew.trans hb3⟩
        go_upto_region 9 with fail
        go_region_with (go_at_call 24; (with_reducible refine Hq.out.mono ?_); rintro _ w5 ⟨rfl, hb5⟩; obtain ⟨z0, z1, z2⟩ := (B4.below hb5 B4.lt).three)
        all_goals (
          go_wp2
          go_ret
          exact ⟨rfl, T4.trans (hb5.mono T4.size)⟩)
    · have HR : Hid (¬ Right k) := fun h => hc0 (Hz.out.2 h)
      have hc0' : (c == 0) = false := by simpa using hc0
      have HNo : Hid (¬ EvOk k evS) := fun h => HR.out h.right
      have hfd : ∀ x : World, (Instr.field 34 (.agg #[.int .i64 1, .bool false, .int .i64 0, .slice none 0 0]) 0).run Tryd.prog x = .ok (.int .i64 1) x := fun _ => by kernel_rfl
      clear hc0 Hz
      go_wp2_with fail
      refine (HEv.out _ (HK.out _ U4)).mono ?_
      rintro _ w5 ⟨⟨b, rfl, hb⟩, hb5⟩
      obtain rfl : b = false := Bool.eq_false_iff.2 fun e => HNo.out (hb.1 e)
      have B5 := B4.below hb5 B4.lt
      have E5 := E4.below hb5 E4.lt
      have U5 := U4.trans (hb5.mono U4.size)
      have T5 := T4.trans (hb5.mono T4.size)
      clear B4 E4 U4 T4 hb5 hb x0 x1 x2 y0 y1 y2
      obtain ⟨x0, x1, x2⟩ := B5.three
      obtain ⟨y0, y1, y2⟩ := E5.three
      go_wp2_with fail
      refine (HDo.out _ (HK.out _ U5) (HE.out _ T5) HNo.out).mono ?_
      rintro _ w6 ⟨rfl, hb6⟩
      have B6 := B5.below hb6 B5.lt
      have U6 := U5.trans (hb6.mono U5.size)
      have T6 := T5.trans (hb6.mono T5.size)
      clear B5 E5 U5 T5 hb6 x0 x1 x2 y0 y1 y2
      obtain ⟨x0, x1, x2⟩ := B6.three
      go_wp2_with fail
      refine (HOw.out _ (HK.out _ U6)).mono ?_
      rintro _ w7 ⟨⟨r7, rfl, h7⟩, hb7⟩
      obtain rfl : r7 = -1 := by
        rcases h7 with ⟨_, h⟩ | ⟨h, _⟩ | ⟨h, _⟩
        · exact h
        · exact absurd h HR.out
        · exact absurd h HR.out
      have B7 := B6.below hb7 B6.lt
      have U7 := U6.trans (hb7.mono U6.size)
      have T7 := T6.trans (hb7.mono T6.size)
      clear B6 U6 T6 hb7 h7 x0 x1 x2
      obtain ⟨x0, x1, x2⟩ := B7.three
      go_wp2_with fail
      refine (HRe.out _ (HK.out _ U7)).mono ?_
      rintro _ w8 ⟨⟨r8, rfl, h8⟩, hb8⟩
      obtain rfl : r8 = -1 := by
        rcases h8 with ⟨_, h⟩ | ⟨h, _⟩
        · exact h
        · exact absurd h HR.out
      have T8 := T7.trans (hb8.mono T7.size)
      clear x0 x1 x2 h8
      go_wp2
      go_ret
      exact ⟨rfl, T8⟩

end Go.Proofs.YtnaaheddhgpnoaaDoor

namespace Go.Proofs.YtnaaheddhgpnoaaDoor
namespace FnSpoiltProof
open Go.ChangeShapes Go.WideShapes Go.ChangeAt Go.RowKit Go.Deep Go.Joins
set_option linter.unusedVariables false

theorem own : ownKnob Tryd.prog.godebug = none := by kernel_rfl
theorem laidOut : laidOutB Tryd.prog = true := by kernel_rfl
theorem gv0 : Tryd.prog.globalNamed "loop.example/tether/impl.errNoEvent" = some 0 := by kernel_rfl
theorem gv1 : Tryd.prog.globalNamed "loop.example/tether/impl.errUnfit" = some 1 := by kernel_rfl
theorem gv2 : Tryd.prog.globalNamed "loop.example/tether/impl.errBound" = some 2 := by kernel_rfl
theorem gt0 : (Tryd.prog.globals[0]?).map (·.type) = some 82 := by kernel_rfl
theorem gt1 : (Tryd.prog.globals[1]?).map (·.type) = some 82 := by kernel_rfl
theorem gt2 : (Tryd.prog.globals[2]?).map (·.type) = some 82 := by kernel_rfl
theorem star : "*" ++ "errors.errorString" = "*errors.errorString" := by decide
theorem rowE (u : TypeId) (h : Tryd.prog.typeName? 3 u = some "*errors.errorString") : u = 231 :=
  typeName_ptr_named (nm := "errors.errorString") (by rw [star]; kernel_rfl) (by kernel_rfl) (by decide) u (by rw [star]; exact h)
theorem cE : Tryd.prog.cellsOf 255 = 1 := by kernel_rfl
theorem cS : Tryd.prog.cellsOf 9 = 1 := by kernel_rfl

set_option maxRecDepth 100000 in
/-- What the condition gives the walk: the three errors. -/
theorem of_laid {W : World} (h : laidMetH Tryd.prog Rows.fnSpoiltRow.laid W) : ∃ a0 a1 a2, Errs W a0 a1 a2 := by
  rw [MakeChecks.laidMetH_plain _ _ _ (by kernel_rfl)] at h
  obtain ⟨ps, ⟨x0, y0, cs0, f0, p0, q0, hg0, ht0, hv0, hd0, ⟨x1, y1, cs1, f1, p1, q1, hg1, ht1, hv1, hd1, ⟨x2, y2, cs2, f2, p2, q2, hg2, ht2, hv2, hd2, _, e2⟩, e1⟩, e0⟩, hnd, hrows⟩ := h
  obtain rfl := Option.some.inj (gv0.symm.trans hg0)
  obtain rfl := Option.some.inj (gv1.symm.trans hg1)
  obtain rfl := Option.some.inj (gv2.symm.trans hg2)
  obtain rfl := Option.some.inj (gt0.symm.trans ht0)
  obtain rfl := Option.some.inj (gt1.symm.trans ht1)
  obtain rfl := Option.some.inj (gt2.symm.trans ht2)
  subst e2
  subst e1
  subst e0
  obtain ⟨l0⟩ := cs0
  obtain ⟨l1⟩ := cs1
  obtain ⟨l2⟩ := cs2
  have ok0 : ∀ u v, l0 = [.iface u v] → Value.okWide Tryd.prog W .any 0 u v := fun u v e => by
    subst e
    exact (hrows 0 0 (by simp [MemPlace.row])).2 u v (by simpa using World.var?_cell hg0 hv0 0)
  have ok1 : ∀ u v, l1 = [.iface u v] → Value.okWide Tryd.prog W .any 0 u v := fun u v e => by
    subst e
    exact (hrows 1 0 (by simp [MemPlace.row])).2 u v (by simpa using World.var?_cell hg1 hv1 0)
  have ok2 : ∀ u v, l2 = [.iface u v] → Value.okWide Tryd.prog W .any 0 u v := fun u v e => by
    subst e
    exact (hrows 2 0 (by simp [MemPlace.row])).2 u v (by simpa using World.var?_cell hg2 hv2 0)
  obtain ⟨a0, s0, rfl, hc0, hs0, hz0, rfl⟩ := errorString_of_trod Tryd.underlying82 rowE Tryd.underlying231 Tryd.underlying255 rfl rfl Tryd.underlying9 cE cS hd0 ok0
  obtain ⟨a1, s1, rfl, hc1, hs1, hz1, rfl⟩ := errorString_of_trod Tryd.underlying82 rowE Tryd.underlying231 Tryd.underlying255 rfl rfl Tryd.underlying9 cE cS hd1 ok1
  obtain ⟨a2, s2, rfl, hc2, hs2, hz2, rfl⟩ := errorString_of_trod Tryd.underlying82 rowE Tryd.underlying231 Tryd.underlying255 rfl rfl Tryd.underlying9 cE cS hd2 ok2
  obtain ⟨c0, t0, hb0⟩ := (hrows a0.block a0.off (by simp [MemPlace.row])).1
  obtain ⟨c1, t1, hb1⟩ := (hrows a1.block a1.off (by simp [MemPlace.row])).1
  obtain ⟨c2, t2, hb2⟩ := (hrows a2.block a2.off (by simp [MemPlace.row])).1
  refine ⟨a0, a1, a2, by simpa using World.var?_cell gv0 hv0 0, by simpa using World.var?_cell gv1 hv1 0, by simpa using World.var?_cell gv2 hv2 0, ⟨_, _, hb0⟩, ⟨_, _, hb1⟩, ⟨_, _, hb2⟩, ?_, ?_, ?_⟩
  · rintro rfl
    simp [MemPlace.row] at hnd
  · rintro rfl
    simp [MemPlace.row] at hnd
  · rintro rfl
    simp [MemPlace.row] at hnd

theorem add_none {w : World} {a : Addr} {i : Nat} {v : Value} (h : w.cell? (a.add i) = some v) (hs : a.spot = none) : w.cell? ⟨a.block, a.off + i, none⟩ = some v := by
  obtain ⟨b, o, s⟩ := a
  simp only at hs
  subst hs
  rw [Addr.add_lit] at h
  exact h

set_option maxRecDepth 100000 in
theorem read_bytes {H : Type} {enc : TypeId × Value → H} {w : World} {held : Bool} {fuel : Nat} {v : Value} {y : DataW H × List MemPlace} (h : DataW.trod enc Tryd.prog w 0 (fun _ => true) held fuel 22 [v] = some y) : BysLow w v w.heap.size := by
  rcases open_slice1 Tryd.underlying22 (by kernel_rfl) h with ⟨hcs, _⟩ | ⟨a, len, cap, m, n, V, D, Pl, hcs, _, hlc, hcm, hm, _, hx⟩
  · simp only [List.cons.injEq, and_true] at hcs
    subst hcs
    exact ⟨none, 0, 0, rfl, Nat.le_refl _, Nat.zero_le _, Or.inl rfl⟩
  · simp only [List.cons.injEq, and_true] at hcs
    subst hcs
    simp only [if_true] at hm
    subst hm
    refine ⟨a, len, m, rfl, hlc, hcm, ?_⟩
    by_cases e : len = 0
    · exact Or.inl e
    · have h0 := (hx 0 (by omega)).1
      have hs : a.spot = none := by
        have := World.cell?_spot h0
        simpa [Addr.add] using this
      have hlt : a.block < w.heap.size := by have := World.block_lt_of_cell? w ⟨a.block, a.off + 0, none⟩ (add_none h0 hs); exact this
      refine Or.inr ⟨a.block, a.off, by obtain ⟨b, o, s⟩ := a; simp only at hs; rw [hs], hlt, hlt, fun i hi => ?_⟩
      obtain ⟨q, hq, _, hw⟩ := DataW.trod_int Tryd.underlying5 (hx i (by omega)).2
      simp only [List.cons.injEq, and_true] at hq
      have hb : 0 ≤ q ∧ q < 256 := by
        simp only [Lit.wf, Bool.and_eq_true, decide_eq_true_eq] at hw
        have e1 : IntKind.min .u8 = 0 := by decide
        have e2 : IntKind.max .u8 = 255 := by decide
        rw [e1, e2] at hw
        omega
      refine ⟨q.toNat, by omega, ?_⟩
      rw [add_none (hx i (by omega)).1 hs, hq, Int.toNat_of_nonneg hb.1]

/-- The door's own heap meets the condition. -/
theorem door_met (os : Os) (args : Array Value) : laidMetH Tryd.prog Rows.fnSpoiltRow.laid ((World.doorLaid Tryd.prog 400 os).forCall (fun _ _ => 0) ⟨#[], args, []⟩).memory :=
  laidMetH_of_parts3 (fuel := 8) (laidMet_of_run' 8 (by kernel_rfl) (by kernel_rfl)) (by kernel_rfl) (by kernel_rfl)

set_option maxRecDepth 100000 in
theorem lifted (os : Os) (started : os.Started) (H : Type) (enc : TypeId × Value → H) :
    ReturnsInHanded {} Tryd.checked os 7 .any (fun w args => (Rows.fnSpoiltSpec.pre enc Tryd.prog Tryd.f7 [] false w args ∧ laidMetH Tryd.prog Rows.fnSpoiltRow.laid w) ∧ sizedMet enc Tryd.prog Tryd.f7 (OpenSpec.ofChange Rows.fnSpoiltSpec) false w args)
      (Rows.fnSpoiltSpec.post enc Tryd.prog Tryd.f7 false true false false) := by
  refine returnsInHanded_of_change_and (C := Tryd.checked) (X := fun w _ => laidMetH Tryd.prog Rows.fnSpoiltRow.laid w) (fun _ _ _ hh h => h.of_heap hh) own started (by kernel_rfl) Tryd.func7
    (ChangeSpec.witness_shaped (enc := enc) (C := Tryd.checked) (os := os) (X := fun w _ => laidMetH Tryd.prog Rows.fnSpoiltRow.laid w) false (World.doorLaid Tryd.prog 400 os) #[.slice none 0 0] 8 rfl (World.shaped_of_RefB (by kernel_rfl) (by kernel_rfl)) (by kernel_rfl) (by kernel_rfl) (by kernel_rfl) (door_met os _)) ?_
  intro W base args ds gs before hval0 hW _ _ hL _
  have hval : ∀ (j : Nat) t v, Tryd.f7.params[j]? = some t → args[j]? = some v → Value.okWide Tryd.prog W .any base t v := hval0
  have hW' := hW
  obtain ⟨p, q, hA0, hV0, rfl, hfz, hnd⟩ := hW
  have hA : DataW.TrodAll enc Tryd.prog W 0 (fun _ => true) true Tryd.f7.params.toList args.toList ds p := hA0
  have hV : DataW.TrodVars enc Tryd.prog W (fun _ => true) ["loop.example/tether/impl.errNoEvent", "loop.example/tether/impl.errUnfit", "loop.example/tether/impl.errBound"] gs q := hV0
  rw [Tryd.params7] at hA hval
  obtain ⟨v0, vs0, d0, ds0, p0, q0, hargs, rfl, rfl, h0, r0⟩ := trodAll_cons hA
  obtain ⟨rfl, rfl, rfl⟩ := trodAll_nil r0
  obtain rfl : args = #[v0] := by cases args; simp_all
  have hB : BysLow W v0 W.heap.size := by
    obtain ⟨m, hm⟩ := h0
    obtain ⟨b1, b2, b3, rfl⟩ := okWide_slice Tryd.underlying22 (hval 0 22 v0 rfl rfl)
    exact read_bytes hm
  have lt0 : ∀ x ∈ p0, x.block < W.heap.size := by obtain ⟨m, hm⟩ := h0; exact DataW.trod_lt m _ _ _ hm
  obtain ⟨a0, a1, a2, hE⟩ := of_laid hL
  clear hA0 hV0 hval0
  obtain ⟨x, y, z, rfl⟩ : ∃ x y z, gs = [x, y, z] := by
    cases gs with
    | nil => exact hV.elim
    | cons x gs =>
      obtain ⟨_, _, _, _, _, _, _, _, _, _, h1, _⟩ := hV
      cases gs with
      | nil => exact h1.elim
      | cons y gs =>
        obtain ⟨_, _, _, _, _, _, _, _, _, _, h2, _⟩ := h1
        cases gs with
        | nil => exact h2.elim
        | cons z gs =>
          obtain ⟨_, _, _, _, _, _, _, _, _, _, h3, _⟩ := h2
          cases gs with
          | nil => exact ⟨x, y, z, rfl⟩
          | cons _ _ => exact h3.elim
  refine (spoilt_walk v0 W a0 a1 a2 hB hE).mono fun e' W' ⟨he, bel⟩ => ?_
  subst he
  exact ⟨_, rfl, _, _, _, [], _, q, hW', trodAll_mk1 (shut_bool Tryd.underlying4 _), trodAll_cons_mk (Below.trod laidOut (by kernel_rfl) (of_decide_eq_true (by kernel_rfl)) h0 bel lt0) trodAll_mk0, Below.trodVars laidOut bel (by kernel_rfl) hV, bel.frame _, fun h => by cases h⟩

theorem row : Rows.fnSpoiltRow.holds Tryd.pinned (OpenSpec.ofChange Rows.fnSpoiltSpec) :=
  OpenClaim.holds_of_wide 7 Tryd.f7 rfl rfl rfl rfl rfl rfl rfl ⟨rfl, rfl, rfl, rfl, rfl⟩ rfl rfl rfl rfl rfl (by kernel_rfl) Tryd.func7 (by kernel_rfl)
    (of_decide_eq_true (by kernel_rfl)) (by unfold Func.isWrapper; first | (rw [if_pos (by decide +kernel)]; kernel_rfl) | (rw [if_neg (by decide +kernel)]; exact ⟨rfl, rfl⟩))
    (fun os started H enc _ => lifted os started H enc)

theorem looked (f : FuncId) (fn : Func) (hf : Tryd.pinned.checked.prog.funcNamed Rows.fnSpoiltRow.func = some f) (hfn : Tryd.pinned.checked.prog.funcs[f]? = some fn) :
    Rows.fnSpoiltCard.stood.looks = Tryd.pinned.checked.prog.looks [] ∧ ∀ (j : Nat) t, fn.params[j]? = some t → Tryd.pinned.checked.prog.wantsStandIn t = false := by
  obtain rfl : f = 7 := Option.some.inj ((show Tryd.prog.funcNamed "loop.example/tether/laws.FnSpoilt" = some 7 by kernel_rfl).symm.trans hf) |>.symm
  obtain rfl : fn = Tryd.f7 := (Option.some.inj (Tryd.func7.symm.trans hfn)).symm
  exact ⟨by kernel_rfl, fun j t ht => by
    rw [Tryd.params7] at ht
    have h3 : t = 22 := by
      rcases j with _ | j
      · simpa using ht.symm
      · simp at ht
    subst h3
    exact (show Tryd.prog.wantsStandIn 22 = false by kernel_rfl)⟩

theorem card : Rows.FnSpoiltCardSaid := by
  refine ⟨?_, ?_, ?_, ?_, ?_⟩
  · exact Claim7.tied_new_at .later [.sentinel, .sentinel, .sentinel] true (Claim7.new_of_sixth row Rows.fnSpoiltCard.stood.harness true rfl ⟨rfl, rfl⟩ (by kernel_rfl) (by kernel_rfl) looked) (by kernel_rfl)
  · intro D hD
    exact absurd hD (by simp [Rows.fnSpoiltCard])
  · exact fnSpoilt_row_tie
  · intro h
    exact absurd h (by simp [Rows.fnSpoiltCard])
  · kernel_rfl

end FnSpoiltProof

theorem fnSpoilt_holds : Rows.FnSpoiltCardSaid := FnSpoiltProof.card
#print axioms fnSpoilt_holds
end Go.Proofs.YtnaaheddhgpnoaaDoor
