import Derived.Test.YtnaaheddhgpnoaaBookOk
import Derived.Test.YtnaaheddhgpnoaaBookSp
namespace Go.Proofs.Ytnaaheddhgpnoaa
open Go.ChangeShapes Go.WideShapes Go.ChangeAt Go.RowKit

set_option maxHeartbeats 1000000 in
theorem specReach_any (k : Bk) (v : Value) (bs : List Nat) (t : Int) (w : World) (h : BkAt w v k bs) :
    Calls Try.prog 19 #[v, .int .i64 t] w fun e w' => RetReach e k t ∧ Below w.heap.size w w' := by
  have hK := h
  obtain ⟨vl, rfl, hLs⟩ := h
  obtain ⟨a, ca, rfl, hca, hcm, h⟩ := hLs
  unfold maxLen at hcm
  have a1 : ∀ o, Below w.heap.size w (w.alloc o) := fun o => (Below.refl _ _).alloc (Nat.le_refl _) _
  have B0 := BlkIs.new w [.bool k.ok, .int .i64 k.sec, .slice a k.lns.length ca] 24
  have HNo : Hid (¬ (Right k ∧ 0 ≤ t ∧ t ≤ (k.lns.length : Int) - 1) → RetReach (.returned (.int .i64 (-1))) k t) := fun h => RetReach.no h
  have HIs : Hid (∀ i : Nat, Right k → i < k.lns.length → RetReach (.returned (.int .i64 (mostOf (k.lns[i]?.getD ln0).grs))) k i) := fun i h hi => RetReach.is h hi
  have hBO := fun W h => specBookOk_any k (.agg #[.bool k.ok, .int .i64 k.sec, .slice a k.lns.length ca]) bs W h
  generalize k.lns.length = n at *
  go_enter Try.func19, Try.ntmps19
  go_wp2_with fail
  refine (hBO _ (hK.below (a1 _) hK.lt)).mono ?_
  rintro e w1 ⟨⟨c, rfl, hc⟩, hb1⟩
  have hz := hc.zero
  have B1 := B0.below hb1 B0.lt
  have T1 := (a1 _).trans (hb1.mono (by simp))
  clear hBO B0 hb1 hc a1
  obtain ⟨x0, x1, x2⟩ := B1.three
  by_cases hc0 : c = 0
  · have HRt : Hid (Right k) := hz.1 hc0
    subst hc0
    clear hz
    by_cases ht : 0 ≤ t ∧ t ≤ (n : Int) - 1
    · obtain ⟨ht1, ht2⟩ := ht
      obtain ⟨j, rfl⟩ := Int.eq_ofNat_of_zero_le ht1
      have hlt : j < n := by omega
      rcases h with ⟨h00, _⟩ | ⟨b, o, E, rfl, _, hs, hc⟩
      · omega
      obtain ⟨vw, vg, p0, p1, p2, p3, hl⟩ := (hc j hlt).at
      have hl' := hl.below T1 hl.lt
      obtain ⟨_, _, _, _, hv, _, hiw, hgw⟩ := hl
      obtain ⟨sa1, sn1, sc1, rfl⟩ := hiw.slice
      obtain ⟨sa2, sn2, sc2, rfl⟩ := hgw.slice
      simp only [Value.agg.injEq, Array.mk.injEq, List.cons.injEq, and_true, true_and] at hv
      obtain ⟨rfl, rfl⟩ := hv
      have c0 := ((bcell T1).1 _ _ hs).trans p0
      have c1 := ((bcell T1).1 _ _ hs).trans p1
      have c2 := ((bcell T1).1 _ _ hs).trans p2
      have c3 := ((bcell T1).1 _ _ hs).trans p3
      have HF : Hid _ := HIs.out j HRt.out hlt
      have hjn : (j : Int) < (n : Int) := by omega
      clear hc p0 p1 p2 p3 hiw hgw
      generalize k.lns[j]?.getD ln0 = l at *
      go_wp2_with fail
      refine (l1in_yes (j : Int) 0 ((n : Int) - 1) _ ht1 ht2).mono ?_
      rintro e w2 ⟨rfl, rfl⟩
      go_wp2_with fail
      refine (l1most_any l _ _ _ hl').mono ?_
      rintro e w3 ⟨rfl, hb3⟩
      have T3 := T1.trans (hb3.mono T1.size)
      clear x0 x1 x2 c0 c1 c2 c3
      go_wp2
      go_ret
      exact ⟨HF.out, T3⟩
    · have HF : Hid _ := HNo.out (fun h => ht h.2)
      go_wp2_with fail
      refine (l1in_no t 0 ((n : Int) - 1) _ ht).mono ?_
      rintro e w2 ⟨rfl, rfl⟩
      go_wp2
      go_ret
      exact ⟨HF.out, T1⟩
  · have HF : Hid _ := HNo.out (fun h => hc0 (hz.2 h.1))
    have hc0' : (c != 0) = true := by simp [hc0]
    clear hz hc0
    go_wp2
    go_ret
    exact ⟨HF.out, T1⟩

set_option maxHeartbeats 1000000 in
theorem implReach_any (k : Bk) (v : Value) (bs : List Nat) (t : Int) (w : World) (h : BkAt w v k bs) :
    Calls Try.prog 20 #[v, .int .i64 t] w fun e w' => RetReach e k t ∧ Below w.heap.size w w' := by
  have hK := h
  obtain ⟨vl, rfl, hLs⟩ := h
  obtain ⟨a, ca, rfl, hca, hcm, h⟩ := hLs
  unfold maxLen at hcm
  have a1 : ∀ o, Below w.heap.size w (w.alloc o) := fun o => (Below.refl _ _).alloc (Nat.le_refl _) _
  have B0 := BlkIs.new w [.bool k.ok, .int .i64 k.sec, .slice a k.lns.length ca] 24
  have HNo : Hid (¬ (Right k ∧ 0 ≤ t ∧ t ≤ (k.lns.length : Int) - 1) → RetReach (.returned (.int .i64 (-1))) k t) := fun h => RetReach.no h
  have HIs : Hid (∀ i : Nat, Right k → i < k.lns.length → RetReach (.returned (.int .i64 (mostOf (k.lns[i]?.getD ln0).grs))) k i) := fun i h hi => RetReach.is h hi
  have hBO := fun W h => implBookOk_any k (.agg #[.bool k.ok, .int .i64 k.sec, .slice a k.lns.length ca]) bs W h
  generalize k.lns.length = n at *
  go_enter Try.func20, Try.ntmps20
  go_wp2_with fail
  refine (hBO _ (hK.below (a1 _) hK.lt)).mono ?_
  rintro e w1 ⟨⟨c, rfl, hc⟩, hb1⟩
  have hz := hc.zero
  have B1 := B0.below hb1 B0.lt
  have T1 := (a1 _).trans (hb1.mono (by simp))
  clear hBO B0 hb1 hc a1
  obtain ⟨x0, x1, x2⟩ := B1.three
  by_cases hc0 : c = 0
  · have HRt : Hid (Right k) := hz.1 hc0
    subst hc0
    clear hz
    by_cases ht : 0 ≤ t ∧ t ≤ (n : Int) - 1
    · obtain ⟨ht1, ht2⟩ := ht
      obtain ⟨j, rfl⟩ := Int.eq_ofNat_of_zero_le ht1
      have hlt : j < n := by omega
      rcases h with ⟨h00, _⟩ | ⟨b, o, E, rfl, _, hs, hc⟩
      · omega
      obtain ⟨vw, vg, p0, p1, p2, p3, hl⟩ := (hc j hlt).at
      have hl' := hl.below T1 hl.lt
      obtain ⟨_, _, _, _, hv, _, hiw, hgw⟩ := hl
      obtain ⟨sa1, sn1, sc1, rfl⟩ := hiw.slice
      obtain ⟨sa2, sn2, sc2, rfl⟩ := hgw.slice
      simp only [Value.agg.injEq, Array.mk.injEq, List.cons.injEq, and_true, true_and] at hv
      obtain ⟨rfl, rfl⟩ := hv
      have c0 := ((bcell T1).1 _ _ hs).trans p0
      have c1 := ((bcell T1).1 _ _ hs).trans p1
      have c2 := ((bcell T1).1 _ _ hs).trans p2
      have c3 := ((bcell T1).1 _ _ hs).trans p3
      have HF : Hid _ := HIs.out j HRt.out hlt
      have hjn : (j : Int) < (n : Int) := by omega
      clear hc p0 p1 p2 p3 hiw hgw
      generalize k.lns[j]?.getD ln0 = l at *
      go_wp2_with fail
      refine (within_yes (j : Int) 0 ((n : Int) - 1) _ ht1 ht2).mono ?_
      rintro e w2 ⟨rfl, rfl⟩
      go_wp2_with fail
      refine (reach_any l _ _ _ hl').mono ?_
      rintro e w3 ⟨rfl, hb3⟩
      have T3 := T1.trans (hb3.mono T1.size)
      clear x0 x1 x2 c0 c1 c2 c3
      go_wp2
      go_ret
      exact ⟨HF.out, T3⟩
    · have HF : Hid _ := HNo.out (fun h => ht h.2)
      go_wp2_with fail
      refine (within_no t 0 ((n : Int) - 1) _ ht).mono ?_
      rintro e w2 ⟨rfl, rfl⟩
      go_wp2
      go_ret
      exact ⟨HF.out, T1⟩
  · have HF : Hid _ := HNo.out (fun h => hc0 (hz.2 h.1))
    have hc0' : (c != 0) = true := by simp [hc0]
    clear hz hc0
    go_wp2
    go_ret
    exact ⟨HF.out, T1⟩

end Go.Proofs.Ytnaaheddhgpnoaa
