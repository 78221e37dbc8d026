import Derived.Test.YtnaaheddhgpnoaaDoorEq
import Derived.Test.YtnaaheddhgpnoaaDoorBookSp
import Derived.Test.YtnaaheddhgpnoaaDoorBookOk
import Derived.Test.YtnaaheddhgpnoaaDoorDoD
namespace Go.Proofs.YtnaaheddhgpnoaaDoor
open Go.ChangeShapes Go.WideShapes Go.ChangeAt Go.RowKit

set_option maxHeartbeats 400000 in
theorem toEvent_any (e : Ev) (w : World) :
    Calls Tryd.prog 28 #[.agg #[.int .i64 e.op, .int .i64 e.train, .int .i64 e.n]] w fun r w' => r = .returned (.agg #[.int .i64 e.op, .int .i64 e.train, .int .i64 e.n]) ∧ Below w.heap.size w w' := by
  go_enter Tryd.func28, Tryd.ntmps28
  go_wp2
  exact bodyPost_ret (v := .agg #[.int .i64 e.op, .int .i64 e.train, .int .i64 e.n]) (by simp [results, Tryd.results28, go_sem]) rfl ⟨rfl, by repeat (first | exact Below.refl _ _ | refine Below.setCell ?_ (by simp <;> omega) _ | refine Below.alloc ?_ (by simp <;> omega) _)⟩

set_option maxHeartbeats 1000000 in
theorem specEventOk_any (k : Bk) (e : Ev) (v : Value) (bs : List Nat) (w : World) (h : BkAt w v k bs) :
    Calls Tryd.prog 59 #[v, .agg #[.int .i64 e.op, .int .i64 e.train, .int .i64 e.n]] w fun r w' => RetB r (EvOk k e) ∧ Below w.heap.size w w' := by
  have hK := h
  obtain ⟨vl, rfl, hLs⟩ := h
  obtain ⟨a, ca, rfl, hca, hcm, h⟩ := hLs
  unfold maxLen at hcm
  have hR : Hid (EvOk k e → Right k ∧ (0 ≤ e.train ∧ e.train ≤ (k.lns.length : Int) - 1) ∧ (1 ≤ e.op ∧ e.op ≤ 5) ∧ 0 ≤ e.n ∧ (e.op = 1 → e.n ≤ k.sec - 1) ∧ (e.op ≠ 1 → e.n ≤ 1000000)) := fun h => ⟨h.right, ⟨h.t0, h.t1⟩, ⟨h.o0, h.o1⟩, h.n0, h.add, h.rest⟩
  have hM : Hid (Right k → (0 ≤ e.train ∧ e.train ≤ (k.lns.length : Int) - 1) → (1 ≤ e.op ∧ e.op ≤ 5) → 0 ≤ e.n → (e.op = 1 → e.n ≤ k.sec - 1) → (e.op ≠ 1 → e.n ≤ 1000000) → EvOk k e) := fun a b c d f g => ⟨a, b.1, b.2, c.1, c.2, d, f, g⟩
  have HS : Hid (Right k → 1 ≤ k.sec ∧ k.sec ≤ 200) := fun h => ⟨h.frame.lo, h.frame.hi⟩
  have hBO := fun W h => specBookOk_any k (.agg #[.bool k.ok, .int .i64 k.sec, .slice a k.lns.length ca]) bs W h
  have eB : BlkIs ((w.alloc (.cells #[.bool k.ok, .int .i64 k.sec, .slice a k.lns.length ca] 32)).alloc (.cells #[.int .i64 e.op, .int .i64 e.train, .int .i64 e.n] 46)) w.heap.size [.bool k.ok, .int .i64 k.sec, .slice a k.lns.length ca] 32 := (BlkIs.new _ _ _).alloc _
  have eE : BlkIs ((w.alloc (.cells #[.bool k.ok, .int .i64 k.sec, .slice a k.lns.length ca] 32)).alloc (.cells #[.int .i64 e.op, .int .i64 e.train, .int .i64 e.n] 46)) (w.heap.size + 1) [.int .i64 e.op, .int .i64 e.train, .int .i64 e.n] 46 := by
    have := BlkIs.new (w.alloc (.cells #[.bool k.ok, .int .i64 k.sec, .slice a k.lns.length ca] 32)) [.int .i64 e.op, .int .i64 e.train, .int .i64 e.n] 46
    rwa [World.size_alloc] at this
  have eW : Below w.heap.size w ((w.alloc (.cells #[.bool k.ok, .int .i64 k.sec, .slice a k.lns.length ca] 32)).alloc (.cells #[.int .i64 e.op, .int .i64 e.train, .int .i64 e.n] 46)) := alloc2 w _ _
  generalize k.lns.length = n at *
  go_enter Tryd.func59, Tryd.ntmps59
  go_wp2_with fail
  generalize (w.alloc (.cells #[.bool k.ok, .int .i64 k.sec, .slice a n ca] 32)).alloc (.cells #[.int .i64 e.op, .int .i64 e.train, .int .i64 e.n] 46) = W at *
  refine (hBO _ (hK.below eW hK.lt)).mono ?_
  rintro r w1 ⟨⟨c, rfl, hc⟩, hb1⟩
  have hz := hc.zero
  have B1 := eB.below hb1 eB.lt
  have E1 := eE.below hb1 eE.lt
  have T1 := eW.trans (hb1.mono eW.size)
  clear hBO hb1 hc eB eE eW
  obtain ⟨x0, x1, x2⟩ := B1.three
  obtain ⟨y0, y1, y2⟩ := E1.three
  by_cases hc0 : c = 0
  · have HRt : Hid (Right k) := hz.1 hc0
    subst hc0
    clear hz
    obtain ⟨s1, s2⟩ := HS.out HRt.out
    by_cases ht : 0 ≤ e.train ∧ e.train ≤ (n : Int) - 1
    · go_wp2_with fail
      refine (l1in_yes e.train 0 ((n : Int) - 1) _ ht.1 ht.2).mono ?_
      rintro r w2 ⟨rfl, rfl⟩
      by_cases ho : 1 ≤ e.op ∧ e.op ≤ 5
      · go_wp2_with fail
        refine (l1in_yes e.op 1 5 _ ho.1 ho.2).mono ?_
        rintro r w2 ⟨rfl, rfl⟩
        by_cases h1 : e.op = 1
        · have h1' : (e.op == 1) = true := by simp [h1]
          by_cases hn : 0 ≤ e.n ∧ e.n ≤ k.sec - 1
          · have HF : Hid (EvOk k e) := hM.out HRt.out ht ho hn.1 (fun _ => hn.2) (fun h => absurd h1 h)
            clear h1
            go_wp2_with fail
            refine (l1in_yes e.n 0 (k.sec - 1) _ hn.1 hn.2).mono ?_
            rintro r w2 ⟨rfl, rfl⟩
            go_wp2
            go_ret
            exact ⟨RetB.yes HF.out, T1⟩
          · have HF : Hid (¬ EvOk k e) := fun h => hn ⟨(hR.out h).2.2.2.1, (hR.out h).2.2.2.2.1 h1⟩
            clear h1
            go_wp2_with fail
            refine (l1in_no e.n 0 (k.sec - 1) _ hn).mono ?_
            rintro r w2 ⟨rfl, rfl⟩
            go_wp2
            go_ret
            exact ⟨RetB.no HF.out, T1⟩
        · have h1' : (e.op == 1) = false := by simp [h1]
          by_cases hn : 0 ≤ e.n ∧ e.n ≤ 1000000
          · have HF : Hid (EvOk k e) := hM.out HRt.out ht ho hn.1 (fun h => absurd h h1) (fun _ => hn.2)
            clear h1
            go_wp2_with fail
            refine (l1in_yes e.n 0 1000000 _ hn.1 hn.2).mono ?_
            rintro r w2 ⟨rfl, rfl⟩
            go_wp2
            go_ret
            exact ⟨RetB.yes HF.out, T1⟩
          · have HF : Hid (¬ EvOk k e) := fun h => hn ⟨(hR.out h).2.2.2.1, (hR.out h).2.2.2.2.2 h1⟩
            clear h1
            go_wp2_with fail
            refine (l1in_no e.n 0 1000000 _ hn).mono ?_
            rintro r w2 ⟨rfl, rfl⟩
            go_wp2
            go_ret
            exact ⟨RetB.no HF.out, T1⟩
      · have HF : Hid (¬ EvOk k e) := fun h => ho (hR.out h).2.2.1
        go_wp2_with fail
        refine (l1in_no e.op 1 5 _ ho).mono ?_
        rintro r w2 ⟨rfl, rfl⟩
        go_wp2
        go_ret
        exact ⟨RetB.no HF.out, T1⟩
    · have HF : Hid (¬ EvOk k e) := fun h => ht (hR.out h).2.1
      go_wp2_with fail
      refine (l1in_no e.train 0 ((n : Int) - 1) _ ht).mono ?_
      rintro r w2 ⟨rfl, rfl⟩
      go_wp2
      go_ret
      exact ⟨RetB.no HF.out, T1⟩
  · have HF : Hid (¬ EvOk k e) := fun h => hc0 (hz.2 (hR.out h).1)
    have hc0' : (c != 0) = true := by simp [hc0]
    clear hz hc0
    go_wp2
    go_ret
    exact ⟨RetB.no HF.out, T1⟩

set_option maxHeartbeats 1000000 in
theorem implEventOk_any (k : Bk) (e : Ev) (v : Value) (bs : List Nat) (w : World) (h : BkAt w v k bs) :
    Calls Tryd.prog 24 #[v, .agg #[.int .i64 e.op, .int .i64 e.train, .int .i64 e.n]] w fun r w' => RetB r (EvOk k e) ∧ Below w.heap.size w w' := by
  have hK := h
  obtain ⟨vl, rfl, hLs⟩ := h
  obtain ⟨a, ca, rfl, hca, hcm, h⟩ := hLs
  unfold maxLen at hcm
  have hR : Hid (EvOk k e → Right k ∧ (0 ≤ e.train ∧ e.train ≤ (k.lns.length : Int) - 1) ∧ (1 ≤ e.op ∧ e.op ≤ 5) ∧ 0 ≤ e.n ∧ (e.op = 1 → e.n ≤ k.sec - 1) ∧ (e.op ≠ 1 → e.n ≤ 1000000)) := fun h => ⟨h.right, ⟨h.t0, h.t1⟩, ⟨h.o0, h.o1⟩, h.n0, h.add, h.rest⟩
  have hM : Hid (Right k → (0 ≤ e.train ∧ e.train ≤ (k.lns.length : Int) - 1) → (1 ≤ e.op ∧ e.op ≤ 5) → 0 ≤ e.n → (e.op = 1 → e.n ≤ k.sec - 1) → (e.op ≠ 1 → e.n ≤ 1000000) → EvOk k e) := fun a b c d f g => ⟨a, b.1, b.2, c.1, c.2, d, f, g⟩
  have HS : Hid (Right k → 1 ≤ k.sec ∧ k.sec ≤ 200) := fun h => ⟨h.frame.lo, h.frame.hi⟩
  have hBO := fun W h => implBookOk_any k (.agg #[.bool k.ok, .int .i64 k.sec, .slice a k.lns.length ca]) bs W h
  have eB : BlkIs ((w.alloc (.cells #[.bool k.ok, .int .i64 k.sec, .slice a k.lns.length ca] 32)).alloc (.cells #[.int .i64 e.op, .int .i64 e.train, .int .i64 e.n] 46)) w.heap.size [.bool k.ok, .int .i64 k.sec, .slice a k.lns.length ca] 32 := (BlkIs.new _ _ _).alloc _
  have eE : BlkIs ((w.alloc (.cells #[.bool k.ok, .int .i64 k.sec, .slice a k.lns.length ca] 32)).alloc (.cells #[.int .i64 e.op, .int .i64 e.train, .int .i64 e.n] 46)) (w.heap.size + 1) [.int .i64 e.op, .int .i64 e.train, .int .i64 e.n] 46 := by
    have := BlkIs.new (w.alloc (.cells #[.bool k.ok, .int .i64 k.sec, .slice a k.lns.length ca] 32)) [.int .i64 e.op, .int .i64 e.train, .int .i64 e.n] 46
    rwa [World.size_alloc] at this
  have eW : Below w.heap.size w ((w.alloc (.cells #[.bool k.ok, .int .i64 k.sec, .slice a k.lns.length ca] 32)).alloc (.cells #[.int .i64 e.op, .int .i64 e.train, .int .i64 e.n] 46)) := alloc2 w _ _
  generalize k.lns.length = n at *
  by_cases h1 : e.op = 1
  · have h1' : (e.op == 1) = true := by simp [h1]
    have H1 : Hid (e.op = 1) := h1
    clear h1
    go_enter Tryd.func24, Tryd.ntmps24
    go_wp2_with fail
    generalize (w.alloc (.cells #[.bool k.ok, .int .i64 k.sec, .slice a n ca] 32)).alloc (.cells #[.int .i64 e.op, .int .i64 e.train, .int .i64 e.n] 46) = W at *
    refine (hBO _ (hK.below eW hK.lt)).mono ?_
    rintro r w1 ⟨⟨c, rfl, hc⟩, hb1⟩
    have hz := hc.zero
    have B1 := eB.below hb1 eB.lt
    have E1 := eE.below hb1 eE.lt
    have T1 := eW.trans (hb1.mono eW.size)
    clear hBO hb1 hc eB eE eW
    obtain ⟨x0, x1, x2⟩ := B1.three
    obtain ⟨y0, y1, y2⟩ := E1.three
    by_cases hc0 : c = 0
    · have HRt : Hid (Right k) := hz.1 hc0
      subst hc0
      clear hz
      obtain ⟨s1, s2⟩ := HS.out HRt.out
      have hwr : wrap64 (k.sec - 1) = k.sec - 1 := by unfold RowKit.wrap64; omega
      rw [hwr]
      clear hwr
      by_cases ho : 1 ≤ e.op ∧ e.op ≤ 5
      · go_wp2_with fail
        refine (within_yes e.op 1 5 _ ho.1 ho.2).mono ?_
        rintro r w2 ⟨rfl, rfl⟩
        by_cases ht : 0 ≤ e.train ∧ e.train ≤ (n : Int) - 1
        · go_wp2_with fail
          refine (within_yes e.train 0 ((n : Int) - 1) _ ht.1 ht.2).mono ?_
          rintro r w2 ⟨rfl, rfl⟩
          by_cases hn : 0 ≤ e.n ∧ e.n ≤ (k.sec - 1)
          · have HF : Hid (EvOk k e) := hM.out HRt.out ht ho hn.1 (fun _ => hn.2) (fun h => absurd H1.out h)
            go_wp2_with fail
            refine (within_yes e.n 0 (k.sec - 1) _ hn.1 hn.2).mono ?_
            rintro r w2 ⟨rfl, rfl⟩
            go_wp2
            go_ret
            exact ⟨RetB.yes HF.out, T1⟩
          · have HF : Hid (¬ EvOk k e) := fun h => hn ⟨(hR.out h).2.2.2.1, (hR.out h).2.2.2.2.1 H1.out⟩
            go_wp2_with fail
            refine (within_no e.n 0 (k.sec - 1) _ hn).mono ?_
            rintro r w2 ⟨rfl, rfl⟩
            go_wp2
            go_ret
            exact ⟨RetB.no HF.out, T1⟩
        · have HF : Hid (¬ EvOk k e) := fun h => ht (hR.out h).2.1
          go_wp2_with fail
          refine (within_no e.train 0 ((n : Int) - 1) _ ht).mono ?_
          rintro r w2 ⟨rfl, rfl⟩
          go_wp2
          go_ret
          exact ⟨RetB.no HF.out, T1⟩
      · have HF : Hid (¬ EvOk k e) := fun h => ho (hR.out h).2.2.1
        go_wp2_with fail
        refine (within_no e.op 1 5 _ ho).mono ?_
        rintro r w2 ⟨rfl, rfl⟩
        go_wp2
        go_ret
        exact ⟨RetB.no HF.out, T1⟩
    · have HF : Hid (¬ EvOk k e) := fun h => hc0 (hz.2 (hR.out h).1)
      have hc0' : (c == 0) = false := by simp [hc0]
      clear hz hc0
      go_wp2
      go_ret
      exact ⟨RetB.no HF.out, T1⟩
  · have h1' : (e.op == 1) = false := by simp [h1]
    have H1 : Hid (¬ e.op = 1) := h1
    clear h1
    go_enter Tryd.func24, Tryd.ntmps24
    go_wp2_with fail
    generalize (w.alloc (.cells #[.bool k.ok, .int .i64 k.sec, .slice a n ca] 32)).alloc (.cells #[.int .i64 e.op, .int .i64 e.train, .int .i64 e.n] 46) = W at *
    refine (hBO _ (hK.below eW hK.lt)).mono ?_
    rintro r w1 ⟨⟨c, rfl, hc⟩, hb1⟩
    have hz := hc.zero
    have B1 := eB.below hb1 eB.lt
    have E1 := eE.below hb1 eE.lt
    have T1 := eW.trans (hb1.mono eW.size)
    clear hBO hb1 hc eB eE eW
    obtain ⟨x0, x1, x2⟩ := B1.three
    obtain ⟨y0, y1, y2⟩ := E1.three
    by_cases hc0 : c = 0
    · have HRt : Hid (Right k) := hz.1 hc0
      subst hc0
      clear hz
      obtain ⟨s1, s2⟩ := HS.out HRt.out
      by_cases ho : 1 ≤ e.op ∧ e.op ≤ 5
      · go_wp2_with fail
        refine (within_yes e.op 1 5 _ ho.1 ho.2).mono ?_
        rintro r w2 ⟨rfl, rfl⟩
        by_cases ht : 0 ≤ e.train ∧ e.train ≤ (n : Int) - 1
        · go_wp2_with fail
          refine (within_yes e.train 0 ((n : Int) - 1) _ ht.1 ht.2).mono ?_
          rintro r w2 ⟨rfl, rfl⟩
          by_cases hn : 0 ≤ e.n ∧ e.n ≤ 1000000
          · have HF : Hid (EvOk k e) := hM.out HRt.out ht ho hn.1 (fun h => absurd h H1.out) (fun _ => hn.2)
            go_wp2_with fail
            refine (within_yes e.n 0 1000000 _ hn.1 hn.2).mono ?_
            rintro r w2 ⟨rfl, rfl⟩
            go_wp2
            go_ret
            exact ⟨RetB.yes HF.out, T1⟩
          · have HF : Hid (¬ EvOk k e) := fun h => hn ⟨(hR.out h).2.2.2.1, (hR.out h).2.2.2.2.2 H1.out⟩
            go_wp2_with fail
            refine (within_no e.n 0 1000000 _ hn).mono ?_
            rintro r w2 ⟨rfl, rfl⟩
            go_wp2
            go_ret
            exact ⟨RetB.no HF.out, T1⟩
        · have HF : Hid (¬ EvOk k e) := fun h => ht (hR.out h).2.1
          go_wp2_with fail
          refine (within_no e.train 0 ((n : Int) - 1) _ ht).mono ?_
          rintro r w2 ⟨rfl, rfl⟩
          go_wp2
          go_ret
          exact ⟨RetB.no HF.out, T1⟩
      · have HF : Hid (¬ EvOk k e) := fun h => ho (hR.out h).2.2.1
        go_wp2_with fail
        refine (within_no e.op 1 5 _ ho).mono ?_
        rintro r w2 ⟨rfl, rfl⟩
        go_wp2
        go_ret
        exact ⟨RetB.no HF.out, T1⟩
    · have HF : Hid (¬ EvOk k e) := fun h => hc0 (hz.2 (hR.out h).1)
      have hc0' : (c == 0) = false := by simp [hc0]
      clear hz hc0
      go_wp2
      go_ret
      exact ⟨RetB.no HF.out, T1⟩

end Go.Proofs.YtnaaheddhgpnoaaDoor
