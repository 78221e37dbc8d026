import Derived.Test.YtnaaheddhgpnoabEq
import Derived.Test.YtnaaheddhgpnoabMark
import Derived.Test.YtnaaheddhgpnoabWdD
namespace Go.Proofs.Ytnaaheddhgpnoab
open Go.ChangeShapes Go.WideShapes Go.ChangeAt Go.RowKit

def bdV (x : Bd) : Value := .agg #[.int .i64 x.ver, .int .i64 x.cel, .int .i64 x.tail, .int .i64 x.front]

set_option maxHeartbeats 400000 in
theorem eqBody_same (x : Bd) (w : World) :
    Calls Try.prog 44 #[.agg #[.int .i64 x.ver, .int .i64 x.cel, .int .i64 x.tail, .int .i64 x.front], .agg #[.int .i64 x.ver, .int .i64 x.cel, .int .i64 x.tail, .int .i64 x.front]] w fun e w' => e = .returned (.bool true) ∧ Below w.heap.size w w' := by
  go_enter Try.func44, Try.ntmps44
  go_wp2
  go_ret
  exact ⟨rfl, ((Below.refl _ _).alloc (Nat.le_refl _) _).alloc (by simp) _⟩

set_option maxHeartbeats 400000 in
theorem eqBodyS_same (xs : List Bd) (va vb : Value) (ba bb : List Nat) (w : World) (ha : BdsAt w va xs ba) (hb : BdsAt w vb xs bb) :
    Calls Try.prog 24 #[va, vb] w fun e w' => e = .returned (.bool true) ∧ Below w.heap.size w w' := by
  obtain ⟨a, ca, rfl, hca, hma, ha⟩ := ha
  obtain ⟨b, cb, rfl, hcb, hmb, hb⟩ := hb
  unfold maxLen at hma hmb
  generalize hn : xs.length = n at *
  have Hn : Hid (xs.length = n) := hn
  clear hn
  go_enter Try.func24, Try.ntmps24
  go_wp2
  go_loopw [5] (fun i wr => ∃ k : Nat, k ≤ n ∧ i = .int .i64 k ∧ Below w.heap.size w wr) (fun i _ => n - (intOf i).toNat)
  case atStart => exact ⟨0, Nat.zero_le _, rfl, Below.refl _ _⟩
  case round =>
    obtain ⟨k, hk, rfl, hbw⟩ := hrel
    by_cases hlt : k < n
    · rcases ha with ⟨h0, _⟩ | ⟨b1, o1, rfl, _, hs1, hc1⟩
      · omega
      rcases hb with ⟨h0, _⟩ | ⟨b2, o2, rfl, _, hs2, hc2⟩
      · omega
      have c1 := Ext.cell (B := w.heap.size) (w := wr) hs1 (by rw [(bcell hbw).1 _ _ hs1]; exact (hc1 k hlt).1)
      have c1' := Ext.cell (B := w.heap.size) (w := wr) hs1 (by rw [(bcell hbw).1 _ _ hs1]; exact (hc1 k hlt).2.1)
      have c1a := Ext.cell (B := w.heap.size) (w := wr) hs1 (by rw [(bcell hbw).1 _ _ hs1]; exact (hc1 k hlt).2.2.1)
      have c1b := Ext.cell (B := w.heap.size) (w := wr) hs1 (by rw [(bcell hbw).1 _ _ hs1]; exact (hc1 k hlt).2.2.2)
      have c2 := Ext.cell (B := w.heap.size) (w := wr) hs2 (by rw [(bcell hbw).1 _ _ hs2]; exact (hc2 k hlt).1)
      have c2' := Ext.cell (B := w.heap.size) (w := wr) hs2 (by rw [(bcell hbw).1 _ _ hs2]; exact (hc2 k hlt).2.1)
      have c2a := Ext.cell (B := w.heap.size) (w := wr) hs2 (by rw [(bcell hbw).1 _ _ hs2]; exact (hc2 k hlt).2.2.1)
      have c2b := Ext.cell (B := w.heap.size) (w := wr) hs2 (by rw [(bcell hbw).1 _ _ hs2]; exact (hc2 k hlt).2.2.2)
      have ne : Nonempty (Ext w.heap.size wr) := ⟨⟨_, Below.refl _ _⟩⟩
      clear hc1 hc2
      go_wp2
      refine wp_region_ext w.heap.size (by kernel_rfl) (by kernel_rfl) ?_
      repeat (go_big_quiet_step (exact ext_of hbw.size _ (eqBody_same _ _)))
      refine wpQuiet_nil ?_
      rintro _ ⟨⟨w1, hb1⟩, rfl⟩
      clear c1 c2 c1' c2' c1a c1b c2a c2b
      go_wp2
      go_roundw
      case rel => exact ⟨k + 1, by omega, by go_num, hbw.trans hb1⟩
      case measure => simp [intOf]; omega
    · go_wp2
      go_ret
      exact ⟨rfl, hbw⟩

set_option maxHeartbeats 400000 in
theorem eqWorld_same (k : Wd) (va vb : Value) (ba bb : List Nat) (w : World) (ha : WdAt w va k ba) (hb : WdAt w vb k bb) :
    Calls Try.prog 8 #[va, vb] w fun e w' => e = .returned (.bool true) ∧ Below w.heap.size w w' := by
  obtain ⟨vl1, vb1, b11, b12, rfl, _, hl1, hd1⟩ := ha
  obtain ⟨vl2, vb2, b21, b22, rfl, _, hl2, hd2⟩ := hb
  obtain ⟨p1, p2, p3, rfl⟩ := hl1.slice
  obtain ⟨p4, p5, p6, rfl⟩ := hd1.slice
  obtain ⟨q1, q2, q3, rfl⟩ := hl2.slice
  obtain ⟨q4, q5, q6, rfl⟩ := hd2.slice
  have a2 := alloc2 w (.cells #[.bool k.ok, .bool k.bk.ok, .int .i64 k.bk.sec, .slice p1 p2 p3, .slice p4 p5 p6] 28) (.cells #[.bool k.ok, .bool k.bk.ok, .int .i64 k.bk.sec, .slice q1 q2 q3, .slice q4 q5 q6] 28)
  have X1 : BlkIs ((w.alloc (.cells #[.bool k.ok, .bool k.bk.ok, .int .i64 k.bk.sec, .slice p1 p2 p3, .slice p4 p5 p6] 28)).alloc (.cells #[.bool k.ok, .bool k.bk.ok, .int .i64 k.bk.sec, .slice q1 q2 q3, .slice q4 q5 q6] 28)) w.heap.size [.bool k.ok, .bool k.bk.ok, .int .i64 k.bk.sec, .slice p1 p2 p3, .slice p4 p5 p6] 28 := (BlkIs.new w [.bool k.ok, .bool k.bk.ok, .int .i64 k.bk.sec, .slice p1 p2 p3, .slice p4 p5 p6] 28).alloc _
  have X2 : BlkIs ((w.alloc (.cells #[.bool k.ok, .bool k.bk.ok, .int .i64 k.bk.sec, .slice p1 p2 p3, .slice p4 p5 p6] 28)).alloc (.cells #[.bool k.ok, .bool k.bk.ok, .int .i64 k.bk.sec, .slice q1 q2 q3, .slice q4 q5 q6] 28)) (w.heap.size + 1) [.bool k.ok, .bool k.bk.ok, .int .i64 k.bk.sec, .slice q1 q2 q3, .slice q4 q5 q6] 28 := by
    have := BlkIs.new (w.alloc (.cells #[.bool k.ok, .bool k.bk.ok, .int .i64 k.bk.sec, .slice p1 p2 p3, .slice p4 p5 p6] 28)) [.bool k.ok, .bool k.bk.ok, .int .i64 k.bk.sec, .slice q1 q2 q3, .slice q4 q5 q6] 28
    simpa using this
  go_enter Try.func8, Try.ntmps8
  go_wp2_with fail
  generalize ((w.alloc (.cells #[.bool k.ok, .bool k.bk.ok, .int .i64 k.bk.sec, .slice p1 p2 p3, .slice p4 p5 p6] 28)).alloc (.cells #[.bool k.ok, .bool k.bk.ok, .int .i64 k.bk.sec, .slice q1 q2 q3, .slice q4 q5 q6] 28)) = V at *
  refine (eqBook_same k.bk _ _ _ _ _ ⟨_, rfl, hl1.below a2 hl1.lt⟩ ⟨_, rfl, hl2.below a2 hl2.lt⟩).mono ?_
  rintro e w1 ⟨rfl, hb1⟩
  have Y1 := X1.below hb1 X1.lt
  have Y2 := X2.below hb1 X2.lt
  have y1 : w1.cell? ⟨w.heap.size, 4, none⟩ = some (.slice p4 p5 p6) := Y1.cell 4
  have y2 : w1.cell? ⟨w.heap.size + 1, 4, none⟩ = some (.slice q4 q5 q6) := Y2.cell 4
  have hB := a2.trans (hb1.mono a2.size)
  clear X1 X2 Y1 Y2 a2 hb1
  go_wp2_with fail
  refine (eqBodyS_same k.bds _ _ _ _ _ (hd1.below hB hd1.lt) (hd2.below hB hd2.lt)).mono ?_
  rintro e w2 ⟨rfl, hb2⟩
  have hB2 := hB.trans (hb2.mono hB.size)
  clear y1 y2
  go_wp2
  go_ret
  exact ⟨rfl, hB2⟩

set_option maxHeartbeats 800000 in
theorem markBodyS_any (xs : List Bd) (v : Value) (bs : List Nat) (w : World) (K : Int) (h : BdsAt w v xs bs) (hf : Free w bs) (h0 : 0 ≤ K) (hK : K + 4 * xs.length ≤ 2305843009213693952) :
    Calls Try.prog 26 #[v, .int .i64 K] w fun e w' => e = .returned (.int .i64 (K + 4 * xs.length)) ∧ BdsAt w' v (markBds xs.length K) bs ∧ Chg bs w w' := by
  obtain ⟨a, ca, rfl, hca, hma, h⟩ := h
  have hma' := hma
  unfold maxLen at hma
  generalize xs.length = n at *
  rcases h with ⟨rfl, rfl⟩ | ⟨b, o, rfl, rfl, hs, hc⟩
  · go_enter Try.func26, Try.ntmps26
    go_wp2
    go_loop [1, 5] (fun kk i => kk = .int .i64 K ∧ i = .int .i64 0) (fun _ _ => 0)
    case atStart => exact ⟨rfl, rfl⟩
    case round =>
      obtain ⟨rfl, rfl⟩ := hrel
      go_wp2
      go_ret
      exact ⟨by simp, ⟨a, ca, by simp [markBds_len], by simp [markBds_len], hma', Or.inl ⟨by simp [markBds_len], rfl⟩⟩, Chg.refl _ _⟩
  · have hfz : ∀ i, w.frozen? ⟨b, i, none⟩ = false := fun i => hf b (by simp) _
    go_enter Try.func26, Try.ntmps26
    go_wp2
    go_loopw [1, 5] (fun kk i wr => ∃ k : Nat, k ≤ n ∧ kk = .int .i64 (K + 4 * k) ∧ i = .int .i64 k ∧ (∀ j, j < n → BdCells wr b (o + j * 4) (if j < k then ⟨K + 4 * j, K + 4 * j + 1, K + 4 * j + 2, K + 4 * j + 3⟩ else xs[j]?.getD bd0)) ∧ Chg [b] w wr) (fun _ i _ => n - (intOf i).toNat)
    case atStart => exact ⟨0, Nat.zero_le _, by simp, rfl, by simpa using hc, Chg.refl _ _⟩
    case round =>
      obtain ⟨k, hk, rfl, rfl, hcw, hch⟩ := hrel
      by_cases hlt : k < n
      · obtain ⟨c0, c1, c2, c3⟩ := hcw k hlt
        have f0 : wr.frozen? ⟨b, o + k * 4, none⟩ = false := by rw [hch.frozen _ _ hs]; exact hfz _
        have f1 : wr.frozen? ⟨b, o + k * 4 + 1, none⟩ = false := by rw [hch.frozen _ _ hs]; exact hfz _
        have f2 : wr.frozen? ⟨b, o + k * 4 + 2, none⟩ = false := by rw [hch.frozen _ _ hs]; exact hfz _
        have f3 : wr.frozen? ⟨b, o + k * 4 + 3, none⟩ = false := by rw [hch.frozen _ _ hs]; exact hfz _
        have HC : Hid (∀ j, j < n → BdCells wr b (o + j * 4) (if j < k then ⟨K + 4 * j, K + 4 * j + 1, K + 4 * j + 2, K + 4 * j + 3⟩ else xs[j]?.getD bd0)) := hcw
        clear hcw hc hfz
        go_wp2
        go_roundw
        case rel =>
          refine ⟨k + 1, by omega, by go_num, by go_num, ?_, (((hch.setCell (by simp) _).setCell (by simp) _).setCell (by simp) _).setCell (by simp) _⟩
          intro j hj
          have := bd_set HC.out hlt ⟨K + 4 * k, K + 4 * k + 1, K + 4 * k + 2, K + 4 * k + 3⟩ j hj
          rw [bd_if (fun j => ⟨K + 4 * j, K + 4 * j + 1, K + 4 * j + 2, K + 4 * j + 3⟩) (fun j => xs[j]?.getD bd0)] at this
          have e2 : K + 4 * (k : Int) + 1 + 1 = K + 4 * k + 2 := by omega
          have e3 : K + 4 * (k : Int) + 1 + 1 + 1 = K + 4 * k + 3 := by omega
          rw [e3, e2]
          exact this
        case measure => simp [intOf]; omega
      · obtain rfl : k = n := by omega
        have HC : Hid (∀ j, j < k → BdCells wr b (o + j * 4) (if j < k then ⟨K + 4 * j, K + 4 * j + 1, K + 4 * j + 2, K + 4 * j + 3⟩ else xs[j]?.getD bd0)) := hcw
        clear hcw hc hfz
        go_wp2
        go_ret
        refine ⟨rfl, ⟨_, ca, by simp [markBds_len], by simpa [markBds_len] using hca, hma', Or.inr ⟨b, o, rfl, rfl, Nat.lt_of_lt_of_le hs hch.size, fun i hi => ?_⟩⟩, hch⟩
        rw [markBds_len] at hi
        have := HC.out i hi
        rw [if_pos hi] at this
        rw [markBds_at K hi]
        exact this

set_option maxHeartbeats 400000 in
theorem heldBodyS_any (n : Nat) (v : Value) (bs : List Nat) (w : World) (K : Int) (h : BdsAt w v (markBds n K) bs) (h0 : 0 ≤ K) (hK : K + 4 * n ≤ 2305843009213693952) :
    Calls Try.prog 28 #[v, .int .i64 K] w fun e w' => e = .returned (.int .i64 (K + 4 * n)) ∧ w' = w := by
  obtain ⟨a, ca, rfl, hca, hma, h⟩ := h
  unfold maxLen at hma
  rw [markBds_len] at *
  go_enter Try.func28, Try.ntmps28
  go_wp2
  go_loop [1, 5] (fun kk i => ∃ k : Nat, k ≤ n ∧ kk = .int .i64 (K + 4 * k) ∧ i = .int .i64 k) (fun _ i => n - (intOf i).toNat)
  case atStart => exact ⟨0, Nat.zero_le _, by simp, rfl⟩
  case round =>
    obtain ⟨k, hk, rfl, rfl⟩ := hrel
    by_cases hlt : k < n
    · rcases h with ⟨rfl, rfl⟩ | ⟨b, o, rfl, rfl, hs, hc⟩
      · omega
      obtain ⟨c0, c1, c2, c3⟩ := hc k hlt
      rw [markBds_at K hlt] at c0 c1 c2 c3
      clear hc
      go_wp2
      go_round
      case rel => exact ⟨k + 1, by omega, by go_num, by go_num⟩
      case measure => simp [intOf]; omega
    · obtain rfl : k = n := by omega
      go_wp2
      go_ret
      exact ⟨rfl, rfl⟩

def markWd (k : Wd) (K : Int) : Wd := ⟨k.ok, markBk k.bk K, markBds k.bds.length (offs k.bk.lns k.bk.lns.length K)⟩
def wdEnd (k : Wd) (K : Int) : Int := offs k.bk.lns k.bk.lns.length K + 4 * k.bds.length


set_option maxHeartbeats 800000 in
theorem markWorld_any (k : Wd) (v : Value) (bs : List Nat) (w : World) (K : Int) (h : WdAt w v k bs) (hf : Free w bs) (nd : bs.Nodup) (h0 : 0 ≤ K) (hK : wdEnd k K ≤ 2305843009213693952) :
    Calls Try.prog 11 #[v, .int .i64 K] w fun e w' => e = .returned (.int .i64 (wdEnd k K)) ∧ WdAt w' v (markWd k K) bs ∧ Chg bs w w' := by
  obtain ⟨vl, vb, b1, b2, rfl, rfl, hl, hd⟩ := h
  obtain ⟨p1, p2, p3, rfl⟩ := hl.slice
  obtain ⟨p4, p5, p6, rfl⟩ := hd.slice
  have hq := offs_le k.bk.lns K k.bk.lns.length
  unfold wdEnd at hK ⊢
  have nd1 : b1.Nodup := (List.nodup_append.1 nd).1
  have dis : ∀ x ∈ b1, ∀ y ∈ b2, x ≠ y := (List.nodup_append.1 nd).2.2
  have a1 : Below w.heap.size w (w.alloc (.cells #[.bool k.ok, .bool k.bk.ok, .int .i64 k.bk.sec, .slice p1 p2 p3, .slice p4 p5 p6] 28)) := (Below.refl _ _).alloc (Nat.le_refl _) _
  have X1 : BlkIs (w.alloc (.cells #[.bool k.ok, .bool k.bk.ok, .int .i64 k.bk.sec, .slice p1 p2 p3, .slice p4 p5 p6] 28)) w.heap.size [.bool k.ok, .bool k.bk.ok, .int .i64 k.bk.sec, .slice p1 p2 p3, .slice p4 p5 p6] 28 := BlkIs.new _ _ _
  have C1 : Chg (b1 ++ b2) w (w.alloc (.cells #[.bool k.ok, .bool k.bk.ok, .int .i64 k.bk.sec, .slice p1 p2 p3, .slice p4 p5 p6] 28)) := (Chg.refl _ _).alloc _ _
  go_enter Try.func11, Try.ntmps11
  go_wp2_with fail
  generalize (w.alloc (.cells #[.bool k.ok, .bool k.bk.ok, .int .i64 k.bk.sec, .slice p1 p2 p3, .slice p4 p5 p6] 28)) = V at *
  have hl' := hl.below a1 hl.lt
  have hd' := hd.below a1 hd.lt
  have f1 := hf.left.below a1 hl.lt
  have f2 := hf.right.below a1 hd.lt
  have l1 := hl.lt
  have l2 := hd.lt
  clear hl hd hf a1
  refine (markBook_any k.bk _ b1 _ K ⟨_, rfl, hl'⟩ f1 nd1 h0 (by omega)).mono ?_
  rintro e w1 ⟨rfl, hk1, hc1⟩
  have Y1 := X1.chg hc1 (fun h => by have := l1 _ h; omega)
  have hd1 := hd'.keep (w' := w1) (fun x hx => hc1.block x (hd'.lt x hx) (fun h => dis x h x hx rfl))
  have f21 := f2.chg hc1 hd'.lt
  have C2 : Chg (b1 ++ b2) w w1 := C1.trans (hc1.mono fun x hx => List.mem_append_left _ hx)
  have y4 : w1.cell? ⟨w.heap.size, 4, none⟩ = some (.slice p4 p5 p6) := Y1.cell 4
  obtain ⟨vl1, hv1, hl1⟩ := hk1
  simp only [markBk, Value.agg.injEq] at hv1
  have hlm : LnsAt w1 (.slice p1 p2 p3) (markLns k.bk.lns K) b1 := by
    have : vl1 = .slice p1 p2 p3 := by simpa using hv1.symm
    subst this
    exact hl1
  clear X1 Y1 hl' hd' f1 f2 C1 hc1 hl1 hv1
  generalize hQ : offs k.bk.lns k.bk.lns.length K = Q at *
  go_wp2_with fail
  refine (markBodyS_any k.bds _ b2 _ Q hd1 f21 (by omega) (by omega)).mono ?_
  rintro e w2 ⟨rfl, hd2, hc2⟩
  have hl2 := hlm.keep (w' := w2) (fun x hx => hc2.block x (hlm.lt x hx) (fun h => dis x hx x h rfl))
  have C3 : Chg (b1 ++ b2) w w2 := C2.trans (hc2.mono fun x hx => List.mem_append_right _ hx)
  clear y4
  go_wp2
  go_ret
  refine ⟨by rw [hQ]; rfl, ⟨_, _, b1, b2, rfl, rfl, hl2, ?_⟩, C3⟩
  show BdsAt w2 _ (markBds k.bds.length (offs k.bk.lns k.bk.lns.length K)) b2
  rw [hQ]
  exact hd2

set_option maxHeartbeats 800000 in
theorem heldWorld_any (k : Wd) (v : Value) (bs : List Nat) (w : World) (K : Int) (h : WdAt w v (markWd k K) bs) (h0 : 0 ≤ K) (hK : wdEnd k K ≤ 2305843009213693952) :
    Calls Try.prog 12 #[v, .int .i64 K] w fun e w' => e = .returned (.int .i64 (wdEnd k K)) ∧ Below w.heap.size w w' := by
  obtain ⟨vl, vb, b1, b2, rfl, rfl, hl, hd⟩ := h
  obtain ⟨p1, p2, p3, rfl⟩ := hl.slice
  obtain ⟨p4, p5, p6, rfl⟩ := hd.slice
  have hq := offs_le k.bk.lns K k.bk.lns.length
  unfold wdEnd at hK ⊢
  have hl0 : LnsAt w (.slice p1 p2 p3) (markLns k.bk.lns K) b1 := hl
  have hd0 : BdsAt w (.slice p4 p5 p6) (markBds k.bds.length (offs k.bk.lns k.bk.lns.length K)) b2 := hd
  clear hl hd
  show Calls Try.prog 12 #[.agg #[.bool k.ok, .bool k.bk.ok, .int .i64 k.bk.sec, .slice p1 p2 p3, .slice p4 p5 p6], .int .i64 K] w _
  have a1 : Below w.heap.size w (w.alloc (.cells #[.bool k.ok, .bool k.bk.ok, .int .i64 k.bk.sec, .slice p1 p2 p3, .slice p4 p5 p6] 28)) := (Below.refl _ _).alloc (Nat.le_refl _) _
  have X1 : BlkIs (w.alloc (.cells #[.bool k.ok, .bool k.bk.ok, .int .i64 k.bk.sec, .slice p1 p2 p3, .slice p4 p5 p6] 28)) w.heap.size [.bool k.ok, .bool k.bk.ok, .int .i64 k.bk.sec, .slice p1 p2 p3, .slice p4 p5 p6] 28 := BlkIs.new _ _ _
  go_enter Try.func12, Try.ntmps12
  go_wp2_with fail
  generalize (w.alloc (.cells #[.bool k.ok, .bool k.bk.ok, .int .i64 k.bk.sec, .slice p1 p2 p3, .slice p4 p5 p6] 28)) = V at *
  refine (heldBook_any k.bk _ b1 _ K ⟨_, rfl, hl0.below a1 hl0.lt⟩ h0 (by omega)).mono ?_
  rintro e w1 ⟨rfl, hb1⟩
  have Y1 := X1.below hb1 X1.lt
  have y4 : w1.cell? ⟨w.heap.size, 4, none⟩ = some (.slice p4 p5 p6) := Y1.cell 4
  have hB := a1.trans (hb1.mono a1.size)
  clear X1 Y1 a1 hb1
  generalize hQ : offs k.bk.lns k.bk.lns.length K = Q at *
  go_wp2_with fail
  refine (heldBodyS_any k.bds.length _ b2 _ Q (hd0.below hB hd0.lt) (by omega) (by omega)).mono ?_
  rintro e w2 ⟨rfl, rfl⟩
  clear y4
  go_wp2
  go_ret
  exact ⟨by rw [hQ]; rfl, hB⟩

end Go.Proofs.Ytnaaheddhgpnoab
