import Derived.Test.YtnaaheddhgpnoaaDoorRows
import Derived.Test.YtnaaheddhgpnoaaDoorMarkD
namespace Go.Proofs.YtnaaheddhgpnoaaDoor
open Go.ChangeShapes Go.WideShapes Go.ChangeAt Go.RowKit

set_option maxHeartbeats 400000 in
theorem markIntS_any (xs : List Int) (v : Value) (bs : List Nat) (w : World) (K : Int) (h : IntsAt w v xs bs) (hf : Free w bs) (h0 : 0 ≤ K) (hK : K + xs.length ≤ 2305843009213693952) :
    Calls Tryd.prog 92 #[v, .int .i64 K] w fun e w' => e = .returned (.int .i64 (K + xs.length)) ∧ IntsAt w' v (markInts xs.length K) bs ∧ Chg bs w w' := by
  obtain ⟨a, ca, rfl, hca, hma, h⟩ := h
  have hma' := hma
  unfold maxLen at hma
  generalize xs.length = n at *
  rcases h with ⟨rfl, rfl⟩ | ⟨b, o, rfl, rfl, hs, hc⟩
  · go_enter Tryd.func92, Tryd.ntmps92
    go_wp2
    go_loop [1, 5] (fun kk i => kk = .int .i64 K ∧ i = .int .i64 0) (fun _ _ => 0)
    case atStart => exact ⟨rfl, rfl⟩
    case round =>
      obtain ⟨rfl, rfl⟩ := hrel
      go_wp2
      go_ret
      exact ⟨by simp, ⟨a, ca, by simp [markInts_len], by simp [markInts_len], hma', Or.inl ⟨by simp [markInts_len], rfl⟩⟩, Chg.refl _ _⟩
  · have hfz : ∀ i, w.frozen? ⟨b, o + i, none⟩ = false := fun i => hf b (by simp) _
    go_enter Tryd.func92, Tryd.ntmps92
    go_wp2
    go_loopw [1, 5] (fun kk i wr => ∃ k : Nat, k ≤ n ∧ kk = .int .i64 (K + k) ∧ i = .int .i64 k ∧ (∀ j, j < n → wr.cell? ⟨b, o + j, none⟩ = some (.int .i64 (if j < k then K + j else xs[j]?.getD 0))) ∧ Chg [b] w wr) (fun _ i _ => n - (intOf i).toNat)
    case atStart => exact ⟨0, Nat.zero_le _, by simp, rfl, by simpa using hc, Chg.refl _ _⟩
    case round =>
      obtain ⟨k, hk, rfl, rfl, hcw, hch⟩ := hrel
      by_cases hlt : k < n
      · have c1 := hcw k hlt
        have f1 : wr.frozen? ⟨b, o + k, none⟩ = false := by rw [hch.frozen _ _ hs]; exact hfz k
        have HC : Hid (∀ j, j < n → wr.cell? ⟨b, o + j, none⟩ = some (.int .i64 (if j < k then K + j else xs[j]?.getD 0))) := hcw
        clear hcw hc hfz
        go_wp2
        go_roundw
        case rel =>
          refine ⟨k + 1, by omega, by go_num, by go_num, ?_, hch.setCell (by simp) _⟩
          intro j hj
          rw [set_fam (A := fun i => o + i) (fun i j h => by simpa using h) HC.out k hlt _ j hj]
          by_cases e : j = k
          · subst e; rw [if_pos rfl, if_pos (by omega)]
          · rw [if_neg e]
            by_cases e2 : j < k
            · rw [if_pos e2, if_pos (by omega)]
            · rw [if_neg e2, if_neg (by omega)]
        case measure => simp [intOf]; omega
      · obtain rfl : k = n := by omega
        go_wp2
        go_ret
        refine ⟨rfl, ⟨_, ca, by simp [markInts_len], by simpa [markInts_len] using hca, hma', Or.inr ⟨b, o, rfl, rfl, Nat.lt_of_lt_of_le hs hch.size, fun i hi => ?_⟩⟩, hch⟩
        rw [markInts_len] at hi
        rw [markInts_at K hi, hcw i hi, if_pos hi]

set_option maxHeartbeats 400000 in
theorem markGrantS_any (xs : List Gr) (v : Value) (bs : List Nat) (w : World) (K : Int) (h : GrsAt w v xs bs) (hf : Free w bs) (h0 : 0 ≤ K) (hK : K + 2 * xs.length ≤ 2305843009213693952) :
    Calls Tryd.prog 93 #[v, .int .i64 K] w fun e w' => e = .returned (.int .i64 (K + 2 * xs.length)) ∧ GrsAt w' v (markGrs xs.length K) bs ∧ Chg bs w w' := by
  obtain ⟨a, ca, rfl, hca, hma, h⟩ := h
  have hma' := hma
  unfold maxLen at hma
  generalize xs.length = n at *
  rcases h with ⟨rfl, rfl⟩ | ⟨b, o, rfl, rfl, hs, hc⟩
  · go_enter Tryd.func93, Tryd.ntmps93
    go_wp2
    go_loop [1, 5] (fun kk i => kk = .int .i64 K ∧ i = .int .i64 0) (fun _ _ => 0)
    case atStart => exact ⟨rfl, rfl⟩
    case round =>
      obtain ⟨rfl, rfl⟩ := hrel
      go_wp2
      go_ret
      exact ⟨by simp, ⟨a, ca, by simp [markGrs_len], by simp [markGrs_len], hma', Or.inl ⟨by simp [markGrs_len], rfl⟩⟩, Chg.refl _ _⟩
  · have hfz : ∀ i, w.frozen? ⟨b, i, none⟩ = false := fun i => hf b (by simp) _
    go_enter Tryd.func93, Tryd.ntmps93
    go_wp2
    go_loopw [1, 5] (fun kk i wr => ∃ k : Nat, k ≤ n ∧ kk = .int .i64 (K + 2 * k) ∧ i = .int .i64 k ∧ (∀ j, j < n → wr.cell? ⟨b, o + j * 2, none⟩ = some (.int .i64 (if j < k then K + 2 * j else (xs[j]?.getD gr0).ver))) ∧
      (∀ j, j < n → wr.cell? ⟨b, o + j * 2 + 1, none⟩ = some (.int .i64 (if j < k then K + 2 * j + 1 else (xs[j]?.getD gr0).cel))) ∧ Chg [b] w wr) (fun _ i _ => n - (intOf i).toNat)
    case atStart => exact ⟨0, Nat.zero_le _, by simp, rfl, by simpa using fun j hj => (hc j hj).1, by simpa using fun j hj => (hc j hj).2, Chg.refl _ _⟩
    case round =>
      obtain ⟨k, hk, rfl, rfl, hcw, hcw2, hch⟩ := hrel
      by_cases hlt : k < n
      · have c1 := hcw k hlt
        have c2 := hcw2 k hlt
        have f1 : wr.frozen? ⟨b, o + k * 2, none⟩ = false := by rw [hch.frozen _ _ hs]; exact hfz _
        have f2 : wr.frozen? ⟨b, o + k * 2 + 1, none⟩ = false := by rw [hch.frozen _ _ hs]; exact hfz _
        have HC : Hid (∀ j, j < n → wr.cell? ⟨b, o + j * 2, none⟩ = some (.int .i64 (if j < k then K + 2 * j else (xs[j]?.getD gr0).ver))) := hcw
        have HC2 : Hid (∀ j, j < n → wr.cell? ⟨b, o + j * 2 + 1, none⟩ = some (.int .i64 (if j < k then K + 2 * j + 1 else (xs[j]?.getD gr0).cel))) := hcw2
        clear hcw hcw2 hc hfz
        go_wp2
        go_roundw
        case rel =>
          refine ⟨k + 1, by omega, by go_num, by go_num, ?_, ?_, (hch.setCell (by simp) _).setCell (by simp) _⟩
          · intro j hj
            rw [set_off (A := fun i => o + i * 2) (set_fam (A := fun i => o + i * 2) (fun i j h => by simp at h; omega) HC.out k hlt _) (fun i => by omega) _ j hj]
            exact congrArg some (step_if (fun j => K + 2 * (j : Int)) (fun j => (xs[j]?.getD gr0).ver) j k)
          · intro j hj
            rw [set_fam (A := fun i => o + i * 2 + 1) (fun i j h => by simp at h; omega) (set_off (A := fun i => o + i * 2 + 1) HC2.out (fun i => by omega) _) k hlt _ j hj]
            exact congrArg some (step_if (fun j => K + 2 * (j : Int) + 1) (fun j => (xs[j]?.getD gr0).cel) j k)
        case measure => simp [intOf]; omega
      · obtain rfl : k = n := by omega
        go_wp2
        go_ret
        refine ⟨rfl, ⟨_, ca, by simp [markGrs_len], by simpa [markGrs_len] using hca, hma', Or.inr ⟨b, o, rfl, rfl, Nat.lt_of_lt_of_le hs hch.size, fun i hi => ?_⟩⟩, hch⟩
        rw [markGrs_len] at hi
        rw [markGrs_at K hi, hcw i hi, hcw2 i hi, if_pos hi, if_pos hi]
        exact ⟨rfl, rfl⟩

set_option maxHeartbeats 400000 in
theorem heldIntS_any (n : Nat) (v : Value) (bs : List Nat) (w : World) (K : Int) (h : IntsAt w v (markInts n K) bs) (h0 : 0 ≤ K) (hK : K + n ≤ 2305843009213693952) :
    Calls Tryd.prog 115 #[v, .int .i64 K] w fun e w' => e = .returned (.int .i64 (K + n)) ∧ w' = w := by
  obtain ⟨a, ca, rfl, hca, hma, h⟩ := h
  unfold maxLen at hma
  rw [markInts_len] at *
  go_enter Tryd.func115, Tryd.ntmps115
  go_wp2
  go_loop [1, 5] (fun kk i => ∃ k : Nat, k ≤ n ∧ kk = .int .i64 (K + k) ∧ i = .int .i64 k) (fun _ i => n - (intOf i).toNat)
  case atStart => exact ⟨0, Nat.zero_le _, by simp, rfl⟩
  case round =>
    obtain ⟨k, hk, rfl, rfl⟩ := hrel
    by_cases hlt : k < n
    · rcases h with ⟨rfl, rfl⟩ | ⟨b, o, rfl, rfl, hs, hc⟩
      · omega
      have c1 := hc k hlt
      rw [markInts_at K hlt] at c1
      clear hc
      go_wp2
      go_round
      case rel => exact ⟨k + 1, by omega, by go_num, by go_num⟩
      case measure => simp [intOf]; omega
    · obtain rfl : k = n := by omega
      go_wp2
      go_ret
      exact ⟨rfl, rfl⟩

set_option maxHeartbeats 400000 in
theorem heldGrantS_any (n : Nat) (v : Value) (bs : List Nat) (w : World) (K : Int) (h : GrsAt w v (markGrs n K) bs) (h0 : 0 ≤ K) (hK : K + 2 * n ≤ 2305843009213693952) :
    Calls Tryd.prog 116 #[v, .int .i64 K] w fun e w' => e = .returned (.int .i64 (K + 2 * n)) ∧ w' = w := by
  obtain ⟨a, ca, rfl, hca, hma, h⟩ := h
  unfold maxLen at hma
  rw [markGrs_len] at *
  go_enter Tryd.func116, Tryd.ntmps116
  go_wp2
  go_loop [1, 5] (fun kk i => ∃ k : Nat, k ≤ n ∧ kk = .int .i64 (K + 2 * k) ∧ i = .int .i64 k) (fun _ i => n - (intOf i).toNat)
  case atStart => exact ⟨0, Nat.zero_le _, by simp, rfl⟩
  case round =>
    obtain ⟨k, hk, rfl, rfl⟩ := hrel
    by_cases hlt : k < n
    · rcases h with ⟨rfl, rfl⟩ | ⟨b, o, rfl, rfl, hs, hc⟩
      · omega
      obtain ⟨c1, c2⟩ := hc k hlt
      rw [markGrs_at K hlt] at c1 c2
      clear hc
      go_wp2
      go_round
      case rel => exact ⟨k + 1, by omega, by go_num, by go_num⟩
      case measure => simp [intOf]; omega
    · obtain rfl : k = n := by omega
      go_wp2
      go_ret
      exact ⟨rfl, rfl⟩

theorem ret_int {k : IntKind} {a b : Int} (h : a = b) : Ending.returned (.int k a) = .returned (.int k b) := by rw [h]
theorem val_int {k : IntKind} {a b : Int} (h : a = b) : Value.int k a = .int k b := by rw [h]

set_option maxHeartbeats 1000000 in
theorem markLineS_any (xs : List Ln) (v : Value) (bs : List Nat) (w : World) (K : Int) (h : LnsAt w v xs bs) (hf : Free w bs) (nd : bs.Nodup) (h0 : 0 ≤ K) (hK : offs xs xs.length K ≤ 2305843009213693952) :
    Calls Tryd.prog 67 #[v, .int .i64 K] w fun e w' => e = .returned (.int .i64 (offs xs xs.length K)) ∧ LnsAt w' v (markLns xs K) bs ∧ Chg bs w w' := by
  obtain ⟨a, ca, rfl, hca, hma, h⟩ := h
  have hma' := hma
  unfold maxLen at hma
  have hml := markLns_len xs K
  generalize hn : xs.length = n at *
  rcases h with ⟨rfl, rfl⟩ | ⟨b, o, D, rfl, rfl, hs, hc⟩
  · clear hn
    go_enter Tryd.func67, Tryd.ntmps67
    go_wp2
    go_loop [1, 5] (fun kk i => kk = .int .i64 K ∧ i = .int .i64 0) (fun _ _ => 0)
    case atStart => exact ⟨rfl, rfl⟩
    case round =>
      obtain ⟨rfl, rfl⟩ := hrel
      go_wp2
      go_ret
      exact ⟨rfl, ⟨a, ca, by rw [hml], by rw [hml]; exact hca, hma', Or.inl ⟨hml, rfl⟩⟩, Chg.refl _ _⟩
  · have hA := Apart.of_nodup nd
    have HN : Hid (xs.length = n) := hn
    have HL : Hid ((markLns xs K).length = n) := hml
    clear hn hml
    go_enter Tryd.func67, Tryd.ntmps67
    go_wp2
    go_loopw [1, 5] (fun kk i wr => ∃ k : Nat, k ≤ n ∧ kk = .int .i64 (offs xs k K) ∧ i = .int .i64 k ∧ (∀ j, j < n → LnCells wr b (o + j * 4) (if j < k then markLn (xs[j]?.getD ln0) (offs xs j K) else xs[j]?.getD ln0) (D j)) ∧ Chg (b :: (List.range n).flatMap D) w wr) (fun _ i _ => n - (intOf i).toNat)
    case atStart => exact ⟨0, Nat.zero_le _, rfl, rfl, by simpa using hc, Chg.refl _ _⟩
    case round =>
      obtain ⟨k, hk, rfl, rfl, hcw, hch⟩ := hrel
      have q1 := offs_le xs K k
      have q2 := offs_mono xs K hk
      by_cases hlt : k < n
      · have q3 := offs_mono xs K (show k + 1 ≤ n by omega)
        have hq : Hid (offs xs (k + 1) K = offs xs k K + lnSize (xs[k]?.getD ln0)) := rfl
        rw [show offs xs (k + 1) K = offs xs k K + lnSize (xs[k]?.getD ln0) from rfl] at q3
        have hline := hcw k hlt
        rw [if_neg (Nat.lt_irrefl k)] at hline
        generalize hl : xs[k]?.getD ln0 = l at *
        have HLq : Hid (xs[k]?.getD ln0 = l) := hl
        clear hl
        generalize hq' : offs xs k K = q at *
        have HQ' : Hid (offs xs k K = q) := hq'
        clear hq'
        obtain ⟨vw, vg, b1, b2, p0, p1, p2, p3, hD, hw, hg⟩ := hline
        have hbk := hA.out k hlt
        have hb1 : b ∉ b1 := fun h => hbk (by rw [hD]; exact List.mem_append_left _ h)
        have hb2 : b ∉ b2 := fun h => hbk (by rw [hD]; exact List.mem_append_right _ h)
        have hmem : ∀ x ∈ D k, x ∈ b :: (List.range n).flatMap D := fun x hx => List.mem_cons_of_mem _ (List.mem_flatMap.2 ⟨k, List.mem_range.2 hlt, hx⟩)
        have hfr : Free wr (b :: (List.range n).flatMap D) := hf.chg hch (LnsAt.lt ⟨_, ca, rfl, by rw [HN.out]; exact hca, hma', Or.inr ⟨b, o, D, rfl, by rw [HN.out], hs, by rw [HN.out]; exact hc⟩⟩)
        have hsw : b < wr.heap.size := Nat.lt_of_lt_of_le hs hch.size
        have f0 : wr.frozen? ⟨b, o + k * 4, none⟩ = false := hfr b (by simp) _
        have f3 : wr.frozen? ⟨b, o + k * 4 + 3, none⟩ = false := hfr b (by simp) _
        have hw1 : IntsAt (wr.setCell ⟨b, o + k * 4, none⟩ (.int .i64 q)) vw l.way b1 := hw.keep fun x hx => Below.heap_setCell _ _ _ _ (fun (h : x = b) => hb1 (h ▸ hx))
        have hg1 : GrsAt (wr.setCell ⟨b, o + k * 4, none⟩ (.int .i64 q)) vg l.grs b2 := hg.keep fun x hx => Below.heap_setCell _ _ _ _ (fun (h : x = b) => hb2 (h ▸ hx))
        have hF1 : Free (wr.setCell ⟨b, o + k * 4, none⟩ (.int .i64 q)) b1 := fun x hx y => by rw [World.frozen?_setCell]; exact hfr x (hmem x (by rw [hD]; exact List.mem_append_left _ hx)) y
        have hF2 : Free (wr.setCell ⟨b, o + k * 4, none⟩ (.int .i64 q)) b2 := fun x hx y => by rw [World.frozen?_setCell]; exact hfr x (hmem x (by rw [hD]; exact List.mem_append_right _ hx)) y
        have hdj : ∀ x ∈ b2, x ∉ b1 := fun x hx h => by
          have nd2 := hA.one k hlt
          rw [hD] at nd2
          exact (List.nodup_append.1 nd2).2.2 x h x hx rfl
        have hsz : lnSize l = 2 + l.way.length + 2 * l.grs.length := rfl
        rw [hsz] at q3
        have HC : Hid (∀ j, j < n → LnCells wr b (o + j * 4) (if j < k then markLn (xs[j]?.getD ln0) (offs xs j K) else xs[j]?.getD ln0) (D j)) := hcw
        have HD : Hid (D k = b1 ++ b2) := hD
        clear hcw hc hD hsz
        go_wp2_with fail
        refine (markIntS_any l.way vw b1 _ (q + 1) hw1 hF1 (by omega) (by omega)).mono ?_
        rintro e w2 ⟨rfl, hw2, c12⟩
        have e12 : ∀ x, w2.cell? ⟨b, x, none⟩ = (wr.setCell ⟨b, o + k * 4, none⟩ (.int .i64 q)).cell? ⟨b, x, none⟩ := fun x => cell_keep (c12.block b (by simpa using hsw) hb1)
        have p2' : w2.cell? ⟨b, o + k * 4 + 2, none⟩ = some vg := by rw [e12, cell_set_ne (by omega)]; exact p2
        have hg2 : GrsAt w2 vg l.grs b2 := hg1.keep fun x hx => c12.block x (hg1.lt x hx) (hdj x hx)
        have hF2' : Free w2 b2 := hF2.chg c12 hg1.lt
        have s2 : b < w2.heap.size := Nat.lt_of_lt_of_le (by simpa using hsw) c12.size
        have HE : Hid (∀ x, w2.cell? ⟨b, x, none⟩ = (wr.setCell ⟨b, o + k * 4, none⟩ (.int .i64 q)).cell? ⟨b, x, none⟩) := e12
        clear e12
        go_wp2_with fail
        refine (markGrantS_any l.grs vg b2 _ (q + 1 + l.way.length) hg2 hF2' (by omega) (by omega)).mono ?_
        rintro e w3 ⟨rfl, hg3, c23⟩
        have p3' : w3.cell? ⟨b, o + k * 4 + 3, none⟩ = some (.int .i64 l.drop) := by rw [cell_keep (c23.block b s2 hb2), HE.out, cell_set_ne (by omega)]; exact p3
        have f3' : w3.frozen? ⟨b, o + k * 4 + 3, none⟩ = false := by rw [c23.frozen _ _ s2, c12.frozen _ _ (by simpa using hsw), World.frozen?_setCell]; exact f3
        have R := mark_round (gone := q) (drop := q + 1 + l.way.length + 2 * l.grs.length) hsw hA HC.out hlt HD.out ⟨_, p0⟩ p1 p2 ⟨_, p3⟩ hw2 c12 hg3 c23
        have HRR : Hid (∀ j, j < n → LnCells (w3.setCell ⟨b, o + k * 4 + 3, none⟩ (.int .i64 (q + 1 + l.way.length + 2 * l.grs.length))) b (o + j * 4) (if j = k then ⟨q, markInts l.way.length (q + 1), markGrs l.grs.length (q + 1 + l.way.length), q + 1 + l.way.length + 2 * l.grs.length⟩ else if j < k then markLn (xs[j]?.getD ln0) (offs xs j K) else xs[j]?.getD ln0) (D j)) := R
        clear R
        have hch4 : Chg (b :: (List.range n).flatMap D) w (w3.setCell ⟨b, o + k * 4 + 3, none⟩ (.int .i64 (q + 1 + l.way.length + 2 * l.grs.length))) :=
          (((hch.setCell (by simp) _).trans (c12.mono fun x hx => hmem x (by rw [HD.out]; exact List.mem_append_left _ hx))).trans (c23.mono fun x hx => hmem x (by rw [HD.out]; exact List.mem_append_right _ hx))).setCell (by simp) _
        go_wp2
        go_roundw
        case rel =>
          refine ⟨k + 1, by omega, val_int (by rw [hq.out]; show _ = q + (2 + (l.way.length : Int) + 2 * l.grs.length); omega), by go_num, ?_, hch4⟩
          intro j hj
          have r := HRR.out j hj
          by_cases e : j = k
          · subst e
            rw [if_pos rfl] at r
            rw [if_pos (by omega), HLq.out, HQ'.out]
            exact r
          · rw [if_neg e] at r
            by_cases e2 : j < k
            · rw [if_pos e2] at r; rw [if_pos (by omega)]; exact r
            · rw [if_neg e2] at r; rw [if_neg (by omega)]; exact r
        case measure => simp [intOf]; omega
      · obtain rfl : k = n := by omega
        go_wp2
        go_ret
        refine ⟨rfl, ⟨_, ca, by rw [HL.out], by rw [HL.out]; exact hca, hma', Or.inr ⟨b, o, D, rfl, by rw [HL.out], Nat.lt_of_lt_of_le hs hch.size, fun i hi => ?_⟩⟩, hch⟩
        rw [HL.out] at hi
        have r := hcw i hi
        rw [if_pos hi] at r
        rw [markLns_at K (by rw [HN.out]; exact hi)]
        exact r

set_option maxHeartbeats 1000000 in
theorem heldLineS_any (xs : List Ln) (v : Value) (bs : List Nat) (w : World) (K : Int) (h : LnsAt w v (markLns xs K) bs) (h0 : 0 ≤ K) (hK : offs xs xs.length K ≤ 2305843009213693952) :
    Calls Tryd.prog 94 #[v, .int .i64 K] w fun e w' => e = .returned (.int .i64 (offs xs xs.length K)) ∧ w' = w := by
  obtain ⟨a, ca, rfl, hca, hma, h⟩ := h
  unfold maxLen at hma
  rw [markLns_len] at *
  generalize hn : xs.length = n at *
  have HN : Hid (xs.length = n) := hn
  clear hn
  go_enter Tryd.func94, Tryd.ntmps94
  go_wp2
  go_loop [1, 5] (fun kk i => ∃ k : Nat, k ≤ n ∧ kk = .int .i64 (offs xs k K) ∧ i = .int .i64 k) (fun _ i => n - (intOf i).toNat)
  case atStart => exact ⟨0, Nat.zero_le _, rfl, rfl⟩
  case round =>
    obtain ⟨k, hk, rfl, rfl⟩ := hrel
    have q1 := offs_le xs K k
    by_cases hlt : k < n
    · have q3 := offs_mono xs K (show k + 1 ≤ n by omega)
      have hq : Hid (offs xs (k + 1) K = offs xs k K + lnSize (xs[k]?.getD ln0)) := rfl
      rw [show offs xs (k + 1) K = offs xs k K + lnSize (xs[k]?.getD ln0) from rfl] at q3
      rcases h with ⟨h00, _⟩ | ⟨b, o, D, rfl, _, hs, hc⟩
      · omega
      have hline := hc k hlt
      rw [markLns_at K (by rw [HN.out]; exact hlt)] at hline
      clear hc
      generalize xs[k]?.getD ln0 = l at *
      generalize offs xs k K = q at *
      obtain ⟨vw, vg, b1, b2, p0, p1, p2, p3, hD, hw, hg⟩ := hline
      rw [show (markLn l q).gone = q from rfl] at p0
      rw [show (markLn l q).drop = q + 1 + l.way.length + 2 * l.grs.length from rfl] at p3
      rw [show (markLn l q).way = markInts l.way.length (q + 1) from rfl] at hw
      rw [show (markLn l q).grs = markGrs l.grs.length (q + 1 + l.way.length) from rfl] at hg
      have hsz : lnSize l = 2 + l.way.length + 2 * l.grs.length := rfl
      rw [hsz] at q3
      clear hsz hD
      go_wp2_with fail
      refine (heldIntS_any l.way.length vw b1 _ (q + 1) hw (by omega) (by omega)).mono ?_
      rintro e w2 ⟨rfl, rfl⟩
      go_wp2_with fail
      refine (heldGrantS_any l.grs.length vg b2 _ (q + 1 + l.way.length) hg (by omega) (by omega)).mono ?_
      rintro e w2 ⟨rfl, rfl⟩
      go_wp2
      go_round
      case rel => exact ⟨k + 1, by omega, val_int (by rw [hq.out]; show _ = q + (2 + (l.way.length : Int) + 2 * l.grs.length); omega), by go_num⟩
      case measure => simp [intOf]; omega
    · obtain rfl : k = n := by omega
      go_wp2
      go_ret
      exact ⟨rfl, rfl⟩

def markBk (k : Bk) (K : Int) : Bk := ⟨k.ok, k.sec, markLns k.lns K⟩

set_option maxHeartbeats 400000 in
theorem markBook_any (k : Bk) (v : Value) (bs : List Nat) (w : World) (K : Int) (h : BkAt w v k bs) (hf : Free w bs) (nd : bs.Nodup) (h0 : 0 ≤ K) (hK : offs k.lns k.lns.length K ≤ 2305843009213693952) :
    Calls Tryd.prog 31 #[v, .int .i64 K] w fun e w' => e = .returned (.int .i64 (offs k.lns k.lns.length K)) ∧ BkAt w' v (markBk k K) bs ∧ Chg bs w w' := by
  obtain ⟨vl, rfl, h⟩ := h
  go_enter Tryd.func31, Tryd.ntmps31
  go_wp2_with fail
  have a1 : ∀ o, Below w.heap.size w (w.alloc o) := fun o => (Below.refl _ _).alloc (Nat.le_refl _) _
  refine (markLineS_any k.lns vl bs _ K (h.below (a1 _) h.lt) (hf.below (a1 _) h.lt) nd h0 hK).mono ?_
  rintro e w2 ⟨rfl, hl2, c2⟩
  clear a1
  go_wp2
  go_ret
  exact ⟨rfl, ⟨vl, rfl, hl2⟩, ((Chg.refl _ _).alloc _ _).trans c2⟩

set_option maxHeartbeats 400000 in
theorem heldBook_any (k : Bk) (v : Value) (bs : List Nat) (w : World) (K : Int) (h : BkAt w v (markBk k K) bs) (h0 : 0 ≤ K) (hK : offs k.lns k.lns.length K ≤ 2305843009213693952) :
    Calls Tryd.prog 68 #[v, .int .i64 K] w fun e w' => e = .returned (.int .i64 (offs k.lns k.lns.length K)) ∧ Below w.heap.size w w' := by
  obtain ⟨vl, rfl, h⟩ := h
  have q1 := offs_le k.lns K k.lns.length
  go_enter Tryd.func68, Tryd.ntmps68
  go_wp2_with fail
  have a1 : ∀ o, Below w.heap.size w (w.alloc o) := fun o => (Below.refl _ _).alloc (Nat.le_refl _) _
  refine (heldLineS_any k.lns vl bs _ K (h.below (a1 _) h.lt) h0 hK).mono ?_
  rintro e w2 ⟨rfl, rfl⟩
  clear a1
  go_wp2
  go_ret
  exact ⟨rfl, (Below.refl _ _).alloc (Nat.le_refl _) _⟩

end Go.Proofs.YtnaaheddhgpnoaaDoor
