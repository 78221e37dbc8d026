import Derived.Test.YtnaaheddhgpnoaaDoorRows
import Derived.Test.YtnaaheddhgpnoaaDoorBegD
namespace Go.Proofs.YtnaaheddhgpnoaaDoor
open Go.ChangeShapes Go.WideShapes Go.ChangeAt Go.RowKit

def lnW (l : Ln) : Int := l.way.length + l.grs.length
/-- The lists of the first i lines. -/
def sumW (ls : List Ln) : Nat → Int
  | 0 => 0
  | i + 1 => sumW ls i + lnW (ls[i]?.getD ln0)
def bkW (k : Bk) : Int := k.lns.length + sumW k.lns k.lns.length
theorem lnW_pos (l : Ln) : 0 ≤ lnW l := by unfold lnW; omega
theorem sumW_pos (ls : List Ln) : ∀ i, 0 ≤ sumW ls i
  | 0 => Int.le_refl _
  | i + 1 => by have := sumW_pos ls i; have := lnW_pos (ls[i]?.getD ln0); simp only [sumW]; omega
theorem sumW_mono (ls : List Ln) {i j : Nat} (h : i ≤ j) : sumW ls i ≤ sumW ls j := by
  induction h with
  | refl => exact Int.le_refl _
  | step h ih => rename_i m; have := lnW_pos (ls[m]?.getD ln0); simp only [sumW]; omega
/-- Each line's lists are no longer than all together. -/
theorem sumW_at (ls : List Ln) {i : Nat} (h : i < ls.length) : lnW (ls[i]?.getD ln0) ≤ sumW ls ls.length := by
  have h1 := sumW_mono ls (show i + 1 ≤ ls.length from h)
  have h2 := sumW_pos ls i
  simp only [sumW] at h1
  omega

set_option maxHeartbeats 400000 in
theorem szIntS_any (xs : List Int) (v : Value) (bs : List Nat) (w : World) (L : Int) (h : IntsAt w v xs bs) (h0 : 0 ≤ L) (hL : L ≤ 1048576) :
    Calls Tryd.prog 109 #[v, .int .i64 L] w fun e w' => e = .returned (.int .i64 (if 0 ≤ L - xs.length then L - xs.length else -1)) ∧ w' = w := by
  obtain ⟨a, ca, rfl, hca, hma, h⟩ := h
  unfold maxLen at hma
  generalize xs.length = n at *
  by_cases hlt : 0 ≤ L - n
  · rw [if_pos hlt]
    have h1 : ¬ L - (n : Int) < 0 := by omega
    go_enter Tryd.func109, Tryd.ntmps109
    go_wp2
    go_ret
    exact ⟨rfl, rfl⟩
  · rw [if_neg hlt]
    have h1 : L - (n : Int) < 0 := by omega
    go_enter Tryd.func109, Tryd.ntmps109
    go_wp2
    go_ret
    exact ⟨rfl, rfl⟩
set_option maxHeartbeats 400000 in
theorem szGrantS_any (xs : List Gr) (v : Value) (bs : List Nat) (w : World) (L : Int) (h : GrsAt w v xs bs) (h0 : 0 ≤ L) (hL : L ≤ 1048576) :
    Calls Tryd.prog 110 #[v, .int .i64 L] w fun e w' => e = .returned (.int .i64 (if 0 ≤ L - xs.length then L - xs.length else -1)) ∧ w' = w := by
  obtain ⟨a, ca, rfl, hca, hma, h⟩ := h
  unfold maxLen at hma
  generalize xs.length = n at *
  by_cases hlt : 0 ≤ L - n
  · rw [if_pos hlt]
    have h1 : ¬ L - (n : Int) < 0 := by omega
    go_enter Tryd.func110, Tryd.ntmps110
    go_wp2
    go_ret
    exact ⟨rfl, rfl⟩
  · rw [if_neg hlt]
    have h1 : L - (n : Int) < 0 := by omega
    go_enter Tryd.func110, Tryd.ntmps110
    go_wp2
    go_ret
    exact ⟨rfl, rfl⟩

set_option maxHeartbeats 400000 in
theorem szLine_any (l : Ln) (v : Value) (bs : List Nat) (w : World) (L : Int) (h : LnAt w v l bs) (h0 : 0 ≤ L) (hL : L ≤ 1048576) :
    Calls Tryd.prog 89 #[v, .int .i64 L] w fun e w' => e = .returned (.int .i64 (if 0 ≤ L - lnW l then L - lnW l else -1)) ∧ Below w.heap.size w w' := by
  obtain ⟨vw, vg, b1, b2, rfl, _, hw, hg⟩ := h
  have a1 : ∀ o, Below w.heap.size w (w.alloc o) := fun o => (Below.refl _ _).alloc (Nat.le_refl _) _
  by_cases hA : 0 ≤ L - l.way.length
  · by_cases hB : 0 ≤ L - l.way.length - l.grs.length
    · have hC : (if 0 ≤ L - lnW l then L - lnW l else -1) = L - l.way.length - l.grs.length := by unfold lnW; rw [if_pos (by omega)]; omega
      rw [hC]
      have HC : Hid ((if 0 ≤ L - lnW l then L - lnW l else -1) = L - l.way.length - l.grs.length) := hC
      clear hC
      go_enter Tryd.func89, Tryd.ntmps89
      go_wp2_with fail
      refine (szIntS_any l.way vw b1 _ L (hw.below (a1 _) hw.lt) h0 hL).mono ?_
      rintro e w1 ⟨rfl, rfl⟩
      rw [if_pos hA]
      go_wp2_with fail
      refine (szGrantS_any l.grs vg b2 _ (L - l.way.length) (hg.below (a1 _) hg.lt) hA (by omega)).mono ?_
      rintro e w1 ⟨rfl, rfl⟩
      rw [if_pos hB]
      go_wp2
      go_ret
      exact ⟨rfl, a1 _⟩
    · have hC : (if 0 ≤ L - lnW l then L - lnW l else -1) = -1 := by unfold lnW; rw [if_neg (by omega)]
      rw [hC]
      have HC : Hid ((if 0 ≤ L - lnW l then L - lnW l else -1) = -1) := hC
      clear hC
      go_enter Tryd.func89, Tryd.ntmps89
      go_wp2_with fail
      refine (szIntS_any l.way vw b1 _ L (hw.below (a1 _) hw.lt) h0 hL).mono ?_
      rintro e w1 ⟨rfl, rfl⟩
      rw [if_pos hA]
      go_wp2_with fail
      refine (szGrantS_any l.grs vg b2 _ (L - l.way.length) (hg.below (a1 _) hg.lt) hA (by omega)).mono ?_
      rintro e w1 ⟨rfl, rfl⟩
      rw [if_neg (by omega)]
      go_wp2
      go_ret
      exact ⟨rfl, a1 _⟩
  · have hC : (if 0 ≤ L - lnW l then L - lnW l else -1) = -1 := by unfold lnW; rw [if_neg (by omega)]
    rw [hC]
    have HC : Hid ((if 0 ≤ L - lnW l then L - lnW l else -1) = -1) := hC
    clear hC
    go_enter Tryd.func89, Tryd.ntmps89
    go_wp2_with fail
    refine (szIntS_any l.way vw b1 _ L (hw.below (a1 _) hw.lt) h0 hL).mono ?_
    rintro e w1 ⟨rfl, rfl⟩
    rw [if_neg (by omega)]
    go_wp2
    go_ret
    exact ⟨rfl, a1 _⟩

set_option maxHeartbeats 1000000 in
theorem szLineS_any (xs : List Ln) (v : Value) (bs : List Nat) (w : World) (L : Int) (h : LnsAt w v xs bs) (h0 : 0 ≤ L) (hL : L ≤ 1048576) :
    Calls Tryd.prog 58 #[v, .int .i64 L] w fun e w' => ∃ r : Int, e = .returned (.int .i64 r) ∧ r ≤ L ∧ (0 ≤ r → r + xs.length + sumW xs xs.length = L) ∧ Below w.heap.size w w' := by
  obtain ⟨a, ca, rfl, hca, hma, h⟩ := h
  unfold maxLen at hma
  generalize hn : xs.length = n at *
  have HN : Hid (xs.length = n) := hn
  clear hn
  by_cases hA : 0 ≤ L - n
  · have h1 : ¬ L - (n : Int) < 0 := by omega
    go_enter Tryd.func58, Tryd.ntmps58
    go_wp2
    go_loopw [1, 5] (fun kk i wr => ∃ k : Nat, k ≤ n ∧ 0 ≤ L - n - sumW xs k ∧ kk = .int .i64 (L - n - sumW xs k) ∧ i = .int .i64 k ∧ Below w.heap.size w wr) (fun _ i _ => n - (intOf i).toNat)
    case atStart => exact ⟨0, Nat.zero_le _, by simpa [sumW] using hA, by simp [sumW], rfl, Below.refl _ _⟩
    case round =>
      obtain ⟨k, hk, hq0, rfl, rfl, hbw⟩ := hrel
      have hp := sumW_pos xs k
      by_cases hlt : k < n
      · rcases h with ⟨h00, _⟩ | ⟨b, o, D, rfl, _, hs, hc⟩
        · omega
        obtain ⟨vw, vg, p0, p1, p2, p3, hl⟩ := (hc k hlt).at
        have hsum : Hid (sumW xs (k + 1) = sumW xs k + lnW (xs[k]?.getD ln0)) := rfl
        have c0 := ((bcell hbw).1 _ _ hs).trans p0
        have c1 := ((bcell hbw).1 _ _ hs).trans p1
        have c2 := ((bcell hbw).1 _ _ hs).trans p2
        have c3 := ((bcell hbw).1 _ _ hs).trans p3
        have hl' := hl.below hbw hl.lt
        clear hc p0 p1 p2 p3 hl
        generalize xs[k]?.getD ln0 = l at *
        generalize hq : L - n - sumW xs k = q at *
        have HQ : Hid (L - n - sumW xs k = q) := hq
        clear hq
        by_cases hB : 0 ≤ q - lnW l
        · have h2 : ¬ q - lnW l < 0 := by omega
          go_wp2_with fail
          refine (szLine_any l _ _ _ q hl' hq0 (by have := HQ.out; omega)).mono ?_
          rintro e w1 ⟨rfl, hb1⟩
          rw [if_pos hB]
          go_wp2
          go_roundw
          case rel => exact ⟨k + 1, by omega, by have := HQ.out; rw [hsum.out]; omega, by have := HQ.out; rw [hsum.out]; exact congrArg (Value.int .i64) (by omega), by go_num, hbw.trans (hb1.mono hbw.size)⟩
          case measure => simp [intOf]; omega
        · go_wp2_with fail
          refine (szLine_any l _ _ _ q hl' hq0 (by have := HQ.out; omega)).mono ?_
          rintro e w1 ⟨rfl, hb1⟩
          rw [if_neg (by omega)]
          go_wp2
          go_ret
          exact ⟨-1, rfl, by omega, fun h => by omega, hbw.trans (hb1.mono hbw.size)⟩
      · obtain rfl : k = n := by omega
        go_wp2
        go_ret
        exact ⟨_, rfl, by omega, fun _ => by omega, hbw⟩
  · have h1 : L - (n : Int) < 0 := by omega
    go_enter Tryd.func58, Tryd.ntmps58
    go_wp2
    go_ret
    exact ⟨-1, rfl, by omega, fun h => by omega, Below.refl _ _⟩

set_option maxHeartbeats 400000 in
theorem szBook_any (k : Bk) (v : Value) (bs : List Nat) (w : World) (L : Int) (h : BkAt w v k bs) (h0 : 0 ≤ L) (hL : L ≤ 1048576) :
    Calls Tryd.prog 25 #[v, .int .i64 L] w fun e w' => ∃ r : Int, e = .returned (.int .i64 r) ∧ r ≤ L ∧ (0 ≤ r → r + bkW k = L) ∧ Below w.heap.size w w' := by
  obtain ⟨vl, rfl, h⟩ := h
  have a1 : ∀ o, Below w.heap.size w (w.alloc o) := fun o => (Below.refl _ _).alloc (Nat.le_refl _) _
  go_enter Tryd.func25, Tryd.ntmps25
  go_wp2_with fail
  refine (szLineS_any k.lns vl bs _ L (h.below (a1 _) h.lt) h0 hL).mono ?_
  rintro e w1 ⟨r, rfl, hr, hrr, hb1⟩
  have hB := (a1 _).trans (hb1.mono (by simp))
  by_cases hr0 : r < 0
  · have HR : Hid (0 ≤ r → r + k.lns.length + sumW k.lns k.lns.length = L) := hrr
    clear hrr
    go_wp2
    go_ret
    exact ⟨-1, rfl, by omega, fun h => by omega, hB⟩
  · have HR : Hid (0 ≤ r → r + k.lns.length + sumW k.lns k.lns.length = L) := hrr
    clear hrr
    go_wp2
    go_ret
    exact ⟨r, rfl, hr, fun h => by have := HR.out h; unfold bkW; omega, hB⟩

end Go.Proofs.YtnaaheddhgpnoaaDoor
