import Derived.Test.YtnaaheddhgpnoaaDoorOk3
import Derived.Test.YtnaaheddhgpnoaaDoorDoD
import Derived.Test.YtnaaheddhgpnoaaDoorCpD
namespace Go.Proofs.YtnaaheddhgpnoaaDoor
open Go.ChangeShapes Go.WideShapes Go.ChangeAt Go.RowKit

set_option maxHeartbeats 400000 in
theorem pred_any (g : Gr) (n : Int) (B : Nat) (w : World) (hc : w.cell? ⟨B, 0, none⟩ = some (.int .i64 n)) :
    Calls Tryd.prog 118 #[.agg #[.int .i64 g.ver, .int .i64 g.cel], .pointer (some ⟨B, 0, none⟩)] w fun e w' => e = .returned (.bool (g.ver == n)) ∧ Below w.heap.size w w' := by
  have hlt : B < w.heap.size := World.block_lt_of_cell? w _ hc
  go_enter Tryd.func118, Tryd.ntmps118
  go_wp2
  go_ret
  exact ⟨rfl, (Below.refl _ _).alloc (Nat.le_refl _) _⟩

def IdxIs (gs : List Gr) (n r : Int) : Prop := (∃ m : Nat, m < gs.length ∧ (gs[m]?.getD gr0).ver = n ∧ (∀ j, j < m → (gs[j]?.getD gr0).ver ≠ n) ∧ r = m) ∨ ((∀ j, j < gs.length → (gs[j]?.getD gr0).ver ≠ n) ∧ r = -1)

set_option maxHeartbeats 400000 in
theorem indexFunc_any (gs : List Gr) (n : Int) (B : Nat) (v : Value) (bs : List Nat) (w : World) (h : GrsAt w v gs bs) (hB : w.cell? ⟨B, 0, none⟩ = some (.int .i64 n)) :
    Calls Tryd.prog 117 #[v, .func (.func 118) #[] #[.pointer (some ⟨B, 0, none⟩)]] w fun e w' => (∃ r, e = .returned (.int .i64 r) ∧ IdxIs gs n r) ∧ Below w.heap.size w w' := by
  have hBlt : B < w.heap.size := World.block_lt_of_cell? w _ hB
  obtain ⟨a, c, rfl, hlc, hcm, hg⟩ := h
  unfold maxLen at hcm
  generalize hgs : gs.length = q at *
  have HQ : Hid (gs.length = q) := hgs
  clear hgs
  go_enter Tryd.func117, Tryd.ntmps117
  go_wp2
  go_loopw [8] (fun i wr => ∃ k : Nat, k ≤ q ∧ i = .int .i64 k ∧ (∀ j, j < k → (gs[j]?.getD gr0).ver ≠ n) ∧ Below w.heap.size w wr) (fun i _ => q - (intOf i).toNat)
  case atStart => exact ⟨0, Nat.zero_le _, rfl, fun j hj => absurd hj (by omega), Below.refl _ _⟩
  case round =>
    obtain ⟨k, hk, rfl, hnot, hbw⟩ := hrel
    have HN : Hid (∀ j, j < k → (gs[j]?.getD gr0).ver ≠ n) := hnot
    clear hnot
    by_cases hlt : k < q
    · rcases hg with ⟨h00, _⟩ | ⟨b, o, rfl, _, hs, hc⟩
      · omega
      have c1 := ((bcell hbw).1 _ _ hs).trans (hc k hlt).1
      have c2 := ((bcell hbw).1 _ _ hs).trans (hc k hlt).2
      have hBw := ((bcell hbw).1 _ 0 hBlt).trans hB
      clear hc
      generalize hgk : gs[k]?.getD gr0 = g at *
      have HGk : Hid (gs[k]?.getD gr0 = g) := hgk
      clear hgk
      go_wp2_with fail
      refine (pred_any g n B _ hBw).mono ?_
      rintro e w1 ⟨rfl, hb1⟩
      have hb := hbw.trans (hb1.mono hbw.size)
      by_cases he : g.ver = n
      · have he' : (g.ver == n) = true := by simp [he]
        have HR : Hid (IdxIs gs n k) := Or.inl ⟨k, by rw [HQ.out]; exact hlt, by rw [HGk.out]; exact he, HN.out, rfl⟩
        clear he
        go_wp2
        go_ret
        exact ⟨⟨k, rfl, HR.out⟩, hb⟩
      · have he' : (g.ver == n) = false := by simp [he]
        have HS : Hid (∀ j, j < k + 1 → (gs[j]?.getD gr0).ver ≠ n) := fun j hj => by
          by_cases e : j = k
          · subst e; rw [HGk.out]; exact he
          · exact HN.out j (by omega)
        clear he
        go_wp2
        go_roundw
        case rel => exact ⟨k + 1, by omega, by go_num, HS.out, hb⟩
        case measure => simp [intOf]; omega
    · obtain rfl : k = q := by omega
      have HR : Hid (IdxIs gs n (-1)) := Or.inr ⟨by rw [HQ.out]; exact HN.out, rfl⟩
      go_wp2
      go_ret
      exact ⟨⟨_, rfl, HR.out⟩, hbw⟩

/-- The grants of a right line bear versions in a row. -/
theorem vers_row {l : Ln} (h : GrsOk l) : ∀ i, i < l.grs.length → (l.grs[i]?.getD gr0).ver = firstVer l + i
  | 0, _ => by simp [firstVer]
  | i + 1, hi => by
    have e := (h.each (i + 1) hi).next (by omega)
    rw [Nat.add_sub_cancel] at e
    rw [e, vers_row h i (by omega)]
    omega
theorem idx_right {l : Ln} {n r : Int} (h : GrsOk l) (hi : IdxIs l.grs n r) : (0 ≤ r ∧ r = n - firstVer l ∧ r < l.grs.length) ∨ (r = -1 ∧ ¬ (0 ≤ n - firstVer l ∧ n - firstVer l < l.grs.length)) := by
  rcases hi with ⟨m, hm, hv, _, rfl⟩ | ⟨hn, rfl⟩
  · rw [vers_row h m hm] at hv
    exact Or.inl ⟨by omega, by omega, by omega⟩
  · refine Or.inr ⟨rfl, fun ⟨h0, h1⟩ => ?_⟩
    obtain ⟨m, hm⟩ := Int.eq_ofNat_of_zero_le h0
    have hlt : m < l.grs.length := by omega
    have := vers_row h m hlt
    exact hn m hlt (by omega)

/-- What since gives: the slice of the grants from that version on, or nil. -/
def SinceIs (l : Ln) (n : Int) (ga : Option Addr) (gc : Nat) (v : Value) : Prop :=
  (¬ (0 ≤ n - firstVer l ∧ n - firstVer l < l.grs.length) ∧ v = .slice none 0 0) ∨ ∃ (m : Nat) (b o : Nat), n - firstVer l = m ∧ m < l.grs.length ∧ ga = some ⟨b, o, none⟩ ∧ v = .slice (some ⟨b, o + m * 2, none⟩) (l.grs.length - m) (gc - m)

set_option maxHeartbeats 1000000 in
theorem since_any (l : Ln) (n : Int) (va : Value) (ga : Option Addr) (gc : Nat) (bs : List Nat) (w : World) (h : LnAt w (.agg #[.int .i64 l.gone, va, .slice ga l.grs.length gc, .int .i64 l.drop]) l bs) (hG : GrsOk l) :
    Calls Tryd.prog 96 #[.agg #[.int .i64 l.gone, va, .slice ga l.grs.length gc, .int .i64 l.drop], .int .i64 n] w fun e w' => (∃ v, e = .returned v ∧ SinceIs l n ga gc v) ∧ Below w.heap.size w w' := by
  obtain ⟨vw, vg, b1, b2, hv, _, hw, hg⟩ := h
  simp only [Value.agg.injEq, Array.mk.injEq, List.cons.injEq, and_true, true_and] at hv
  obtain ⟨rfl, rfl⟩ := hv
  obtain ⟨sa, sn, sc, rfl⟩ := hw.slice
  have HG : Hid (GrsOk l) := hG
  have eW : Below w.heap.size w ((w.alloc (.cells #[.int .i64 l.gone, .slice sa sn sc, .slice ga l.grs.length gc, .int .i64 l.drop] 38)).alloc (.cells #[.int .i64 n] 3)) := ((Below.refl _ _).alloc (Nat.le_refl _) _).alloc (by simp) _
  have eL : BlkIs ((w.alloc (.cells #[.int .i64 l.gone, .slice sa sn sc, .slice ga l.grs.length gc, .int .i64 l.drop] 38)).alloc (.cells #[.int .i64 n] 3)) w.heap.size [.int .i64 l.gone, .slice sa sn sc, .slice ga l.grs.length gc, .int .i64 l.drop] 38 := (BlkIs.new _ _ _).alloc _
  have eN : BlkIs ((w.alloc (.cells #[.int .i64 l.gone, .slice sa sn sc, .slice ga l.grs.length gc, .int .i64 l.drop] 38)).alloc (.cells #[.int .i64 n] 3)) (w.heap.size + 1) [.int .i64 n] 3 := BlkIs.new2 _ _ _ _
  have hgl1 : (1 : Int) ≤ (l.grs.length : Int) := by have := hG.some; omega
  have hgl2 : (l.grs.length : Int) ≤ 20 := by have := hG.few; omega
  obtain ⟨_, _, hv, hlc, hcm, hgg⟩ := id hg
  simp only [Value.slice.injEq, true_and] at hv
  obtain ⟨rfl, rfl⟩ := hv
  unfold maxLen at hcm
  rcases hgg with ⟨h00, _⟩ | ⟨gb, go, rfl, _, _, _⟩
  · omega
  clear hG
  go_enter Tryd.func96, Tryd.ntmps96
  go_wp2_with fail
  generalize (w.alloc (.cells #[.int .i64 l.gone, .slice sa sn sc, .slice (some ⟨gb, go, none⟩) l.grs.length gc, .int .i64 l.drop] 38)).alloc (.cells #[.int .i64 n] 3) = W at *
  refine (indexFunc_any l.grs n (w.heap.size + 1) _ b2 _ (hg.below eW hg.lt) (eN.cell 0)).mono ?_
  rintro e w1 ⟨⟨r, rfl, hr⟩, hb1⟩
  have hri := idx_right HG.out hr
  have eW1 := eW.trans (hb1.mono eW.size)
  have eL1 := eL.below hb1 eL.lt
  obtain ⟨q0, q1, q2, q3⟩ := eL1.four
  clear hr hb1 eL eN hg hw
  rcases hri with ⟨h0, h1, h2⟩ | ⟨rfl, h1⟩
  · obtain ⟨m, hm⟩ := Int.eq_ofNat_of_zero_le h0
    subst hm
    have HS : Hid (SinceIs l n (some ⟨gb, go, none⟩) gc (.slice (some ⟨gb, go + m * 2, none⟩) (l.grs.length - m) (gc - m))) := Or.inr ⟨m, gb, go, h1.symm, by omega, rfl, rfl⟩
    have hcne : ¬ gc = m := by omega
    clear h1
    go_wp2
    go_ret
    exact ⟨⟨_, rfl, HS.out⟩, eW1⟩
  · have HS : Hid (SinceIs l n (some ⟨gb, go, none⟩) gc (.slice none 0 0)) := Or.inl ⟨h1, rfl⟩
    clear h1
    go_wp2
    go_ret
    exact ⟨⟨_, rfl, HS.out⟩, eW1⟩

end Go.Proofs.YtnaaheddhgpnoaaDoor
