import Derived.Test.YtnaaheddhgpnoabBookOk
import Derived.Test.YtnaaheddhgpnoabBegin
import Derived.Test.YtnaaheddhgpnoabOnD
namespace Go.Proofs.Ytnaaheddhgpnoab
open Go.ChangeShapes Go.WideShapes Go.ChangeAt Go.RowKit

theorem alloc2' (w : World) (o1 o2 : Obj) : Below w.heap.size w ((w.alloc o1).alloc o2) := ((Below.refl _ _).alloc (Nat.le_refl _) _).alloc (by simp) _

set_option maxHeartbeats 1000000 in
theorem index_any (gs : List Gr) (vv cc : Int) (v : Value) (bs : List Nat) (w : World) (h : GrsAt w v gs bs) :
    Calls Try.prog 67 #[v, .agg #[.int .i64 vv, .int .i64 cc]] w fun e w' => (∃ r, e = .returned (.int .i64 r) ∧ (0 ≤ r ↔ HasG gs vv cc)) ∧ Below w.heap.size w w' := by
  obtain ⟨a, c, rfl, hlc, hcm, hg⟩ := h
  unfold maxLen at hcm
  generalize hgs : gs.length = q at *
  have HQ : Hid (gs.length = q) := hgs
  clear hgs
  have B0 : Below w.heap.size w (w.alloc (.cells #[.int .i64 vv, .int .i64 cc] 52)) := (Below.refl _ _).alloc (Nat.le_refl _) _
  have X0 : BlkIs (w.alloc (.cells #[.int .i64 vv, .int .i64 cc] 52)) w.heap.size [.int .i64 vv, .int .i64 cc] 52 := BlkIs.new _ _ _
  go_enter Try.func67, Try.ntmps67
  go_wp2
  go_loopw [8] (fun i wr => ∃ k : Nat, k ≤ q ∧ i = .int .i64 k ∧ (∀ j, j < k → ¬ ((gs[j]?.getD gr0).ver = vv ∧ (gs[j]?.getD gr0).cel = cc)) ∧ Below w.heap.size w wr ∧ BlkIs wr w.heap.size [.int .i64 vv, .int .i64 cc] 52) (fun i _ => q - (intOf i).toNat)
  case atStart => exact ⟨0, Nat.zero_le _, rfl, fun j hj => absurd hj (by omega), B0, X0⟩
  case round =>
    clear X0 B0
    obtain ⟨k, hk, rfl, hnot, hbw, X⟩ := hrel
    have HN : Hid (∀ j, j < k → ¬ ((gs[j]?.getD gr0).ver = vv ∧ (gs[j]?.getD gr0).cel = cc)) := hnot
    clear hnot
    by_cases hlt : k < q
    · rcases hg with ⟨h00, _⟩ | ⟨b, o, rfl, _, hs, hc⟩
      · omega
      have c1 := ((bcell hbw).1 _ _ hs).trans (hc k hlt).1
      have c2 := ((bcell hbw).1 _ _ hs).trans (hc k hlt).2
      have x1 : wr.cell? ⟨w.heap.size, 0, none⟩ = some (.int .i64 vv) := X.cell 0
      have x2 : wr.cell? ⟨w.heap.size, 1, none⟩ = some (.int .i64 cc) := X.cell 1
      clear hc
      generalize hgk : gs[k]?.getD gr0 = g at *
      have HGk : Hid (gs[k]?.getD gr0 = g) := hgk
      clear hgk
      by_cases e1 : vv = g.ver
      · by_cases e2 : cc = g.cel
        · have HR : Hid ((0 : Int) ≤ (k : Int) ↔ HasG gs vv cc) := ⟨fun _ => ⟨k, by rw [HQ.out]; exact hlt, by rw [HGk.out]; exact e1.symm, by rw [HGk.out]; exact e2.symm⟩, fun _ => by omega⟩
          have hb2 := hbw.drew
          clear X
          go_wp2_with fail
          go_region
          clear c1 c2 x1 x2
          go_wp2
          go_ret
          exact ⟨⟨k, rfl, HR.out⟩, hb2⟩
        · have HE : Hid (¬ (g.ver = vv ∧ g.cel = cc)) := fun h => e2 h.2.symm
          have HS : Hid (∀ j, j < k + 1 → ¬ ((gs[j]?.getD gr0).ver = vv ∧ (gs[j]?.getD gr0).cel = cc)) := fun j hj => by
            by_cases e : j = k
            · subst e; rw [HGk.out]; exact HE.out
            · exact HN.out j (by omega)
          have X2 : BlkIs wr.drew w.heap.size [.int .i64 vv, .int .i64 cc] 52 := X
          have hb2 := hbw.drew
          go_wp2_with fail
          go_region
          clear c1 c2 x1 x2
          go_wp2
          go_roundw
          case rel => exact ⟨k + 1, by omega, by go_num, HS.out, hb2, X2⟩
          case measure => simp [intOf]; omega
      · have HE : Hid (¬ (g.ver = vv ∧ g.cel = cc)) := fun h => e1 h.1.symm
        have HS : Hid (∀ j, j < k + 1 → ¬ ((gs[j]?.getD gr0).ver = vv ∧ (gs[j]?.getD gr0).cel = cc)) := fun j hj => by
          by_cases e : j = k
          · subst e; rw [HGk.out]; exact HE.out
          · exact HN.out j (by omega)
        have X2 : BlkIs wr.drew w.heap.size [.int .i64 vv, .int .i64 cc] 52 := X
        have hb2 := hbw.drew
        go_wp2_with fail
        go_region
        clear c1 c2 x1 x2
        go_wp2
        go_roundw
        case rel => exact ⟨k + 1, by omega, by go_num, HS.out, hb2, X2⟩
        case measure => simp [intOf]; omega
    · have HR : Hid ((0 : Int) ≤ -1 ↔ HasG gs vv cc) := ⟨fun h => by omega, fun ⟨i, hi, h1, h2⟩ => absurd ⟨h1, h2⟩ (HN.out i (by have := HQ.out; omega))⟩
      go_wp2
      go_ret
      exact ⟨⟨-1, rfl, HR.out⟩, hbw⟩

set_option maxHeartbeats 1000000 in
theorem contains_any (gs : List Gr) (vv cc : Int) (v : Value) (bs : List Nat) (w : World) (h : GrsAt w v gs bs) :
    Calls Try.prog 61 #[v, .agg #[.int .i64 vv, .int .i64 cc]] w fun e w' => (∃ b : Bool, e = .returned (.bool b) ∧ (b = true ↔ HasG gs vv cc)) ∧ Below w.heap.size w w' := by
  obtain ⟨a, n, c, rfl⟩ := h.slice
  have B0 : Below w.heap.size w (w.alloc (.cells #[.int .i64 vv, .int .i64 cc] 52)) := (Below.refl _ _).alloc (Nat.le_refl _) _
  go_enter Try.func61, Try.ntmps61
  go_wp2_with fail
  refine (index_any gs vv cc _ bs _ (h.below B0 h.lt)).mono ?_
  rintro e w1 ⟨⟨r, rfl, hr⟩, hb1⟩
  have hb := B0.trans (hb1.mono B0.size)
  have HR : Hid (0 ≤ r ↔ HasG gs vv cc) := hr
  clear hr
  go_wp2
  go_ret
  refine ⟨⟨_, rfl, ?_⟩, hb⟩
  rw [← HR.out]
  simp

set_option maxHeartbeats 1000000 in
theorem bodyRight_any (l : Ln) (b : Bd) (v : Value) (bs : List Nat) (w : World) (h : LnAt w v l bs) :
    Calls Try.prog 50 #[.agg #[.int .i64 b.ver, .int .i64 b.cel, .int .i64 b.tail, .int .i64 b.front], v] w fun e w' => RetB e (BodyOk l b) ∧ Below w.heap.size w w' := by
  obtain ⟨vw, vg, b1, b2, rfl, _, hw, hg⟩ := h
  obtain ⟨a1, n1, c1, rfl⟩ := hw.slice
  obtain ⟨a2, n2, c2, rfl⟩ := hg.slice
  have B0 : Below w.heap.size w ((w.alloc (.cells #[.int .i64 b.ver, .int .i64 b.cel, .int .i64 b.tail, .int .i64 b.front] 54)).alloc (.cells #[.int .i64 l.gone, .slice a1 n1 c1, .slice a2 n2 c2, .int .i64 l.drop] 50)) := alloc2' w _ _
  have X0 : BlkIs ((w.alloc (.cells #[.int .i64 b.ver, .int .i64 b.cel, .int .i64 b.tail, .int .i64 b.front] 54)).alloc (.cells #[.int .i64 l.gone, .slice a1 n1 c1, .slice a2 n2 c2, .int .i64 l.drop] 50)) w.heap.size [.int .i64 b.ver, .int .i64 b.cel, .int .i64 b.tail, .int .i64 b.front] 54 := (BlkIs.new _ _ _).alloc _
  have Y0 : BlkIs ((w.alloc (.cells #[.int .i64 b.ver, .int .i64 b.cel, .int .i64 b.tail, .int .i64 b.front] 54)).alloc (.cells #[.int .i64 l.gone, .slice a1 n1 c1, .slice a2 n2 c2, .int .i64 l.drop] 50)) (w.heap.size + 1) [.int .i64 l.gone, .slice a1 n1 c1, .slice a2 n2 c2, .int .i64 l.drop] 50 := by
    have := BlkIs.new (w.alloc (.cells #[.int .i64 b.ver, .int .i64 b.cel, .int .i64 b.tail, .int .i64 b.front] 54)) [.int .i64 l.gone, .slice a1 n1 c1, .slice a2 n2 c2, .int .i64 l.drop] 50
    rwa [World.size_alloc] at this
  have a3 : Below ((w.alloc (.cells #[.int .i64 b.ver, .int .i64 b.cel, .int .i64 b.tail, .int .i64 b.front] 54)).alloc (.cells #[.int .i64 l.gone, .slice a1 n1 c1, .slice a2 n2 c2, .int .i64 l.drop] 50)).heap.size ((w.alloc (.cells #[.int .i64 b.ver, .int .i64 b.cel, .int .i64 b.tail, .int .i64 b.front] 54)).alloc (.cells #[.int .i64 l.gone, .slice a1 n1 c1, .slice a2 n2 c2, .int .i64 l.drop] 50)) (((w.alloc (.cells #[.int .i64 b.ver, .int .i64 b.cel, .int .i64 b.tail, .int .i64 b.front] 54)).alloc (.cells #[.int .i64 l.gone, .slice a1 n1 c1, .slice a2 n2 c2, .int .i64 l.drop] 50)).alloc (.cells #[.int .i64 b.ver, .int .i64 b.cel] 52)) := (Below.refl _ _).alloc (Nat.le_refl _) _
  have X1 := X0.below a3 X0.lt
  have Y1 := Y0.below a3 Y0.lt
  have B1 := B0.trans (a3.mono B0.size)
  clear X0 Y0 B0 a3
  go_enter Try.func50, Try.ntmps50
  go_wp2_with fail
  generalize (((w.alloc (.cells #[.int .i64 b.ver, .int .i64 b.cel, .int .i64 b.tail, .int .i64 b.front] 54)).alloc (.cells #[.int .i64 l.gone, .slice a1 n1 c1, .slice a2 n2 c2, .int .i64 l.drop] 50)).alloc (.cells #[.int .i64 b.ver, .int .i64 b.cel] 52)) = V at *
  refine (contains_any l.grs b.ver b.cel _ b2 _ (hg.below B1 hg.lt)).mono ?_
  rintro e w1 ⟨⟨r, rfl, hr⟩, hb1⟩
  have X2 := X1.below hb1 X1.lt
  have Y2 := Y1.below hb1 Y1.lt
  have hb := B1.trans (hb1.mono B1.size)
  obtain ⟨x0, x1, x2, x3⟩ := X2.four
  obtain ⟨y0, y1, y2, y3⟩ := Y2.four
  clear X1 Y1 X2 Y2 hb1 B1
  cases r with
  | false =>
    have HR : Hid (¬ BodyOk l b) := fun h => by have := hr.2 h.has; simp at this
    clear hr
    go_wp2
    go_ret
    exact ⟨RetB.no HR.out, hb⟩
  | true =>
    have hh := hr.1 rfl
    have HH : Hid (HasG l.grs b.ver b.cel) := hh
    clear hr hh
    by_cases hin : l.gone ≤ b.tail ∧ b.tail ≤ b.front
    · obtain ⟨i1, i2⟩ := hin
      go_wp2_with fail
      refine (within_yes b.tail l.gone b.front _ i1 i2).mono ?_
      rintro e w1 ⟨rfl, rfl⟩
      by_cases h3 : b.front < b.cel
      · have HR : Hid (BodyOk l b) := ⟨HH.out, i1, i2, h3⟩
        go_wp2
        go_ret
        exact ⟨RetB.of ⟨fun _ => HR.out, fun _ => by simp⟩, hb⟩
      · have HR : Hid (¬ BodyOk l b) := fun h => h3 h.hi
        go_wp2
        go_ret
        exact ⟨RetB.of ⟨fun h => by simp at h; omega, fun h => absurd h HR.out⟩, hb⟩
    · have HR : Hid (¬ BodyOk l b) := fun h => hin ⟨h.lo, h.mid⟩
      go_wp2_with fail
      refine (within_no b.tail l.gone b.front _ hin).mono ?_
      rintro e w1 ⟨rfl, rfl⟩
      go_wp2
      go_ret
      exact ⟨RetB.no HR.out, hb⟩

set_option maxHeartbeats 1000000 in
theorem bodyOn_any (b : Bd) (c : Int) (w : World) :
    Calls Try.prog 35 #[.agg #[.int .i64 b.ver, .int .i64 b.cel, .int .i64 b.tail, .int .i64 b.front], .int .i64 c] w fun e w' => e = .returned (.bool (decide (b.tail ≤ c ∧ c ≤ b.front))) ∧ Below w.heap.size w w' := by
  have hb : Below w.heap.size w (w.alloc (.cells #[.int .i64 b.ver, .int .i64 b.cel, .int .i64 b.tail, .int .i64 b.front] 54)) := (Below.refl _ _).alloc (Nat.le_refl _) _
  by_cases hin : b.tail ≤ c ∧ c ≤ b.front
  · obtain ⟨i1, i2⟩ := hin
    go_enter Try.func35, Try.ntmps35
    go_wp2_with fail
    refine (within_yes c b.tail b.front _ i1 i2).mono ?_
    rintro e w1 ⟨rfl, rfl⟩
    go_wp2
    go_ret
    exact ⟨by simp [i1, i2], hb⟩
  · go_enter Try.func35, Try.ntmps35
    go_wp2_with fail
    refine (within_no c b.tail b.front _ hin).mono ?_
    rintro e w1 ⟨rfl, rfl⟩
    go_wp2
    go_ret
    exact ⟨by simp [hin], hb⟩

end Go.Proofs.Ytnaaheddhgpnoab
