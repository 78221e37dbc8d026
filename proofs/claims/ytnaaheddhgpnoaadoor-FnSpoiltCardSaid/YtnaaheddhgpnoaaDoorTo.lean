import Derived.Test.YtnaaheddhgpnoaaDoorRows
import Derived.Test.YtnaaheddhgpnoaaDoorToD
import Derived.Test.YtnaaheddhgpnoaaDoorSz
namespace Go.Proofs.YtnaaheddhgpnoaaDoor
open Go.ChangeShapes Go.WideShapes Go.ChangeAt Go.RowKit

theorem Tryd.infoInt : (Tryd.prog.info? 3).map (fun i => (i.zero, i.size, i.bytes)) = some (some (.int .i64 0), 1, 8) := by kernel_rfl
theorem Tryd.infoGrant : (Tryd.prog.info? 40).map (fun i => (i.zero, i.size, i.bytes)) = some (some (.agg #[.int .i64 0, .int .i64 0]), 2, 16) := by kernel_rfl
theorem Tryd.infoLn : (Tryd.prog.info? 38).map (fun i => (i.zero, i.size, i.bytes)) = some (some (.agg #[.int .i64 0, .slice none 0 0, .slice none 0 0, .int .i64 0]), 4, 64) := by kernel_rfl

set_option maxHeartbeats 400000 in
theorem toIntS_any (xs : List Int) (v : Value) (bs : List Nat) (w : World) (h : IntsAt w v xs bs) (hL : xs.length ≤ 1048576) :
    Calls Tryd.prog 111 #[v] w fun e w' => ∃ v', e = .returned v' ∧ NewInts w w' v' xs := by
  obtain ⟨a, ca, rfl, hca, hma, h⟩ := h
  unfold maxLen at hma
  have hend := fun wr => newInts_end (w := w) (wr := wr) (xs := xs)
  generalize hn : xs.length = n at *
  obtain ⟨i, hi, hz0, hz1, hz2⟩ := info_parts Tryd.infoInt
  have hmk := fun W : World => run_make (P := Tryd.prog) W 35 3 i _ Tryd.underlying35 hi hz0 .i64 .i64 (n : Int) (n : Int) (by omega) (Int.le_refl _) (by rw [hz2]; omega) (by omega)
  rw [hz1] at hmk
  clear hi hz0 hz1 hz2 hn
  have H0 := RowInv.start w #[.int .i64 0] n 3
  have HE : Hid (∀ wr, RowInv w wr w.heap.size n → n ≤ 1048576 → (∀ j, j < n → wr.cell? ⟨w.heap.size, j, none⟩ = some (.int .i64 (xs[j]?.getD 0))) → NewInts w wr (.slice (some ⟨w.heap.size, 0, none⟩) n n) xs) := hend
  clear hend
  go_enter Tryd.func111, Tryd.ntmps111
  go_wp2
  go_loopw [4] (fun i wr => ∃ k : Nat, k ≤ n ∧ i = .int .i64 k ∧ RowInv w wr w.heap.size n ∧ ∀ j, j < k → wr.cell? ⟨w.heap.size, j, none⟩ = some (.int .i64 (xs[j]?.getD 0))) (fun i _ => n - (intOf i).toNat)
  case atStart => exact ⟨0, Nat.zero_le _, rfl, H0, fun j hj => by omega⟩
  case round =>
    obtain ⟨k, hk, rfl, hI, hcw⟩ := hrel
    by_cases hlt : k < n
    · rcases h with ⟨h00, _⟩ | ⟨b, o, rfl, _, hs, hc⟩
      · omega
      obtain ⟨u, hu⟩ := hI.ex k hlt
      have hz := hI.free k
      have c1 := ((bcell hI.below).1 _ _ hs).trans (hc k hlt)
      have HC : Hid (∀ j, j < k → wr.cell? ⟨w.heap.size, j, none⟩ = some (.int .i64 (xs[j]?.getD 0))) := hcw
      clear hcw hc hmk H0
      go_wp2
      go_roundw
      case rel =>
        refine ⟨k + 1, by omega, by go_num, hI.set _ _, fun j hj => ?_⟩
        by_cases e : j = k
        · subst e; exact World.cell?_setCell_same _ _ _ hu
        · rw [cell_set_ne (by omega)]; exact HC.out j (by omega)
      case measure => simp [intOf]; omega
    · obtain rfl : k = n := by omega
      have hfin := HE.out wr hI hL hcw
      clear hmk H0
      go_wp2
      go_ret
      exact ⟨_, rfl, hfin⟩

set_option maxHeartbeats 400000 in
theorem toGrant_any (g : Gr) (w : World) :
    Calls Tryd.prog 139 #[.agg #[.int .i64 g.ver, .int .i64 g.cel]] w fun e w' => e = .returned (.agg #[.int .i64 g.ver, .int .i64 g.cel]) ∧ Below w.heap.size w w' := by
  go_enter Tryd.func139, Tryd.ntmps139
  go_wp2
  exact bodyPost_ret (v := .agg #[.int .i64 g.ver, .int .i64 g.cel]) (by simp [results, Tryd.results139, go_sem]) rfl ⟨rfl, by repeat (first | exact Below.refl _ _ | refine Below.setCell ?_ (by simp <;> omega) _ | refine Below.alloc ?_ (by simp <;> omega) _)⟩

set_option maxHeartbeats 400000 in
theorem toGrantS_any (xs : List Gr) (v : Value) (bs : List Nat) (w : World) (h : GrsAt w v xs bs) (hL : xs.length ≤ 1048576) :
    Calls Tryd.prog 112 #[v] w fun e w' => ∃ v', e = .returned v' ∧ NewGrs w w' v' xs := by
  obtain ⟨a, ca, rfl, hca, hma, h⟩ := h
  unfold maxLen at hma
  have hend := fun wr => newGrs_end (w := w) (wr := wr) (xs := xs)
  generalize hn : xs.length = n at *
  obtain ⟨i, hi, hz0, hz1, hz2⟩ := info_parts Tryd.infoGrant
  have hmk := fun W : World => run_make (P := Tryd.prog) W 36 40 i _ Tryd.underlying36 hi hz0 .i64 .i64 (n : Int) (n : Int) (by omega) (Int.le_refl _) (by rw [hz2]; omega) (by omega)
  rw [hz1] at hmk
  clear hi hz0 hz1 hz2 hn
  have H0 := RowInv.start w #[.int .i64 0, .int .i64 0] (n * 2) 40
  have HE : Hid (∀ wr, RowInv w wr w.heap.size (n * 2) → n ≤ 1048576 → (∀ j, j < n → wr.cell? ⟨w.heap.size, j * 2, none⟩ = some (.int .i64 (xs[j]?.getD gr0).ver) ∧ wr.cell? ⟨w.heap.size, j * 2 + 1, none⟩ = some (.int .i64 (xs[j]?.getD gr0).cel)) → NewGrs w wr (.slice (some ⟨w.heap.size, 0, none⟩) n n) xs) := hend
  clear hend
  go_enter Tryd.func112, Tryd.ntmps112
  go_wp2
  go_loopw [4] (fun i wr => ∃ k : Nat, k ≤ n ∧ i = .int .i64 k ∧ RowInv w wr w.heap.size (n * 2) ∧ ∀ j, j < k → wr.cell? ⟨w.heap.size, j * 2, none⟩ = some (.int .i64 (xs[j]?.getD gr0).ver) ∧ wr.cell? ⟨w.heap.size, j * 2 + 1, none⟩ = some (.int .i64 (xs[j]?.getD gr0).cel)) (fun i _ => n - (intOf i).toNat)
  case atStart => exact ⟨0, Nat.zero_le _, rfl, H0, fun j hj => by omega⟩
  case round =>
    obtain ⟨k, hk, rfl, hI, hcw⟩ := hrel
    by_cases hlt : k < n
    · rcases h with ⟨h00, _⟩ | ⟨b, o, rfl, _, hs, hc⟩
      · omega
      have c1 := ((bcell hI.below).1 _ _ hs).trans (hc k hlt).1
      have c2 := ((bcell hI.below).1 _ _ hs).trans (hc k hlt).2
      have HC : Hid (∀ j, j < k → wr.cell? ⟨w.heap.size, j * 2, none⟩ = some (.int .i64 (xs[j]?.getD gr0).ver) ∧ wr.cell? ⟨w.heap.size, j * 2 + 1, none⟩ = some (.int .i64 (xs[j]?.getD gr0).cel)) := hcw
      clear hcw hc hmk H0
      go_wp2_with fail
      refine (toGrant_any _ _).mono ?_
      rintro e w1 ⟨rfl, hb1⟩
      have hI1 := hI.ext hb1 hI.lt
      obtain ⟨u, hu⟩ := hI1.ex (k * 2) (by omega)
      obtain ⟨u', hu'⟩ := hI1.ex (k * 2 + 1) (by omega)
      have hz := hI1.free (k * 2)
      have hz' := hI1.free (k * 2 + 1)
      have HC1 : Hid (∀ j, j < k → w1.cell? ⟨w.heap.size, j * 2, none⟩ = some (.int .i64 (xs[j]?.getD gr0).ver) ∧ w1.cell? ⟨w.heap.size, j * 2 + 1, none⟩ = some (.int .i64 (xs[j]?.getD gr0).cel)) := fun j hj => by
        rw [(bcell hb1).1 _ _ hI.lt, (bcell hb1).1 _ _ hI.lt]; exact HC.out j hj
      clear c1 c2 HC
      go_wp2
      go_roundw
      case rel =>
        refine ⟨k + 1, by omega, by go_num, (hI1.set _ _).set _ _, fun j hj => ?_⟩
        by_cases e : j = k
        · subst e
          exact ⟨by rw [cell_set_ne (by omega)]; exact World.cell?_setCell_same _ _ _ hu, World.cell?_setCell_same _ _ _ (by rw [cell_set_ne (by omega)]; exact hu')⟩
        · rw [cell_set_ne (by omega), cell_set_ne (by omega), cell_set_ne (by omega), cell_set_ne (by omega)]; exact HC1.out j (by omega)
      case measure => simp [intOf]; omega
    · obtain rfl : k = n := by omega
      have hfin := HE.out wr hI hL hcw
      clear hmk H0
      go_wp2
      go_ret
      exact ⟨_, rfl, hfin⟩

set_option maxHeartbeats 400000 in
theorem toLine_any (l : Ln) (v : Value) (bs : List Nat) (w : World) (h : LnAt w v l bs) (hL1 : l.way.length ≤ 1048576) (hL2 : l.grs.length ≤ 1048576) :
    Calls Tryd.prog 90 #[v] w fun e w' => ∃ vw vg, e = .returned (.agg #[.int .i64 l.gone, vw, vg, .int .i64 l.drop]) ∧ NewLn w w' (.agg #[.int .i64 l.gone, vw, vg, .int .i64 l.drop]) l := by
  obtain ⟨vw, vg, b1, b2, rfl, _, hw, hg⟩ := h
  go_enter Tryd.func90, Tryd.ntmps90
  go_wp2_with fail
  have eA : BlkIs (((w.alloc (.cells #[.int .i64 l.gone, vw, vg, .int .i64 l.drop] 141)).alloc (.cells #[.int .i64 0, .slice none 0 0, .slice none 0 0, .int .i64 0] 38)).alloc (.cells #[.int .i64 l.gone, .slice none 0 0, .slice none 0 0, .int .i64 0] 38)) w.heap.size [.int .i64 l.gone, vw, vg, .int .i64 l.drop] 141 := ((BlkIs.new _ _ _).alloc _).alloc _
  have eR : BlkIs (((w.alloc (.cells #[.int .i64 l.gone, vw, vg, .int .i64 l.drop] 141)).alloc (.cells #[.int .i64 0, .slice none 0 0, .slice none 0 0, .int .i64 0] 38)).alloc (.cells #[.int .i64 l.gone, .slice none 0 0, .slice none 0 0, .int .i64 0] 38)) (w.heap.size + 1) [.int .i64 0, .slice none 0 0, .slice none 0 0, .int .i64 0] 38 := by
    have := (BlkIs.new (w.alloc (.cells #[.int .i64 l.gone, vw, vg, .int .i64 l.drop] 141)) [.int .i64 0, .slice none 0 0, .slice none 0 0, .int .i64 0] 38).alloc (.cells #[.int .i64 l.gone, .slice none 0 0, .slice none 0 0, .int .i64 0] 38)
    rwa [World.size_alloc] at this
  have eO : BlkIs (((w.alloc (.cells #[.int .i64 l.gone, vw, vg, .int .i64 l.drop] 141)).alloc (.cells #[.int .i64 0, .slice none 0 0, .slice none 0 0, .int .i64 0] 38)).alloc (.cells #[.int .i64 l.gone, .slice none 0 0, .slice none 0 0, .int .i64 0] 38)) (w.heap.size + 2) [.int .i64 l.gone, .slice none 0 0, .slice none 0 0, .int .i64 0] 38 := by
    have := (BlkIs.new ((w.alloc (.cells #[.int .i64 l.gone, vw, vg, .int .i64 l.drop] 141)).alloc (.cells #[.int .i64 0, .slice none 0 0, .slice none 0 0, .int .i64 0] 38)) [.int .i64 l.gone, .slice none 0 0, .slice none 0 0, .int .i64 0] 38)
    rwa [World.size_alloc, World.size_alloc] at this
  have eB : Below w.heap.size w (((w.alloc (.cells #[.int .i64 l.gone, vw, vg, .int .i64 l.drop] 141)).alloc (.cells #[.int .i64 0, .slice none 0 0, .slice none 0 0, .int .i64 0] 38)).alloc (.cells #[.int .i64 l.gone, .slice none 0 0, .slice none 0 0, .int .i64 0] 38)) :=
    (((Below.refl _ _).alloc (Nat.le_refl _) _).alloc (by simp) _).alloc (by simp; omega) _
  have eS : (((w.alloc (.cells #[.int .i64 l.gone, vw, vg, .int .i64 l.drop] 141)).alloc (.cells #[.int .i64 0, .slice none 0 0, .slice none 0 0, .int .i64 0] 38)).alloc (.cells #[.int .i64 l.gone, .slice none 0 0, .slice none 0 0, .int .i64 0] 38)).heap.size = w.heap.size + 3 := by simp
  generalize ((w.alloc (.cells #[.int .i64 l.gone, vw, vg, .int .i64 l.drop] 141)).alloc (.cells #[.int .i64 0, .slice none 0 0, .slice none 0 0, .int .i64 0] 38)).alloc (.cells #[.int .i64 l.gone, .slice none 0 0, .slice none 0 0, .int .i64 0] 38) = V at *
  have hw' := hw.below eB hw.lt
  have hg' := hg.below eB hg.lt
  refine (toIntS_any l.way vw b1 _ hw' hL1).mono ?_
  rintro e w1 ⟨v1, rfl, bs1, hi1, nd1, fr1, ge1, bl1⟩
  obtain ⟨sa1, sn1, sc1, rfl⟩ := hi1.slice
  have l1 := hi1.lt
  have eA1 := eA.below bl1 (by omega)
  have eR1 := eR.below bl1 (by omega)
  have eO1 := eO.below bl1 (by omega)
  have hg1 := hg'.below bl1 hg'.lt
  have T1 := eB.trans (bl1.mono (by omega))
  have s1 := bl1.size
  have gg : ∀ b ∈ b2, b < w.heap.size := hg.lt
  have ge1' : ∀ b ∈ bs1, w.heap.size + 3 ≤ b := fun b hb => by have := ge1 b hb; omega
  clear eA eR eO hw' hg' eB bl1 hw hg
  obtain ⟨x0, x1, x2, x3⟩ := eA1.four
  obtain ⟨y0, y1, y2, y3⟩ := eO1.four
  have f1 := eO1.frozen 1
  have S1 : Hid (V.heap.size = w.heap.size + 3) := eS
  clear eS
  go_wp2_with fail
  have eO2 := eO1.set 1 (.slice sa1 sn1 sc1)
  have eA2 := eA1.other (x := w.heap.size + 2) (by omega) 1 (.slice sa1 sn1 sc1)
  have eR2 := eR1.other (x := w.heap.size + 2) (by omega) 1 (.slice sa1 sn1 sc1)
  have hi2 : IntsAt (w1.setCell ⟨w.heap.size + 2, 1, none⟩ (.slice sa1 sn1 sc1)) _ _ _ := hi1.keep fun b hb => Below.heap_setCell _ _ _ _ (by have := ge1' b hb; show b ≠ w.heap.size + 2; omega)
  have hg2 : GrsAt (w1.setCell ⟨w.heap.size + 2, 1, none⟩ (.slice sa1 sn1 sc1)) _ _ _ := hg1.keep fun b hb => Below.heap_setCell _ _ _ _ (by have := gg b hb; show b ≠ w.heap.size + 2; omega)
  have fr2 : Free (w1.setCell ⟨w.heap.size + 2, 1, none⟩ (.slice sa1 sn1 sc1)) bs1 := fun b hb o => by rw [World.frozen?_setCell]; exact fr1 b hb o
  have T2 := T1.setCell (p := ⟨w.heap.size + 2, 1, none⟩) (by simp) (.slice sa1 sn1 sc1)
  have s2 : (w1.setCell ⟨w.heap.size + 2, 1, none⟩ (.slice sa1 sn1 sc1)).heap.size = w1.heap.size := by simp
  generalize w1.setCell ⟨w.heap.size + 2, 1, none⟩ (.slice sa1 sn1 sc1) = U at *
  clear eA1 eR1 eO1 hi1 hg1 fr1 T1 x0 x1 x2 x3 y0 y1 y2 y3 f1
  refine (toGrantS_any l.grs vg b2 _ hg2 hL2).mono ?_
  rintro e w2 ⟨v2, rfl, bs2, hj2, nd2, frj2, ge2, bl2⟩
  obtain ⟨sa2, sn2, sc2, rfl⟩ := hj2.slice
  have hs3 : w.heap.size + 3 ≤ U.heap.size := by have := S1.out; omega
  have eA3 := eA2.below bl2 (by omega)
  have eR3 := eR2.below bl2 (by omega)
  have eO3 := eO2.below bl2 (by omega)
  have hi3 := hi2.below bl2 hi2.lt
  have fr3 := fr2.below bl2 hi2.lt
  have T3 := T2.trans (bl2.mono (by omega))
  have ge2' : ∀ b ∈ bs2, w.heap.size + 3 ≤ b ∧ U.heap.size ≤ b := fun b hb => by have := ge2 b hb; omega
  have l2 : ∀ b ∈ bs1, b < U.heap.size := hi2.lt
  clear eA2 eR2 eO2 hi2 hg2 fr2 T2
  simp only [List.set_cons_succ, List.set_cons_zero] at eO3
  obtain ⟨x0, x1, x2, x3⟩ := eA3.four
  obtain ⟨y0, y1, y2, y3⟩ := eO3.four
  obtain ⟨r0, r1, r2, r3⟩ := eR3.four
  have f2 : ∀ o, w2.frozen? ⟨w.heap.size + 2, o, none⟩ = false := fun o => eO3.frozen o
  have f3 : ∀ o, w2.frozen? ⟨w.heap.size + 1, o, none⟩ = false := fun o => eR3.frozen o
  go_wp2
  have keepI : ∀ (W : World), (∀ b, w.heap.size + 3 ≤ b → W.heap[b]? = w2.heap[b]?) → (∀ b o, W.frozen? ⟨b, o, none⟩ = w2.frozen? ⟨b, o, none⟩) → Below w.heap.size w W → NewLn w W (.agg #[.int .i64 l.gone, .slice sa1 sn1 sc1, .slice sa2 sn2 sc2, .int .i64 l.drop]) l := by
    intro W hW hF hB
    refine ⟨bs1 ++ bs2, ⟨_, _, bs1, bs2, rfl, rfl, hi3.keep fun b hb => hW b (ge1' b hb), hj2.keep fun b hb => hW b (ge2' b hb).1⟩, ?_, ?_, ?_, hB⟩
    · rw [List.nodup_append]
      refine ⟨nd1, nd2, fun a ha b hb e => ?_⟩
      have := l2 a ha
      have := (ge2' b hb).2
      omega
    · intro b hb o
      rw [hF]
      rcases List.mem_append.1 hb with hb | hb
      · exact fr3 b hb o
      · exact frj2 b hb o
    · intro b hb
      rcases List.mem_append.1 hb with hb | hb
      · have := ge1' b hb; omega
      · have := (ge2' b hb).1; omega
  refine bodyPost_ret (v := .agg #[.int .i64 l.gone, .slice sa1 sn1 sc1, .slice sa2 sn2 sc2, .int .i64 l.drop]) (by simp [results, Tryd.results90, go_sem, r0, r1, r2, r3]) rfl ⟨_, _, rfl, keepI _ (fun b hb => ?_) (fun b o => by simp) ?_⟩
  · have n1 : b ≠ w.heap.size + 1 := by omega
    have n2 : b ≠ w.heap.size + 2 := by omega
    repeat (first | rw [Below.heap_setCell _ _ _ _ n1] | rw [Below.heap_setCell _ _ _ _ n2])
  · refine Below.setCell (Below.setCell (Below.setCell (Below.setCell (Below.setCell (Below.setCell ?_ (by simp <;> omega) _) (by simp <;> omega) _) (by simp <;> omega) _) (by simp <;> omega) _) (by simp <;> omega) _) (by simp <;> omega) _
    exact T3

set_option maxHeartbeats 400000 in
theorem toLineS_any (xs : List Ln) (v : Value) (bs : List Nat) (w : World) (h : LnsAt w v xs bs) (hL : xs.length ≤ 1048576) (hW : sumW xs xs.length ≤ 1048576) :
    Calls Tryd.prog 65 #[v] w fun e w' => ∃ v', e = .returned v' ∧ NewLns w w' v' xs := by
  obtain ⟨a, ca, rfl, hca, hma, h⟩ := h
  unfold maxLen at hma
  have hend := fun wr D => newLns_end (w := w) (wr := wr) (xs := xs) (D := D)
  have hat := fun i hi => sumW_at xs (i := i) hi
  generalize hn : xs.length = n at *
  obtain ⟨i, hi, hz0, hz1, hz2⟩ := info_parts Tryd.infoLn
  have hmk := fun W : World => run_make (P := Tryd.prog) W 30 38 i _ Tryd.underlying30 hi hz0 .i64 .i64 (n : Int) (n : Int) (by omega) (Int.le_refl _) (by rw [hz2]; omega) (by omega)
  rw [hz1] at hmk
  clear hi hz0 hz1 hz2 hn
  have H0 : LnInv w (w.alloc (.cells (madeCells #[.int .i64 0, .slice none 0 0, .slice none 0 0, .int .i64 0] (n * 4)) 38)) w.heap.size n 0 (fun j => xs[j]?.getD ln0) (fun _ => []) :=
    ⟨RowInv.start w _ _ _, fun j hj => by omega, by simp, fun b hb => by simp at hb, fun b hb => by simp at hb⟩
  have HE : Hid (∀ wr D, LnInv w wr w.heap.size n n (fun j => xs[j]?.getD ln0) D → n ≤ 1048576 → NewLns w wr (.slice (some ⟨w.heap.size, 0, none⟩) n n) xs) := hend
  have HA : Hid (∀ i, i < n → lnW (xs[i]?.getD ln0) ≤ sumW xs n) := hat
  clear hend hat
  go_enter Tryd.func65, Tryd.ntmps65
  go_wp2
  go_loopw [4] (fun i wr => ∃ (k : Nat) (D : Nat → List Nat), k ≤ n ∧ i = .int .i64 k ∧ LnInv w wr w.heap.size n k (fun j => xs[j]?.getD ln0) D) (fun i _ => n - (intOf i).toNat)
  case atStart => exact ⟨0, _, Nat.zero_le _, rfl, H0⟩
  case round =>
    obtain ⟨k, D, hk, rfl, hI⟩ := hrel
    by_cases hlt : k < n
    · rcases h with ⟨h00, _⟩ | ⟨b, o, E, rfl, _, hs, hc⟩
      · omega
      obtain ⟨vw, vg, p0, p1, p2, p3, hl⟩ := (hc k hlt).at
      have c0 := ((bcell hI.row.below).1 _ _ hs).trans p0
      have c1 := ((bcell hI.row.below).1 _ _ hs).trans p1
      have c2 := ((bcell hI.row.below).1 _ _ hs).trans p2
      have c3 := ((bcell hI.row.below).1 _ _ hs).trans p3
      have hl' := hl.below hI.row.below hl.lt
      have hw := HA.out k hlt
      have hst := fun w1 (l : Ln) (vw vg : Value) (bs : List Nat) (e : (fun j => xs[j]?.getD ln0) k = l) => LnInv.step (w1 := w1) (vw := vw) (vg := vg) (bs := bs) hI hlt e
      have hw' : (xs[k]?.getD ln0).way.length ≤ 1048576 ∧ (xs[k]?.getD ln0).grs.length ≤ 1048576 := by unfold lnW at hw; omega
      obtain ⟨hw1, hw2⟩ := hw'
      have HST : Hid (∀ (w1 : World) (vw vg : Value) (bs : List Nat), LnAt w1 (.agg #[.int .i64 (xs[k]?.getD ln0).gone, vw, vg, .int .i64 (xs[k]?.getD ln0).drop]) (xs[k]?.getD ln0) bs → bs.Nodup → Free w1 bs → (∀ b ∈ bs, wr.heap.size ≤ b) → Below wr.heap.size wr w1 →
        LnInv w ((((w1.setCell ⟨w.heap.size, k * 4, none⟩ (.int .i64 (xs[k]?.getD ln0).gone)).setCell ⟨w.heap.size, k * 4 + 1, none⟩ vw).setCell ⟨w.heap.size, k * 4 + 2, none⟩ vg).setCell ⟨w.heap.size, k * 4 + 3, none⟩ (.int .i64 (xs[k]?.getD ln0).drop)) w.heap.size n (k + 1) (fun j => xs[j]?.getD ln0) (fun j => if j = k then bs else D j)) :=
        fun w1 vw vg bs h1 h2 h3 h4 h5 => hst w1 _ vw vg bs rfl h1 h2 h3 h4 h5
      clear hc hmk H0 p0 p1 p2 p3 hl hw hst
      generalize xs[k]?.getD ln0 = l at *
      go_wp2_with fail
      refine (toLine_any l _ _ _ hl' hw1 hw2).mono ?_
      rintro e w1 ⟨vw1, vg1, rfl, bs1, hl1, nd1, fr1, ge1, bl1⟩
      have hrow := hI.row.ext bl1 hI.row.lt
      obtain ⟨u0, y0⟩ := hrow.ex (k * 4) (by omega)
      obtain ⟨u1, y1⟩ := hrow.ex (k * 4 + 1) (by omega)
      obtain ⟨u2, y2⟩ := hrow.ex (k * 4 + 2) (by omega)
      obtain ⟨u3, y3⟩ := hrow.ex (k * 4 + 3) (by omega)
      have fz : ∀ o, w1.frozen? ⟨w.heap.size, o, none⟩ = false := hrow.free
      have hnext := HST.out w1 vw1 vg1 bs1 hl1 nd1 fr1 ge1 bl1
      obtain ⟨vw', vg', bb1, bb2, hv, _, hiw, hgw⟩ := hl1
      obtain ⟨sa1, sn1, sc1, rfl⟩ := hiw.slice
      obtain ⟨sa2, sn2, sc2, rfl⟩ := hgw.slice
      simp only [Value.agg.injEq, Array.mk.injEq, List.cons.injEq, and_true, true_and] at hv
      obtain ⟨rfl, rfl⟩ := hv
      clear c0 c1 c2 c3 HST
      go_wp2
      go_roundw
      case rel => exact ⟨k + 1, _, by omega, by go_num, hnext⟩
      case measure => simp [intOf]; omega
    · obtain rfl : k = n := by omega
      have hfin := HE.out wr D hI hL
      clear hmk H0
      go_wp2
      go_ret
      exact ⟨_, rfl, hfin⟩

set_option maxHeartbeats 400000 in
theorem toBook_any (k : Bk) (v : Value) (bs : List Nat) (w : World) (h : BkAt w v k bs) (hL : bkW k ≤ 1048576) :
    Calls Tryd.prog 27 #[v] w fun e w' => ∃ v', e = .returned v' ∧ NewBk w w' v' k := by
  obtain ⟨vl, rfl, h⟩ := h
  have hp := sumW_pos k.lns k.lns.length
  have hL1 : k.lns.length ≤ 1048576 := by unfold bkW at hL; omega
  have hL2 : sumW k.lns k.lns.length ≤ 1048576 := by unfold bkW at hL; omega
  clear hp hL
  go_enter Tryd.func27, Tryd.ntmps27
  go_wp2_with fail
  have eR : BlkIs (((w.alloc (.cells #[.bool k.ok, .int .i64 k.sec, vl] 65)).alloc (.cells #[.bool false, .int .i64 0, .slice none 0 0] 32)).alloc (.cells #[.bool k.ok, .int .i64 k.sec, .slice none 0 0] 32)) (w.heap.size + 1) [.bool false, .int .i64 0, .slice none 0 0] 32 := by
    have := (BlkIs.new (w.alloc (.cells #[.bool k.ok, .int .i64 k.sec, vl] 65)) [.bool false, .int .i64 0, .slice none 0 0] 32).alloc (.cells #[.bool k.ok, .int .i64 k.sec, .slice none 0 0] 32)
    rwa [World.size_alloc] at this
  have eO : BlkIs (((w.alloc (.cells #[.bool k.ok, .int .i64 k.sec, vl] 65)).alloc (.cells #[.bool false, .int .i64 0, .slice none 0 0] 32)).alloc (.cells #[.bool k.ok, .int .i64 k.sec, .slice none 0 0] 32)) (w.heap.size + 2) [.bool k.ok, .int .i64 k.sec, .slice none 0 0] 32 := by
    have := (BlkIs.new ((w.alloc (.cells #[.bool k.ok, .int .i64 k.sec, vl] 65)).alloc (.cells #[.bool false, .int .i64 0, .slice none 0 0] 32)) [.bool k.ok, .int .i64 k.sec, .slice none 0 0] 32)
    rwa [World.size_alloc, World.size_alloc] at this
  have eB : Below w.heap.size w (((w.alloc (.cells #[.bool k.ok, .int .i64 k.sec, vl] 65)).alloc (.cells #[.bool false, .int .i64 0, .slice none 0 0] 32)).alloc (.cells #[.bool k.ok, .int .i64 k.sec, .slice none 0 0] 32)) :=
    (((Below.refl _ _).alloc (Nat.le_refl _) _).alloc (by simp) _).alloc (by simp; omega) _
  have eS : (((w.alloc (.cells #[.bool k.ok, .int .i64 k.sec, vl] 65)).alloc (.cells #[.bool false, .int .i64 0, .slice none 0 0] 32)).alloc (.cells #[.bool k.ok, .int .i64 k.sec, .slice none 0 0] 32)).heap.size = w.heap.size + 3 := by simp
  generalize ((w.alloc (.cells #[.bool k.ok, .int .i64 k.sec, vl] 65)).alloc (.cells #[.bool false, .int .i64 0, .slice none 0 0] 32)).alloc (.cells #[.bool k.ok, .int .i64 k.sec, .slice none 0 0] 32) = V at *
  have h' := h.below eB h.lt
  refine (toLineS_any k.lns vl bs _ h' hL1 hL2).mono ?_
  rintro e w1 ⟨v1, rfl, bs1, hi1, nd1, fr1, ge1, bl1⟩
  obtain ⟨sa1, sn1, sc1, rfl⟩ := hi1.slice
  have eR1 := eR.below bl1 (by omega)
  have eO1 := eO.below bl1 (by omega)
  have T1 := eB.trans (bl1.mono (by omega))
  have ge1' : ∀ b ∈ bs1, w.heap.size + 3 ≤ b := fun b hb => by have := ge1 b hb; omega
  clear eR eO h' eB bl1 ge1
  obtain ⟨y0, y1, y2⟩ := eO1.three
  obtain ⟨r0, r1, r2⟩ := eR1.three
  have f2 : ∀ o, w1.frozen? ⟨w.heap.size + 2, o, none⟩ = false := fun o => eO1.frozen o
  have f3 : ∀ o, w1.frozen? ⟨w.heap.size + 1, o, none⟩ = false := fun o => eR1.frozen o
  clear eS
  go_wp2
  refine bodyPost_ret (v := .agg #[.bool k.ok, .int .i64 k.sec, .slice sa1 sn1 sc1]) (by simp [results, Tryd.results27, go_sem, r0, r1, r2]) rfl ⟨_, rfl, bs1, ⟨_, rfl, hi1.keep fun b hb => ?_⟩, nd1, fun b hb o => ?_, fun b hb => ?_, ?_⟩
  · have := ge1' b hb
    have n1 : b ≠ w.heap.size + 1 := by omega
    have n2 : b ≠ w.heap.size + 2 := by omega
    repeat (first | rw [Below.heap_setCell _ _ _ _ n1] | rw [Below.heap_setCell _ _ _ _ n2])
  · simpa using fr1 b hb o
  · have := ge1' b hb; omega
  · refine Below.setCell (Below.setCell (Below.setCell (Below.setCell ?_ (by simp <;> omega) _) (by simp <;> omega) _) (by simp <;> omega) _) (by simp <;> omega) _
    exact T1

end Go.Proofs.YtnaaheddhgpnoaaDoor
