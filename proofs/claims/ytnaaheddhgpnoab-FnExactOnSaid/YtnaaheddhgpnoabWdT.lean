import Derived.Test.YtnaaheddhgpnoabSz
import Derived.Test.YtnaaheddhgpnoabTo
import Derived.Test.YtnaaheddhgpnoabRead
import Derived.Test.YtnaaheddhgpnoabOnD
import Derived.Test.YtnaaheddhgpnoabStD
namespace Go.Proofs.Ytnaaheddhgpnoab
open Go.ChangeShapes Go.WideShapes Go.ChangeAt Go.RowKit Go.Deep Go.Joins

def NewBds (w w' : World) (v : Value) (xs : List Bd) : Prop := ∃ bs, BdsAt w' v xs bs ∧ bs.Nodup ∧ Free w' bs ∧ (∀ b ∈ bs, w.heap.size ≤ b) ∧ Below w.heap.size w w'
theorem newBds_end {w wr : World} {xs : List Bd} (hI : RowInv w wr w.heap.size (xs.length * 4)) (hn : xs.length ≤ 1048576) (hc : ∀ j, j < xs.length → BdCells wr w.heap.size (j * 4) (xs[j]?.getD bd0)) :
    NewBds w wr (.slice (some ⟨w.heap.size, 0, none⟩) xs.length xs.length) xs := by
  obtain ⟨h1, h2, h3⟩ := row_bs (n := xs.length) hI (Nat.le_refl _) _ rfl
  refine ⟨_, ⟨_, xs.length, rfl, Nat.le_refl _, by unfold maxLen; omega, ?_⟩, h1, h2, h3, hI.below⟩
  by_cases e : xs.length = 0
  · exact Or.inl ⟨e, by rw [if_pos e]⟩
  · exact Or.inr ⟨_, 0, rfl, by rw [if_neg e], hI.lt, fun i hi => by rw [Nat.zero_add]; exact hc i hi⟩

set_option maxHeartbeats 400000 in
theorem szBodyS_any (xs : List Bd) (v : Value) (bs : List Nat) (w : World) (L : Int) (h : BdsAt w v xs bs) (h0 : 0 ≤ L) (hL : L ≤ 1048576) :
    Calls Try.prog 30 #[v, .int .i64 L] w fun e w' => e = .returned (.int .i64 (if 0 ≤ L - xs.length then L - xs.length else -1)) ∧ w' = w := by
  obtain ⟨a, ca, rfl, hca, hma, h⟩ := h
  unfold maxLen at hma
  generalize xs.length = n at *
  by_cases hlt : 0 ≤ L - n
  · rw [if_pos hlt]
    have h1 : ¬ L - (n : Int) < 0 := by omega
    go_enter Try.func30, Try.ntmps30
    go_wp2
    go_ret
    exact ⟨rfl, rfl⟩
  · rw [if_neg hlt]
    have h1 : L - (n : Int) < 0 := by omega
    go_enter Try.func30, Try.ntmps30
    go_wp2
    go_ret
    exact ⟨rfl, rfl⟩

set_option maxHeartbeats 1000000 in
theorem szWorld_any (k : Wd) (v : Value) (bs : List Nat) (w : World) (L : Int) (h : WdAt w v k bs) (h0 : 0 ≤ L) (hL : L ≤ 1048576) :
    Calls Try.prog 13 #[v, .int .i64 L] w fun e w' => ∃ r : Int, e = .returned (.int .i64 r) ∧ r ≤ L ∧ (0 ≤ r → r + bkW k.bk + k.bds.length = L) ∧ Below w.heap.size w w' := by
  obtain ⟨vl, vb, b1, b2, rfl, _, hl, hd⟩ := h
  obtain ⟨p1, p2, p3, rfl⟩ := hl.slice
  obtain ⟨p4, p5, p6, rfl⟩ := hd.slice
  have a1 : Below w.heap.size w (w.alloc (.cells #[.bool k.ok, .bool k.bk.ok, .int .i64 k.bk.sec, .slice p1 p2 p3, .slice p4 p5 p6] 41)) := (Below.refl _ _).alloc (Nat.le_refl _) _
  have X1 : BlkIs (w.alloc (.cells #[.bool k.ok, .bool k.bk.ok, .int .i64 k.bk.sec, .slice p1 p2 p3, .slice p4 p5 p6] 41)) w.heap.size [.bool k.ok, .bool k.bk.ok, .int .i64 k.bk.sec, .slice p1 p2 p3, .slice p4 p5 p6] 41 := BlkIs.new _ _ _
  go_enter Try.func13, Try.ntmps13
  go_wp2_with fail
  generalize (w.alloc (.cells #[.bool k.ok, .bool k.bk.ok, .int .i64 k.bk.sec, .slice p1 p2 p3, .slice p4 p5 p6] 41)) = V at *
  refine (szBook_any k.bk _ b1 _ L ⟨_, rfl, hl.below a1 hl.lt⟩ h0 hL).mono ?_
  rintro e w1 ⟨r, rfl, hr, hrr, hb1⟩
  have hB := a1.trans (hb1.mono a1.size)
  have Y1 := X1.below hb1 X1.lt
  have y4 : w1.cell? ⟨w.heap.size, 4, none⟩ = some (.slice p4 p5 p6) := Y1.cell 4
  have hbp : 0 ≤ bkW k.bk := by unfold bkW; have := sumW_pos k.bk.lns k.bk.lns.length; omega
  have HR : Hid (0 ≤ r → r + bkW k.bk = L) := hrr
  clear hrr X1 Y1 a1 hb1
  by_cases hr0 : r < 0
  · go_wp2
    go_ret
    exact ⟨-1, rfl, by omega, fun h => by omega, hB⟩
  · go_wp2_with fail
    refine (szBodyS_any k.bds _ b2 _ r (hd.below hB hd.lt) (by omega) (by omega)).mono ?_
    rintro e w2 ⟨rfl, rfl⟩
    by_cases hlt : 0 ≤ r - (k.bds.length : Int)
    · rw [if_pos hlt]
      have h1 : ¬ r - (k.bds.length : Int) < 0 := by omega
      clear y4
      go_wp2
      go_ret
      exact ⟨_, rfl, by omega, fun h => by have := HR.out (by omega); omega, hB⟩
    · rw [if_neg hlt]
      clear y4
      go_wp2
      go_ret
      exact ⟨-1, rfl, by omega, fun h => by omega, hB⟩

set_option maxHeartbeats 400000 in
theorem toBody_any (x : Bd) (w : World) :
    Calls Try.prog 49 #[.agg #[.int .i64 x.ver, .int .i64 x.cel, .int .i64 x.tail, .int .i64 x.front]] w fun e w' => e = .returned (.agg #[.int .i64 x.ver, .int .i64 x.cel, .int .i64 x.tail, .int .i64 x.front]) ∧ Below w.heap.size w w' := by
  go_enter Try.func49, Try.ntmps49
  go_wp2
  exact bodyPost_ret (v := .agg #[.int .i64 x.ver, .int .i64 x.cel, .int .i64 x.tail, .int .i64 x.front]) (by simp [results, Try.results49, go_sem]) rfl ⟨rfl, by repeat (first | exact Below.refl _ _ | refine Below.setCell ?_ (by simp <;> omega) _ | refine Below.alloc ?_ (by simp <;> omega) _)⟩

theorem Try.infoBodyT : (Try.prog.info? 54).map (fun i => (i.zero, i.size, i.bytes)) = some (some (.agg #[.int .i64 0, .int .i64 0, .int .i64 0, .int .i64 0]), 4, 32) := by kernel_rfl

set_option maxHeartbeats 1000000 in
theorem toBodyS_any (xs : List Bd) (v : Value) (bs : List Nat) (w : World) (h : BdsAt w v xs bs) (hL : xs.length ≤ 1048576) :
    Calls Try.prog 33 #[v] w fun e w' => ∃ v', e = .returned v' ∧ NewBds w w' v' xs := by
  obtain ⟨a, ca, rfl, hca, hma, h⟩ := h
  unfold maxLen at hma
  have hend := fun wr => newBds_end (w := w) (wr := wr) (xs := xs)
  generalize hn : xs.length = n at *
  obtain ⟨i, hi, hz0, hz1, hz2⟩ := info_parts Try.infoBodyT
  have hmk := fun W : World => run_make (P := Try.prog) W 26 54 i _ Try.underlying26 hi hz0 .i64 .i64 (n : Int) (n : Int) (by omega) (Int.le_refl _) (by rw [hz2]; omega) (by omega)
  rw [hz1] at hmk
  clear hi hz0 hz1 hz2 hn
  have H0 := RowInv.start w #[.int .i64 0, .int .i64 0, .int .i64 0, .int .i64 0] (n * 4) 54
  have HE : Hid (∀ wr, RowInv w wr w.heap.size (n * 4) → n ≤ 1048576 → (∀ j, j < n → BdCells wr w.heap.size (j * 4) (xs[j]?.getD bd0)) → NewBds w wr (.slice (some ⟨w.heap.size, 0, none⟩) n n) xs) := hend
  clear hend
  go_enter Try.func33, Try.ntmps33
  go_wp2
  go_loopw [4] (fun i wr => ∃ k : Nat, k ≤ n ∧ i = .int .i64 k ∧ RowInv w wr w.heap.size (n * 4) ∧ ∀ j, j < k → BdCells wr w.heap.size (j * 4) (xs[j]?.getD bd0)) (fun i _ => n - (intOf i).toNat)
  case atStart => exact ⟨0, Nat.zero_le _, rfl, H0, fun j hj => by omega⟩
  case round =>
    obtain ⟨k, hk, rfl, hI, hcw⟩ := hrel
    by_cases hlt : k < n
    · rcases h with ⟨h00, _⟩ | ⟨b, o, rfl, _, hs, hc⟩
      · omega
      have c0 := ((bcell hI.below).1 _ _ hs).trans (hc k hlt).1
      have c1 := ((bcell hI.below).1 _ _ hs).trans (hc k hlt).2.1
      have c2 := ((bcell hI.below).1 _ _ hs).trans (hc k hlt).2.2.1
      have c3 := ((bcell hI.below).1 _ _ hs).trans (hc k hlt).2.2.2
      have HC : Hid (∀ j, j < k → BdCells wr w.heap.size (j * 4) (xs[j]?.getD bd0)) := hcw
      clear hcw hc hmk H0
      go_wp2_with fail
      refine (toBody_any _ _).mono ?_
      rintro e w1 ⟨rfl, hb1⟩
      have hI1 := hI.ext hb1 hI.lt
      obtain ⟨u0, hu0⟩ := hI1.ex (k * 4) (by omega)
      obtain ⟨u1, hu1⟩ := hI1.ex (k * 4 + 1) (by omega)
      obtain ⟨u2, hu2⟩ := hI1.ex (k * 4 + 2) (by omega)
      obtain ⟨u3, hu3⟩ := hI1.ex (k * 4 + 3) (by omega)
      have z0 := hI1.free (k * 4)
      have z1 := hI1.free (k * 4 + 1)
      have z2 := hI1.free (k * 4 + 2)
      have z3 := hI1.free (k * 4 + 3)
      have HC1 : Hid (∀ j, j < k → BdCells w1 w.heap.size (j * 4) (xs[j]?.getD bd0)) := fun j hj => (HC.out j hj).keep (hb1.block _ hI.lt)
      clear c0 c1 c2 c3 HC
      go_wp2
      go_roundw
      case rel =>
        refine ⟨k + 1, by omega, by go_num, (((hI1.set _ _).set _ _).set _ _).set _ _, fun j hj => ?_⟩
        by_cases e : j = k
        · subst e
          refine ⟨?_, ?_, ?_, ?_⟩
          · rw [cell_set_ne (by omega), cell_set_ne (by omega), cell_set_ne (by omega)]; exact World.cell?_setCell_same _ _ _ hu0
          · rw [cell_set_ne (by omega), cell_set_ne (by omega)]; exact World.cell?_setCell_same _ _ _ (by rw [cell_set_ne (by omega)]; exact hu1)
          · rw [cell_set_ne (by omega)]; exact World.cell?_setCell_same _ _ _ (by rw [cell_set_ne (by omega), cell_set_ne (by omega)]; exact hu2)
          · exact World.cell?_setCell_same _ _ _ (by rw [cell_set_ne (by omega), cell_set_ne (by omega), cell_set_ne (by omega)]; exact hu3)
        · obtain ⟨h0, h1, h2, h3⟩ := HC1.out j (by omega)
          refine ⟨?_, ?_, ?_, ?_⟩
          · rw [cell_set_ne (by omega), cell_set_ne (by omega), cell_set_ne (by omega), cell_set_ne (by omega)]; exact h0
          · rw [cell_set_ne (by omega), cell_set_ne (by omega), cell_set_ne (by omega), cell_set_ne (by omega)]; exact h1
          · rw [cell_set_ne (by omega), cell_set_ne (by omega), cell_set_ne (by omega), cell_set_ne (by omega)]; exact h2
          · rw [cell_set_ne (by omega), cell_set_ne (by omega), cell_set_ne (by omega), cell_set_ne (by omega)]; exact h3
      case measure => simp [intOf]; omega
    · obtain rfl : k = n := by omega
      have hfin := HE.out wr hI hL hcw
      clear hmk H0
      go_wp2
      go_ret
      exact ⟨_, rfl, hfin⟩

set_option maxHeartbeats 1000000 in
theorem toWorld_any (k : Wd) (v : Value) (bs : List Nat) (w : World) (h : WdAt w v k bs) (hL : bkW k.bk ≤ 1048576) (hL2 : k.bds.length ≤ 1048576) :
    Calls Try.prog 15 #[v] w fun e w' => ∃ v', e = .returned v' ∧ NewWd w w' v' k := by
  obtain ⟨vl, vb, b1, b2, rfl, _, hl, hd⟩ := h
  obtain ⟨p1, p2, p3, rfl⟩ := hl.slice
  obtain ⟨p4, p5, p6, rfl⟩ := hd.slice
  have eA : BlkIs (((w.alloc (.cells #[.bool k.ok, .bool k.bk.ok, .int .i64 k.bk.sec, .slice p1 p2 p3, .slice p4 p5 p6] 41)).alloc (.cells #[.bool false, .bool false, .int .i64 0, .slice none 0 0, .slice none 0 0] 28)).alloc (.cells #[.bool k.ok, .bool false, .int .i64 0, .slice none 0 0, .slice none 0 0] 28)) w.heap.size [.bool k.ok, .bool k.bk.ok, .int .i64 k.bk.sec, .slice p1 p2 p3, .slice p4 p5 p6] 41 := ((BlkIs.new _ _ _).alloc _).alloc _
  have eR : BlkIs (((w.alloc (.cells #[.bool k.ok, .bool k.bk.ok, .int .i64 k.bk.sec, .slice p1 p2 p3, .slice p4 p5 p6] 41)).alloc (.cells #[.bool false, .bool false, .int .i64 0, .slice none 0 0, .slice none 0 0] 28)).alloc (.cells #[.bool k.ok, .bool false, .int .i64 0, .slice none 0 0, .slice none 0 0] 28)) (w.heap.size + 1) [.bool false, .bool false, .int .i64 0, .slice none 0 0, .slice none 0 0] 28 := by
    have := (BlkIs.new (w.alloc (.cells #[.bool k.ok, .bool k.bk.ok, .int .i64 k.bk.sec, .slice p1 p2 p3, .slice p4 p5 p6] 41)) [.bool false, .bool false, .int .i64 0, .slice none 0 0, .slice none 0 0] 28).alloc (.cells #[.bool k.ok, .bool false, .int .i64 0, .slice none 0 0, .slice none 0 0] 28)
    rwa [World.size_alloc] at this
  have eO : BlkIs (((w.alloc (.cells #[.bool k.ok, .bool k.bk.ok, .int .i64 k.bk.sec, .slice p1 p2 p3, .slice p4 p5 p6] 41)).alloc (.cells #[.bool false, .bool false, .int .i64 0, .slice none 0 0, .slice none 0 0] 28)).alloc (.cells #[.bool k.ok, .bool false, .int .i64 0, .slice none 0 0, .slice none 0 0] 28)) (w.heap.size + 2) [.bool k.ok, .bool false, .int .i64 0, .slice none 0 0, .slice none 0 0] 28 := by
    have := BlkIs.new ((w.alloc (.cells #[.bool k.ok, .bool k.bk.ok, .int .i64 k.bk.sec, .slice p1 p2 p3, .slice p4 p5 p6] 41)).alloc (.cells #[.bool false, .bool false, .int .i64 0, .slice none 0 0, .slice none 0 0] 28)) [.bool k.ok, .bool false, .int .i64 0, .slice none 0 0, .slice none 0 0] 28
    rwa [World.size_alloc, World.size_alloc] at this
  have eB : Below w.heap.size w (((w.alloc (.cells #[.bool k.ok, .bool k.bk.ok, .int .i64 k.bk.sec, .slice p1 p2 p3, .slice p4 p5 p6] 41)).alloc (.cells #[.bool false, .bool false, .int .i64 0, .slice none 0 0, .slice none 0 0] 28)).alloc (.cells #[.bool k.ok, .bool false, .int .i64 0, .slice none 0 0, .slice none 0 0] 28)) := (((Below.refl _ _).alloc (Nat.le_refl _) _).alloc (by simp) _).alloc (by simp; omega) _
  have eS : Hid ((((w.alloc (.cells #[.bool k.ok, .bool k.bk.ok, .int .i64 k.bk.sec, .slice p1 p2 p3, .slice p4 p5 p6] 41)).alloc (.cells #[.bool false, .bool false, .int .i64 0, .slice none 0 0, .slice none 0 0] 28)).alloc (.cells #[.bool k.ok, .bool false, .int .i64 0, .slice none 0 0, .slice none 0 0] 28)).heap.size = w.heap.size + 3) := by show _ = _; simp
  go_enter Try.func15, Try.ntmps15
  go_wp2_with fail
  generalize (((w.alloc (.cells #[.bool k.ok, .bool k.bk.ok, .int .i64 k.bk.sec, .slice p1 p2 p3, .slice p4 p5 p6] 41)).alloc (.cells #[.bool false, .bool false, .int .i64 0, .slice none 0 0, .slice none 0 0] 28)).alloc (.cells #[.bool k.ok, .bool false, .int .i64 0, .slice none 0 0, .slice none 0 0] 28)) = V at *
  refine (toBook_any k.bk _ b1 _ ⟨_, rfl, hl.below eB hl.lt⟩ hL).mono ?_
  rintro e w1 ⟨v1, rfl, bs1, ⟨vl1, rfl, hl1⟩, nd1, fr1, ge1, bl1⟩
  obtain ⟨q1, q2, q3, rfl⟩ := hl1.slice
  have hz1 := bl1.size
  have hs := eS.out
  have eA1 := eA.below bl1 eA.lt
  have eR1 := eR.below bl1 eR.lt
  have eO1 := eO.below bl1 eO.lt
  have T1 := eB.trans (bl1.mono eB.size)
  obtain ⟨o0, o1, o2, o3, o4⟩ := eO1.five
  have a4 : w1.cell? ⟨w.heap.size, 4, none⟩ = some (.slice p4 p5 p6) := eA1.cell 4
  have fO : ∀ x, w1.frozen? ⟨w.heap.size + 2, x, none⟩ = false := fun x => eO1.frozen x
  have eO2 : BlkIs (((w1.setCell ⟨w.heap.size + 2, 1, none⟩ (.bool k.bk.ok)).setCell ⟨w.heap.size + 2, 2, none⟩ (.int .i64 k.bk.sec)).setCell ⟨w.heap.size + 2, 3, none⟩ (.slice q1 q2 q3)) (w.heap.size + 2) [.bool k.ok, .bool k.bk.ok, .int .i64 k.bk.sec, .slice q1 q2 q3, .slice none 0 0] 28 := ((eO1.set 1 _).set 2 _).set 3 _
  have eR2 : BlkIs (((w1.setCell ⟨w.heap.size + 2, 1, none⟩ (.bool k.bk.ok)).setCell ⟨w.heap.size + 2, 2, none⟩ (.int .i64 k.bk.sec)).setCell ⟨w.heap.size + 2, 3, none⟩ (.slice q1 q2 q3)) (w.heap.size + 1) [.bool false, .bool false, .int .i64 0, .slice none 0 0, .slice none 0 0] 28 := ((eR1.other (by omega) _ _).other (by omega) _ _).other (by omega) _ _
  have T2 : Below w.heap.size w (((w1.setCell ⟨w.heap.size + 2, 1, none⟩ (.bool k.bk.ok)).setCell ⟨w.heap.size + 2, 2, none⟩ (.int .i64 k.bk.sec)).setCell ⟨w.heap.size + 2, 3, none⟩ (.slice q1 q2 q3)) := ((T1.setCell (show w.heap.size ≤ w.heap.size + 2 by omega) _).setCell (show w.heap.size ≤ w.heap.size + 2 by omega) _).setCell (show w.heap.size ≤ w.heap.size + 2 by omega) _
  have ge1' : ∀ b ∈ bs1, w.heap.size + 3 ≤ b := fun b hb => by have := ge1 b hb; omega
  have hl2 : LnsAt (((w1.setCell ⟨w.heap.size + 2, 1, none⟩ (.bool k.bk.ok)).setCell ⟨w.heap.size + 2, 2, none⟩ (.int .i64 k.bk.sec)).setCell ⟨w.heap.size + 2, 3, none⟩ (.slice q1 q2 q3)) (.slice q1 q2 q3) k.bk.lns bs1 := hl1.keep fun x hx => by
    have ne : x ≠ w.heap.size + 2 := by have := ge1' x hx; omega
    rw [Below.heap_setCell _ _ _ _ ne, Below.heap_setCell _ _ _ _ ne, Below.heap_setCell _ _ _ _ ne]
  have fr2 : Free (((w1.setCell ⟨w.heap.size + 2, 1, none⟩ (.bool k.bk.ok)).setCell ⟨w.heap.size + 2, 2, none⟩ (.int .i64 k.bk.sec)).setCell ⟨w.heap.size + 2, 3, none⟩ (.slice q1 q2 q3)) bs1 := fun x hx y => by simpa using fr1 x hx y
  have hz2 : (((w1.setCell ⟨w.heap.size + 2, 1, none⟩ (.bool k.bk.ok)).setCell ⟨w.heap.size + 2, 2, none⟩ (.int .i64 k.bk.sec)).setCell ⟨w.heap.size + 2, 3, none⟩ (.slice q1 q2 q3)).heap.size = w1.heap.size := by simp
  clear eA eR eO eB bl1 eA1 eR1 eO1 hl1 fr1 T1 hs eS
  go_wp2_with fail
  clear o0 o1 o2 o3 o4 a4 fO
  generalize (((w1.setCell ⟨w.heap.size + 2, 1, none⟩ (.bool k.bk.ok)).setCell ⟨w.heap.size + 2, 2, none⟩ (.int .i64 k.bk.sec)).setCell ⟨w.heap.size + 2, 3, none⟩ (.slice q1 q2 q3)) = W2 at *
  refine (toBodyS_any k.bds _ b2 _ (hd.below T2 hd.lt) hL2).mono ?_
  rintro e w3 ⟨v3, rfl, bs3, hd3, nd3, fr3, ge3, bl3⟩
  obtain ⟨r1, r2, r3, rfl⟩ := hd3.slice
  have eO3 := eO2.below bl3 eO2.lt
  have eR3 := eR2.below bl3 eR2.lt
  have hl3 := hl2.below bl3 hl2.lt
  have fr23 := fr2.below bl3 hl2.lt
  have l2 := hl2.lt
  have T3 := T2.trans (bl3.mono T2.size)
  have ge3' : ∀ b ∈ bs3, w.heap.size + 3 ≤ b := fun b hb => by have := ge3 b hb; have := eO2.lt; omega
  obtain ⟨o0, o1, o2, o3, o4⟩ := eO3.five
  obtain ⟨x0, x1, x2, x3, x4⟩ := eR3.five
  have fO : ∀ x, w3.frozen? ⟨w.heap.size + 2, x, none⟩ = false := fun x => eO3.frozen x
  have fR : ∀ x, w3.frozen? ⟨w.heap.size + 1, x, none⟩ = false := fun x => eR3.frozen x
  have HND : Hid ((bs1 ++ bs3).Nodup) := List.nodup_append.2 ⟨nd1, nd3, fun x hx y hy => by have := l2 x hx; have := ge3 y hy; omega⟩
  clear eO2 eR2 hl2 fr2 bl3 eO3 eR3 hz1 hz2 T2
  go_wp2
  obtain ⟨s1, s2, s3⟩ := set5 (w3.setCell ⟨w.heap.size + 2, 4, none⟩ (.slice r1 r2 r3)) (w.heap.size + 1) (.bool k.ok) (.bool k.bk.ok) (.int .i64 k.bk.sec) (.slice q1 q2 q3) (.slice r1 r2 r3)
  have far : ∀ x, w.heap.size + 3 ≤ x → _ := fun x hx => (s1 x (by omega)).trans (Below.heap_setCell w3 (⟨w.heap.size + 2, 4, none⟩ : Addr) (.slice r1 r2 r3) x (show x ≠ w.heap.size + 2 by omega))
  refine bodyPost_ret (v := .agg #[.bool k.ok, .bool k.bk.ok, .int .i64 k.bk.sec, .slice q1 q2 q3, .slice r1 r2 r3]) (by simp [results, Try.results15, go_sem, x0, x1, x2, x3, x4]) rfl ⟨_, rfl, bs1 ++ bs3, ⟨_, _, bs1, bs3, rfl, rfl, hl3.keep fun b hb => far b (ge1' b hb), hd3.keep fun b hb => far b (ge3' b hb)⟩, HND.out, fun b hb o => ?_, fun b hb => ?_, ?_⟩
  · rw [s2]
    rw [World.frozen?_setCell]
    rcases List.mem_append.1 hb with h | h
    · exact fr23 b h o
    · exact fr3 b h o
  · rcases List.mem_append.1 hb with h | h
    · have := ge1' b h; omega
    · have := ge3' b h; omega
  · exact s3 _ _ (T3.setCell (show w.heap.size ≤ w.heap.size + 2 by omega) _) (by omega)

section
variable {H : Type} {enc : TypeId × Value → H} {w : World} {held : Bool}

theorem wf_i64 {n : Int} (h : (Lit.int .i64 n).wf = true) : I64 n := by
  simp only [Lit.wf, Bool.and_eq_true, decide_eq_true_eq] at h
  have e1 : IntKind.min .i64 = -9223372036854775808 := by decide
  have e2 : IntKind.max .i64 = 9223372036854775807 := by decide
  rw [e1, e2] at h
  exact h

set_option maxRecDepth 100000 in
theorem read_bd {fuel : Nat} {b o : Nat} {cs : List Value} {y : DataW H × List MemPlace} (h : DataW.trod enc Try.prog w 0 (fun _ => true) held fuel 80 cs = some y) (hc : ∀ i, i < 4 → w.cell? ⟨b, o + i, none⟩ = cs[i]?) : ∃ x : Bd, BdCells w b o x ∧ I64 x.ver := by
  obtain ⟨y0, y1, y2, y3, n, _, hl, h0, h1, h2, h3⟩ := trod_struct4 Try.underlying80 h
  rw [show Try.prog.cellsOf 80 = 4 by kernel_rfl] at hl
  match cs, hl with
  | [c0, c1, c2, c3], _ =>
    simp only [show Try.prog.cellsOf 3 = 1 by kernel_rfl, List.drop_zero, List.drop_succ_cons, List.take_succ_cons, List.take_zero] at h0 h1 h2 h3
    obtain ⟨q0, e0, _, w0⟩ := DataW.trod_int Try.underlying3 h0
    obtain ⟨q1, e1, _, _⟩ := DataW.trod_int Try.underlying3 h1
    obtain ⟨q2, e2, _, _⟩ := DataW.trod_int Try.underlying3 h2
    obtain ⟨q3, e3, _, _⟩ := DataW.trod_int Try.underlying3 h3
    simp only [List.cons.injEq, and_true] at e0 e1 e2 e3
    subst e0 e1 e2 e3
    exact ⟨⟨q0, q1, q2, q3⟩, ⟨hc 0 (by omega), hc 1 (by omega), hc 2 (by omega), hc 3 (by omega)⟩, wf_i64 w0⟩

set_option maxRecDepth 100000 in
theorem read_bds {fuel : Nat} {v : Value} {y : DataW H × List MemPlace} (h : DataW.trod enc Try.prog w 0 (fun _ => true) held fuel 39 [v] = some y) : ∃ xs bs, BdsAt w v xs bs ∧ ∀ i : Nat, I64 (xs[i]?.getD bd0).ver := by
  have zero : ∀ i : Nat, I64 (([] : List Bd)[i]?.getD bd0).ver := fun i => by simp [I64, bd0]
  rcases open_slice Try.underlying39 h with ⟨hcs, _⟩ | ⟨a, len, cap, m, n, D, Pl, hcs, _, hlc, hcm, hm, _, hx⟩
  · simp only [List.cons.injEq, and_true] at hcs
    subst hcs
    exact ⟨[], [], bdsAt_nil _, zero⟩
  · simp only [List.cons.injEq, and_true] at hcs
    subst hcs
    simp only [if_true] at hm
    subst hm
    rw [show Try.prog.cellsOf 80 = 4 by kernel_rfl] at hx
    by_cases e : len = 0
    · subst e
      exact ⟨[], [], ⟨a, m, rfl, Nat.zero_le _, hcm, Or.inl ⟨rfl, rfl⟩⟩, zero⟩
    · obtain ⟨cs0, h00, _⟩ := hx 0 (by omega)
      obtain ⟨_, hl0, hc0⟩ := World.cells?_some h00
      have hs : a.spot = none := by
        have e1 := hc0 0 (by omega)
        match cs0, hl0 with
        | [c0, c1, c2, c3], _ =>
          have := World.cell?_spot e1
          simpa [Addr.add] using this
      have each : ∀ i, i < len → ∃ x : Bd, BdCells w a.block (a.off + i * 4) x ∧ I64 x.ver := fun i hi => by
        obtain ⟨cs, hcs, ht⟩ := hx i (by omega)
        obtain ⟨_, _, hcell⟩ := World.cells?_some hcs
        refine read_bd ht fun r hr => ?_
        rw [← hcell r hr]
        obtain ⟨b, o, s⟩ := a
        simp only at hs
        subst hs
        rw [Addr.add_lit, Addr.add_lit]
      have inh : Inhabited Bd := ⟨bd0⟩
      obtain ⟨F, hF⟩ := choose_lt (p := fun i (x : Bd) => BdCells w a.block (a.off + i * 4) x ∧ I64 x.ver) each
      refine ⟨(List.range len).map F, [a.block], ⟨a, m, by simp, by simpa using hlc, hcm, Or.inr ⟨a.block, a.off, by obtain ⟨b, o, s⟩ := a; simp only at hs; rw [hs], rfl, ?_, fun i hi => ?_⟩⟩, fun i => ?_⟩
      · have hc := (hF 0 (by omega)).1.1
        exact World.block_lt_of_cell? w ⟨a.block, a.off + 0 * 4, none⟩ hc
      · have hi' : i < len := by simpa using hi
        have := (hF i hi').1
        simpa [hi'] using this
      · by_cases hi : i < len
        · have := (hF i hi).2
          simpa [hi] using this
        · have e2 : ((List.range len).map F)[i]? = none := by simp; omega
          rw [e2]
          simp [I64, bd0]

set_option maxRecDepth 100000 in
theorem read_world {r : Reach} {b0 : Nat} {v : Value} {d : DataW H} {p : List MemPlace} (hv : Value.okWide Try.prog w r b0 41 v) (h : DataW.Trod enc Try.prog w 0 (fun _ => true) held 41 v d p) : ∃ k bs, WdAt w v k bs ∧ ∀ i : Nat, I64 (k.bds[i]?.getD bd0).ver := by
  obtain ⟨cs, rfl, hsz⟩ := okWide_struct Try.underlying41 hv
  obtain ⟨fuel, hf⟩ := h
  have hf' : DataW.trod enc Try.prog w 0 (fun _ => true) held fuel 41 cs.toList = some (d, p) := hf
  obtain ⟨y0, y1, y2, n, _, hl, h0, h1, h2⟩ := trod_struct3 Try.underlying41 hf'
  rw [show Try.prog.cellsOf 41 = 5 by kernel_rfl] at hsz hl
  obtain ⟨ls⟩ := cs
  match ls, hl with
  | [c0, c1, c2, c3, c4], _ =>
    simp only [show Try.prog.cellsOf 4 = 1 by kernel_rfl, show Try.prog.cellsOf 38 = 3 by kernel_rfl, show Try.prog.cellsOf 39 = 1 by kernel_rfl, List.drop_zero, List.drop_succ_cons, List.take_succ_cons, List.take_zero] at h0 h1 h2
    obtain ⟨q0, e0, _⟩ := DataW.trod_bool Try.underlying4 h0
    obtain ⟨z0, z1, z2, n', _, hl', g0, g1, g2⟩ := trod_struct3 Try.underlying38 h1
    simp only [show Try.prog.cellsOf 4 = 1 by kernel_rfl, show Try.prog.cellsOf 3 = 1 by kernel_rfl, show Try.prog.cellsOf 36 = 1 by kernel_rfl, List.drop_zero, List.drop_succ_cons, List.take_succ_cons, List.take_zero] at g0 g1 g2
    obtain ⟨q1, e1, _⟩ := DataW.trod_bool Try.underlying4 g0
    obtain ⟨q2, e2, _, _⟩ := DataW.trod_int Try.underlying3 g1
    simp only [List.cons.injEq, and_true] at e0 e1 e2
    subst e0 e1 e2
    obtain ⟨xs, b1, hl1⟩ := read_lns g2
    obtain ⟨ys, b2, hb1, hwf⟩ := read_bds h2
    exact ⟨⟨q0, ⟨q1, q2, xs⟩, ys⟩, b1 ++ b2, ⟨_, _, b1, b2, rfl, rfl, hl1, hb1⟩, hwf⟩
end

end Go.Proofs.Ytnaaheddhgpnoab
