/-
  THE RUN OF FnBack, AS DATA: its books, its events, their codes; the run as a list of events and a list of books.
-/
import Derived.Test.YtnaaheddhgpnoaaDoorDoD
import Derived.Test.YtnaaheddhgpnoaaDoorMarkD
namespace Go.Proofs.YtnaaheddhgpnoaaDoor
open Go.RowKit

def ways (m : Nat) : List Int := (List.range m).map fun (x : Nat) => (x : Int)
theorem ways_len (m : Nat) : (ways m).length = m := by simp [ways]
theorem ways_at (m i : Nat) (h : i < m) : (ways m)[i]?.getD 0 = (i : Int) := by simp [ways, h]
theorem ways_succ (m : Nat) : ways m ++ [(m : Int)] = ways (m + 1) := by simp [ways, List.range_succ]
theorem ways_take (m e : Nat) (h : e ≤ m) : (ways m).take e = ways e := by
  simp only [ways, ← List.map_take, List.take_range]
  rw [Nat.min_eq_left h]

def lnQ (m : Nat) (grs : List Gr) (drop : Int) : Ln := ⟨0, ways m, grs, drop⟩
def two (n : Nat) (l : Ln) : Bk := ⟨true, n, [l, lnB]⟩
theorem totQ (m : Nat) (grs : List Gr) (drop : Int) : totD (lnQ m grs drop) = (m : Int) := by simp [totD, lnQ, ways_len]

theorem two_at (n : Nat) (l : Ln) (i : Nat) (hi : i < 2) : (two n l).lns[i]?.getD ln0 = if i = 0 then l else lnB := by
  match i, hi with
  | 0, _ => rfl
  | 1, _ => rfl

theorem lnB_grs : GrsOk lnB := ⟨by simp [lnB], by simp [lnB], fun i hi => by
  have : i = 0 := by simp [lnB] at hi; exact hi
  subst this
  exact ⟨by simp [lnB], by simp [lnB, totD], by simp [lnB], by simp [lnB], fun h => by omega⟩, by simp [lnB, mostOf, mostTo]⟩

theorem two_right (n m : Nat) (grs : List Gr) (drop : Int) (hn1 : 1 ≤ n) (hn2 : n ≤ 100) (hm : m ≤ n) (hg : GrsOk (lnQ m grs drop)) (hd : DropOk (lnQ m grs drop)) : Right (two n (lnQ m grs drop)) := by
  have h2 : (two n (lnQ m grs drop)).lns.length = 2 := rfl
  refine ⟨⟨rfl, by show (1 : Int) ≤ n; omega, by show (n : Int) ≤ 200; omega, by rw [h2]; omega⟩, fun i hi => ?_, fun i hi => ?_, fun i hi => ?_, ⟨fun i hi a b ha hb e => ?_, fun i j hi hj a b ha hb e => ?_⟩⟩
  · rw [two_at n _ i hi]
    split
    · exact ⟨⟨by simp [lnQ], by simp [lnQ], by simp [lnQ, ways_len]; omega, by rw [totQ]; omega⟩, fun a ha => by
        have ha' : a < m := by simpa [lnQ, ways_len] using ha
        show 0 ≤ (ways m)[a]?.getD 0 ∧ (ways m)[a]?.getD 0 ≤ (n : Int) - 1
        rw [ways_at m a ha']; omega⟩
    · exact ⟨⟨by simp [lnB], by simp [lnB], by simp [lnB], by simp [lnB, totD]⟩, fun a ha => by simp [lnB] at ha⟩
  · rw [two_at n _ i hi]
    split
    · exact hg
    · exact lnB_grs
  · rw [two_at n _ i hi]
    split
    · exact hd
    · exact Or.inl rfl
  · rw [two_at n _ i hi] at ha hb e
    split at ha
    · have ha' : a < m := by simpa [lnQ, ways_len] using ha
      rw [if_pos (by assumption)] at hb e
      have hb' : b < m := by simpa [lnQ, ways_len] using hb
      have e' : (ways m)[a]?.getD 0 = (ways m)[b]?.getD 0 := e
      rw [ways_at m a ha', ways_at m b hb'] at e'
      omega
    · simp [lnB] at ha
  · rw [two_at n _ i hi] at ha e
    rw [two_at n _ j hj] at hb e
    have hi' : i < 2 := hi
    have hj' : j < 2 := hj
    split at ha
    · split at hb
      · omega
      · simp [lnB] at hb
    · simp [lnB] at ha

theorem owned_two (n m : Nat) (grs : List Gr) (drop s : Int) : ownedB (two n (lnQ m grs drop)).lns s = true ↔ 0 ≤ s ∧ s < m := by
  simp only [ownedB, two, lnQ, lnB, ways, List.any_cons, List.any_nil, List.any_map, Bool.or_false, List.any_eq_true, List.mem_range, Function.comp_apply, beq_iff_eq]
  constructor
  · rintro ⟨x, hx, rfl⟩; omega
  · rintro ⟨h0, h1⟩
    obtain ⟨x, rfl⟩ := Int.eq_ofNat_of_zero_le h0
    exact ⟨x, by omega, rfl⟩

def g1 : List Gr := [⟨0, 0⟩]
def g2 (e : Nat) : List Gr := [⟨0, 0⟩, ⟨1, (e : Int)⟩]
def g3 (e t : Nat) : List Gr := [⟨0, 0⟩, ⟨1, (e : Int)⟩, ⟨2, (t : Int)⟩]
def g3b (e t : Nat) : List Gr := [⟨1, (e : Int)⟩, ⟨2, (t : Int)⟩]
def g3c (t : Nat) : List Gr := [⟨2, (t : Int)⟩]
theorem grs_ok (m : Nat) (drop : Int) (grs : List Gr) (h1 : 1 ≤ grs.length) (h20 : grs.length ≤ 20) (hc : ∀ i, i < grs.length → 0 ≤ (grs[i]?.getD gr0).cel ∧ (grs[i]?.getD gr0).cel ≤ (m : Int) ∧ 0 ≤ (grs[i]?.getD gr0).ver ∧ (grs[i]?.getD gr0).ver ≤ 1000000 ∧ (0 < i → (grs[i]?.getD gr0).ver = (grs[i - 1]?.getD gr0).ver + 1)) : GrsOk (lnQ m grs drop) :=
  ⟨h1, h20, fun i hi => by obtain ⟨a, b, c, d, e⟩ := hc i hi; exact ⟨a, by rw [totQ]; exact b, c, d, e⟩, mostTo_nonneg grs _⟩
theorem ok1 (m : Nat) (drop : Int) : GrsOk (lnQ m g1 drop) := grs_ok m drop g1 (by simp [g1]) (by simp [g1]) fun i hi => by
  match i, hi with
  | 0, _ => simp [g1]
theorem ok2 (m e : Nat) (drop : Int) (he : e ≤ m) : GrsOk (lnQ m (g2 e) drop) := grs_ok m drop (g2 e) (by simp [g2]) (by simp [g2]) fun i hi => by
  match i, hi with
  | 0, _ => simp [g2]
  | 1, _ => simp [g2]; omega
theorem ok3 (m e t : Nat) (drop : Int) (he : e ≤ m) (ht : t ≤ m) : GrsOk (lnQ m (g3 e t) drop) := grs_ok m drop (g3 e t) (by simp [g3]) (by simp [g3]) fun i hi => by
  match i, hi with
  | 0, _ => simp [g3]
  | 1, _ => simp [g3]; omega
  | 2, _ => simp [g3]; omega
theorem most2 (e : Nat) : mostOf (g2 e) = (e : Int) := by simp [mostOf, g2, mostTo]
theorem most3 (e t : Nat) (h : t ≤ e) : mostOf (g3 e t) = (e : Int) := by simp [mostOf, g3, mostTo]; omega
theorem most3b (e t : Nat) (h : t ≤ e) : mostOf (g3b e t) = (e : Int) := by simp [mostOf, g3b, mostTo]; omega
theorem most3c (t : Nat) : mostOf (g3c t) = (t : Int) := by simp [mostOf, g3c, mostTo]

end Go.Proofs.YtnaaheddhgpnoaaDoor

namespace Go.Proofs.YtnaaheddhgpnoaaDoor
open Go.RowKit

theorem ok3b (m e t : Nat) (drop : Int) (he : e ≤ m) (ht : t ≤ m) : GrsOk (lnQ m (g3b e t) drop) := grs_ok m drop (g3b e t) (by simp [g3b]) (by simp [g3b]) fun i hi => by
  match i, hi with
  | 0, _ => simp [g3b]; omega
  | 1, _ => simp [g3b]; omega
theorem ok3c (m t : Nat) (drop : Int) (ht : t ≤ m) : GrsOk (lnQ m (g3c t) drop) := grs_ok m drop (g3c t) (by simp [g3c]) (by simp [g3c]) fun i hi => by
  match i, hi with
  | 0, _ => simp [g3c]; omega

theorem ev_two {n : Nat} {l : Ln} (hr : Right (two n l)) (op tr x : Int) (ho0 : 1 ≤ op) (ho1 : op ≤ 5) (ht0 : 0 ≤ tr) (ht1 : tr ≤ 1) (hx0 : 0 ≤ x) (ha : op = 1 → x ≤ (n : Int) - 1) (hb : op ≠ 1 → x ≤ 1000000) : EvOk (two n l) ⟨op, tr, x⟩ :=
  ⟨hr, ht0, by show tr ≤ ((two n l).lns.length : Int) - 1; simp [two]; omega, ho0, ho1, hx0, ha, hb⟩
theorem do_two0 (n : Nat) (l : Ln) (op x : Int) : doLn (two n l) ⟨op, 0, x⟩ = lineDo (ownedB (two n l).lns x) l op x := rfl
theorem do_two1 (n : Nat) (l : Ln) (op x : Int) : doLn (two n l) ⟨op, 1, x⟩ = lineDo (ownedB (two n l).lns x) lnB op x := rfl
theorem bk_two0 (n : Nat) (l : Ln) (op x : Int) : doBk (two n l) ⟨op, 0, x⟩ = two n (settleD (doLn (two n l) ⟨op, 0, x⟩).2) := rfl

theorem addStep (n m : Nat) (hn : n ≤ 100) (hm : m < n) : EvOk (two n (lnQ m g1 (-1))) ⟨1, 0, (m : Int)⟩ ∧ (doLn (two n (lnQ m g1 (-1))) ⟨1, 0, (m : Int)⟩).1 = 0 ∧ two n (lnQ (m + 1) g1 (-1)) = doBk (two n (lnQ m g1 (-1))) ⟨1, 0, (m : Int)⟩ := by
  have hr := two_right n m g1 (-1) (by omega) hn (by omega) (ok1 m _) (Or.inl rfl)
  have hno : ¬ ownedB (two n (lnQ m g1 (-1))).lns (m : Int) = true := by rw [owned_two]; omega
  have hd : ¬ (0 : Int) ≤ (lnQ m g1 (-1)).drop := by simp [lnQ]
  have hl : ¬ ((lnQ m g1 (-1)).way.length = 100 ∨ totD (lnQ m g1 (-1)) = 1000000) := by rw [totQ]; simp only [lnQ, ways_len]; omega
  have e : doLn (two n (lnQ m g1 (-1))) ⟨1, 0, (m : Int)⟩ = (0, { lnQ m g1 (-1) with way := (lnQ m g1 (-1)).way ++ [(m : Int)] }) := by
    rw [do_two0]; simp only [lineDo]; rw [if_pos trivial, if_neg hno, if_neg hd, if_neg hl]
  refine ⟨ev_two hr 1 0 m (by decide) (by decide) (by decide) (by decide) (by omega) (fun _ => by omega) (fun h => absurd rfl h), by rw [e], ?_⟩
  rw [bk_two0, e]
  show _ = two n (settleD ⟨0, ways m ++ [(m : Int)], g1, -1⟩)
  rw [ways_succ]
  unfold settleD
  rw [if_pos (show (-1 : Int) < 0 by decide)]
  rfl

theorem lastVer1 (m : Nat) (d : Int) : lastVer (lnQ m g1 d) = 0 := rfl
theorem lastVer2 (m e : Nat) (d : Int) : lastVer (lnQ m (g2 e) d) = 1 := rfl

theorem endStep1 (n e : Nat) (hn1 : 1 ≤ n) (hn : n ≤ 100) (he : e ≤ n) : EvOk (two n (lnQ n g1 (-1))) ⟨2, 0, (e : Int)⟩ ∧ (doLn (two n (lnQ n g1 (-1))) ⟨2, 0, (e : Int)⟩).1 = 0 ∧ two n (lnQ n (g2 e) (-1)) = doBk (two n (lnQ n g1 (-1))) ⟨2, 0, (e : Int)⟩ := by
  have hr := two_right n n g1 (-1) hn1 hn (Nat.le_refl _) (ok1 n _) (Or.inl rfl)
  have hx : ¬ ((e : Int) < (lnQ n g1 (-1)).gone ∨ totD (lnQ n g1 (-1)) < (e : Int) ∨ (0 ≤ (lnQ n g1 (-1)).drop ∧ (lnQ n g1 (-1)).drop < (e : Int))) := by rw [totQ]; simp only [lnQ]; omega
  have hy : ¬ ((lnQ n g1 (-1)).grs.length = 20 ∨ lastVer (lnQ n g1 (-1)) = 1000000) := by rw [lastVer1]; simp [lnQ, g1]
  have ed : doLn (two n (lnQ n g1 (-1))) ⟨2, 0, (e : Int)⟩ = (0, lnQ n (g2 e) (-1)) := by
    rw [do_two0]; simp only [lineDo]; rw [if_neg (by decide), if_pos trivial, if_neg hx, if_neg hy, lastVer1]; rfl
  refine ⟨ev_two hr 2 0 e (by decide) (by decide) (by decide) (by decide) (by omega) (fun h => absurd h (by decide)) (fun _ => by omega), by rw [ed], ?_⟩
  rw [bk_two0, ed]
  show _ = two n (settleD (lnQ n (g2 e) (-1)))
  unfold settleD
  rw [if_pos (by simp [lnQ])]

theorem endStep2 (n e t : Nat) (hn1 : 1 ≤ n) (hn : n ≤ 100) (he : e ≤ n) (ht : t ≤ n) : EvOk (two n (lnQ n (g2 e) (-1))) ⟨2, 0, (t : Int)⟩ ∧ (doLn (two n (lnQ n (g2 e) (-1))) ⟨2, 0, (t : Int)⟩).1 = 0 ∧ two n (lnQ n (g3 e t) (-1)) = doBk (two n (lnQ n (g2 e) (-1))) ⟨2, 0, (t : Int)⟩ := by
  have hr := two_right n n (g2 e) (-1) hn1 hn (Nat.le_refl _) (ok2 n e _ he) (Or.inl rfl)
  have hx : ¬ ((t : Int) < (lnQ n (g2 e) (-1)).gone ∨ totD (lnQ n (g2 e) (-1)) < (t : Int) ∨ (0 ≤ (lnQ n (g2 e) (-1)).drop ∧ (lnQ n (g2 e) (-1)).drop < (t : Int))) := by rw [totQ]; simp only [lnQ]; omega
  have hy : ¬ ((lnQ n (g2 e) (-1)).grs.length = 20 ∨ lastVer (lnQ n (g2 e) (-1)) = 1000000) := by rw [lastVer2]; simp [lnQ, g2]
  have ed : doLn (two n (lnQ n (g2 e) (-1))) ⟨2, 0, (t : Int)⟩ = (0, lnQ n (g3 e t) (-1)) := by
    rw [do_two0]; simp only [lineDo]; rw [if_neg (by decide), if_pos trivial, if_neg hx, if_neg hy, lastVer2]; rfl
  refine ⟨ev_two hr 2 0 t (by decide) (by decide) (by decide) (by decide) (by omega) (fun h => absurd h (by decide)) (fun _ => by omega), by rw [ed], ?_⟩
  rw [bk_two0, ed]
  show _ = two n (settleD (lnQ n (g3 e t) (-1)))
  unfold settleD
  rw [if_pos (by simp [lnQ])]

theorem settleQ (m e t : Nat) (grs : List Gr) (hM : mostOf grs = (e : Int)) (hte : t < e) (hem : e ≤ m) : settleD (lnQ m grs (t : Int)) = lnQ e grs (t : Int) := by
  have h0 : ¬ ((lnQ m grs (t : Int)).drop < 0) := by simp [lnQ]
  have hmx : max (mostOf (lnQ m grs (t : Int)).grs) (lnQ m grs (t : Int)).drop = (e : Int) := by show max (mostOf grs) (t : Int) = e; rw [hM]; omega
  unfold settleD
  rw [if_neg h0]
  simp only [hmx, totQ]
  by_cases hlt : (e : Int) < (m : Int)
  · have e1 : ({ lnQ m grs (t : Int) with way := (lnQ m grs (t : Int)).way.take ((e : Int) - (lnQ m grs (t : Int)).gone).toNat } : Ln) = lnQ e grs (t : Int) := by
      show (⟨0, (ways m).take ((e : Int) - 0).toNat, grs, (t : Int)⟩ : Ln) = ⟨0, ways e, grs, (t : Int)⟩
      rw [show ((e : Int) - 0).toNat = e by omega, ways_take m e hem]
    rw [if_pos hlt, e1, totQ, if_neg (by show ¬ (e : Int) ≤ (t : Int); omega)]
  · have hme : m = e := by omega
    subst hme
    rw [if_neg hlt, totQ, if_neg (by show ¬ (m : Int) ≤ (t : Int); omega)]

theorem dropStep (n e t : Nat) (hn1 : 1 ≤ n) (hn : n ≤ 100) (he : e ≤ n) (ht : t < e) : EvOk (two n (lnQ n (g3 e t) (-1))) ⟨5, 0, (t : Int)⟩ ∧ (doLn (two n (lnQ n (g3 e t) (-1))) ⟨5, 0, (t : Int)⟩).1 = 0 ∧ two n (lnQ e (g3 e t) (t : Int)) = doBk (two n (lnQ n (g3 e t) (-1))) ⟨5, 0, (t : Int)⟩ := by
  have hr := two_right n n (g3 e t) (-1) hn1 hn (Nat.le_refl _) (ok3 n e t _ he (by omega)) (Or.inl rfl)
  have hx : ¬ ((t : Int) < (lnQ n (g3 e t) (-1)).gone ∨ totD (lnQ n (g3 e t) (-1)) ≤ (t : Int)) := by rw [totQ]; simp only [lnQ]; omega
  have hy : ¬ ((t : Int) < lastCel (lnQ n (g3 e t) (-1))) := by show ¬ ((t : Int) < (t : Int)); omega
  have ed : doLn (two n (lnQ n (g3 e t) (-1))) ⟨5, 0, (t : Int)⟩ = (0, lnQ n (g3 e t) (t : Int)) := by
    rw [do_two0]; simp only [lineDo]; rw [if_neg (by decide), if_neg (by decide), if_neg (by decide), if_neg (by decide), if_neg hx, if_neg hy]; rfl
  refine ⟨ev_two hr 5 0 t (by decide) (by decide) (by decide) (by decide) (by omega) (fun h => absurd h (by decide)) (fun _ => by omega), by rw [ed], ?_⟩
  rw [bk_two0, ed]
  show _ = two n (settleD (lnQ n (g3 e t) (t : Int)))
  rw [settleQ n e t _ (most3 e t (by omega)) ht he]

theorem rightA (n e t : Nat) (hn1 : 1 ≤ n) (hn : n ≤ 100) (he : e ≤ n) (ht : t < e) : Right (two n (lnQ e (g3 e t) (t : Int))) :=
  two_right n e _ _ hn1 hn he (ok3 e e t _ (Nat.le_refl _) (by omega)) (Or.inr ⟨by show (0 : Int) ≤ t; omega, by rw [totQ]; show (t : Int) ≤ _; omega, by show (t : Int) ≤ t; omega, by rw [totQ]; show (e : Int) ≤ mostOf (g3 e t); rw [most3 e t (by omega)]; omega⟩)

theorem askA (n e t : Nat) (hn1 : 1 ≤ n) (hn : n ≤ 100) (he : e ≤ n) (ht : t < e) : EvOk (two n (lnQ e (g3 e t) (t : Int))) ⟨1, 1, (e : Int) - 1⟩ ∧ (doLn (two n (lnQ e (g3 e t) (t : Int))) ⟨1, 1, (e : Int) - 1⟩).1 = 2 := by
  have ho : ownedB (two n (lnQ e (g3 e t) (t : Int))).lns ((e : Int) - 1) = true := by rw [owned_two]; omega
  exact ⟨ev_two (rightA n e t hn1 hn he ht) 1 1 _ (by decide) (by decide) (by decide) (by decide) (by omega) (fun _ => by omega) (fun h => absurd rfl h), by rw [do_two1]; simp only [lineDo]; rw [if_pos trivial, if_pos ho]⟩
theorem askB (n e t : Nat) (hn1 : 1 ≤ n) (hn : n ≤ 100) (he : e < n) (ht : t < e) : EvOk (two n (lnQ e (g3 e t) (t : Int))) ⟨1, 1, (e : Int)⟩ ∧ (doLn (two n (lnQ e (g3 e t) (t : Int))) ⟨1, 1, (e : Int)⟩).1 = 0 := by
  have ho : ¬ ownedB (two n (lnQ e (g3 e t) (t : Int))).lns (e : Int) = true := by rw [owned_two]; omega
  exact ⟨ev_two (rightA n e t hn1 hn (by omega) ht) 1 1 _ (by decide) (by decide) (by decide) (by decide) (by omega) (fun _ => by omega) (fun h => absurd rfl h), by rw [do_two1]; simp only [lineDo]; rw [if_pos trivial, if_neg ho, if_neg (by simp [lnB]), if_neg (by simp [lnB, totD])]⟩
theorem ackA (n e t : Nat) (hn1 : 1 ≤ n) (hn : n ≤ 100) (he : e ≤ n) (ht : t < e) : EvOk (two n (lnQ e (g3 e t) (t : Int))) ⟨3, 0, 1⟩ ∧ (doLn (two n (lnQ e (g3 e t) (t : Int))) ⟨3, 0, 1⟩).1 = 0 ∧ doBk (two n (lnQ e (g3 e t) (t : Int))) ⟨3, 0, 1⟩ = two n (lnQ e (g3b e t) (t : Int)) := by
  have hx : ¬ ((1 : Int) - firstVer (lnQ e (g3 e t) (t : Int)) < 0 ∨ ((lnQ e (g3 e t) (t : Int)).grs.length : Int) ≤ 1 - firstVer (lnQ e (g3 e t) (t : Int))) := by simp [firstVer, lnQ, g3]
  have hy : ¬ mostOf ((lnQ e (g3 e t) (t : Int)).grs.drop (1 - firstVer (lnQ e (g3 e t) (t : Int))).toNat) < (lnQ e (g3 e t) (t : Int)).gone := by
    show ¬ mostOf (g3b e t) < 0
    rw [most3b e t (by omega)]; omega
  have ed : doLn (two n (lnQ e (g3 e t) (t : Int))) ⟨3, 0, 1⟩ = (0, lnQ e (g3b e t) (t : Int)) := by
    rw [do_two0]; simp only [lineDo]; rw [if_neg (by decide), if_neg (by decide), if_pos trivial, if_neg hx, if_neg hy]; rfl
  refine ⟨ev_two (rightA n e t hn1 hn he ht) 3 0 1 (by decide) (by decide) (by decide) (by decide) (by decide) (fun h => absurd h (by decide)) (fun _ => by decide), by rw [ed], ?_⟩
  rw [bk_two0, ed]
  show two n (settleD (lnQ e (g3b e t) (t : Int))) = _
  rw [settleQ e e t _ (most3b e t (by omega)) ht (Nat.le_refl _)]
theorem ackB (n e t : Nat) (hn1 : 1 ≤ n) (hn : n ≤ 100) (he : e ≤ n) (ht : t < e) : EvOk (two n (lnQ e (g3 e t) (t : Int))) ⟨3, 0, 2⟩ ∧ (doLn (two n (lnQ e (g3 e t) (t : Int))) ⟨3, 0, 2⟩).1 = 0 ∧ doBk (two n (lnQ e (g3 e t) (t : Int))) ⟨3, 0, 2⟩ = two n (lnQ t (g3c t) (-1)) := by
  have hx : ¬ ((2 : Int) - firstVer (lnQ e (g3 e t) (t : Int)) < 0 ∨ ((lnQ e (g3 e t) (t : Int)).grs.length : Int) ≤ 2 - firstVer (lnQ e (g3 e t) (t : Int))) := by simp [firstVer, lnQ, g3]
  have hy : ¬ mostOf ((lnQ e (g3 e t) (t : Int)).grs.drop (2 - firstVer (lnQ e (g3 e t) (t : Int))).toNat) < (lnQ e (g3 e t) (t : Int)).gone := by
    show ¬ mostOf (g3c t) < 0
    rw [most3c t]; omega
  have ed : doLn (two n (lnQ e (g3 e t) (t : Int))) ⟨3, 0, 2⟩ = (0, lnQ e (g3c t) (t : Int)) := by
    rw [do_two0]; simp only [lineDo]; rw [if_neg (by decide), if_neg (by decide), if_pos trivial, if_neg hx, if_neg hy]; rfl
  refine ⟨ev_two (rightA n e t hn1 hn he ht) 3 0 2 (by decide) (by decide) (by decide) (by decide) (by decide) (fun h => absurd h (by decide)) (fun _ => by decide), by rw [ed], ?_⟩
  rw [bk_two0, ed]
  show two n (settleD (lnQ e (g3c t) (t : Int))) = _
  have h0 : ¬ ((lnQ e (g3c t) (t : Int)).drop < 0) := by simp [lnQ]
  have hmx : max (mostOf (lnQ e (g3c t) (t : Int)).grs) (lnQ e (g3c t) (t : Int)).drop = (t : Int) := by show max (mostOf (g3c t)) (t : Int) = t; rw [most3c]; omega
  have e1 : ({ lnQ e (g3c t) (t : Int) with way := (lnQ e (g3c t) (t : Int)).way.take ((t : Int) - (lnQ e (g3c t) (t : Int)).gone).toNat } : Ln) = lnQ t (g3c t) (t : Int) := by
    show (⟨0, (ways e).take ((t : Int) - 0).toNat, g3c t, (t : Int)⟩ : Ln) = ⟨0, ways t, g3c t, (t : Int)⟩
    rw [show ((t : Int) - 0).toNat = t by omega, ways_take e t (by omega)]
  unfold settleD
  rw [if_neg h0]
  simp only [hmx, totQ]
  rw [if_pos (show (t : Int) < (e : Int) by omega), e1, totQ, if_pos (show (t : Int) ≤ (lnQ t (g3c t) (t : Int)).drop from Int.le_refl _)]
  rfl
theorem askC (n e t : Nat) (hn1 : 1 ≤ n) (hn : n ≤ 100) (he : e ≤ n) (ht : t < e) : EvOk (two n (lnQ t (g3c t) (-1))) ⟨1, 1, (e : Int) - 1⟩ ∧ (doLn (two n (lnQ t (g3c t) (-1))) ⟨1, 1, (e : Int) - 1⟩).1 = 0 := by
  have hr := two_right n t (g3c t) (-1) hn1 hn (by omega) (ok3c t t _ (Nat.le_refl _)) (Or.inl rfl)
  have ho : ¬ ownedB (two n (lnQ t (g3c t) (-1))).lns ((e : Int) - 1) = true := by rw [owned_two]; omega
  exact ⟨ev_two hr 1 1 _ (by decide) (by decide) (by decide) (by decide) (by omega) (fun _ => by omega) (fun h => absurd rfl h), by rw [do_two1]; simp only [lineDo]; rw [if_pos trivial, if_neg ho, if_neg (by simp [lnB]), if_neg (by simp [lnB, totD])]⟩

end Go.Proofs.YtnaaheddhgpnoaaDoor

namespace Go.Proofs.YtnaaheddhgpnoaaDoor
open Go.RowKit

def evZ : Ev := ⟨0, 0, 0⟩
def addEs (m : Nat) : List Ev := (List.range m).map fun (x : Nat) => ⟨1, 0, (x : Int)⟩
theorem addEs_len (m : Nat) : (addEs m).length = m := by simp [addEs]
theorem addEs_succ (m : Nat) : addEs m ++ [⟨1, 0, (m : Int)⟩] = addEs (m + 1) := by simp [addEs, List.range_succ]
def backEs (n e t : Nat) : List Ev := addEs n ++ [⟨2, 0, (e : Int)⟩, ⟨2, 0, (t : Int)⟩, ⟨5, 0, (t : Int)⟩]
theorem backEs_len (n e t : Nat) : (backEs n e t).length = n + 3 := by simp [backEs, addEs_len]
theorem backEs_add (n e t i : Nat) (h : i < n) : (backEs n e t)[i]?.getD evZ = ⟨1, 0, (i : Int)⟩ := by
  unfold backEs
  rw [List.getElem?_append_left (by rw [addEs_len]; exact h)]
  simp [addEs, h]
theorem backEs_0 (n e t : Nat) : (backEs n e t)[n]?.getD evZ = ⟨2, 0, (e : Int)⟩ := by
  unfold backEs
  rw [List.getElem?_append_right (by rw [addEs_len]; omega), addEs_len]
  simp
theorem backEs_1 (n e t : Nat) : (backEs n e t)[n + 1]?.getD evZ = ⟨2, 0, (t : Int)⟩ := by
  unfold backEs
  rw [List.getElem?_append_right (by rw [addEs_len]; omega), addEs_len]
  simp
theorem backEs_2 (n e t : Nat) : (backEs n e t)[n + 2]?.getD evZ = ⟨5, 0, (t : Int)⟩ := by
  unfold backEs
  rw [List.getElem?_append_right (by rw [addEs_len]; omega), addEs_len]
  simp
def backK (n e t i : Nat) : Bk := if i ≤ n then two n (lnQ i g1 (-1)) else if i = n + 1 then two n (lnQ n (g2 e) (-1)) else if i = n + 2 then two n (lnQ n (g3 e t) (-1)) else two n (lnQ e (g3 e t) (t : Int))
theorem backK_le (n e t i : Nat) (h : i ≤ n) : backK n e t i = two n (lnQ i g1 (-1)) := if_pos h
theorem backK_1 (n e t : Nat) : backK n e t (n + 1) = two n (lnQ n (g2 e) (-1)) := by unfold backK; rw [if_neg (by omega), if_pos rfl]
theorem backK_2 (n e t : Nat) : backK n e t (n + 2) = two n (lnQ n (g3 e t) (-1)) := by unfold backK; rw [if_neg (by omega), if_neg (by omega), if_pos rfl]
theorem backK_3 (n e t : Nat) : backK n e t (n + 3) = two n (lnQ e (g3 e t) (t : Int)) := by unfold backK; rw [if_neg (by omega), if_neg (by omega), if_neg (by omega)]

theorem backK_begin (n e t : Nat) (h1 : 1 ≤ n) (h2 : n ≤ 200) : backK n e t 0 = begD (n : Int) 2 := by
  rw [backK_le n e t 0 (by omega)]
  unfold begD
  rw [if_pos ⟨⟨by omega, by omega⟩, by decide, by decide⟩]
  rfl

theorem back_step (n e t : Nat) (h1 : 1 ≤ n) (h2 : n ≤ 100) (he : e ≤ n) (ht : t < e) (i : Nat) (hi : i < n + 3) :
    EvOk (backK n e t i) ((backEs n e t)[i]?.getD evZ) ∧ ((backEs n e t)[i]?.getD evZ).op ≠ 4 ∧ (doLn (backK n e t i) ((backEs n e t)[i]?.getD evZ)).1 = 0 ∧ backK n e t (i + 1) = doBk (backK n e t i) ((backEs n e t)[i]?.getD evZ) := by
  have hc : i < n ∨ i = n ∨ i = n + 1 ∨ i = n + 2 := by omega
  rcases hc with h | rfl | rfl | rfl
  · rw [backEs_add n e t i h, backK_le n e t i (by omega), backK_le n e t (i + 1) (by omega)]
    obtain ⟨a, b, c⟩ := addStep n i h2 h
    exact ⟨a, by show (1 : Int) ≠ 4; decide, b, c⟩
  · rw [backEs_0, backK_le i e t i (Nat.le_refl _), backK_1]
    obtain ⟨a, b, c⟩ := endStep1 i e h1 h2 he
    exact ⟨a, by show (2 : Int) ≠ 4; decide, b, c⟩
  · rw [backEs_1, backK_1, backK_2]
    obtain ⟨a, b, c⟩ := endStep2 n e t h1 h2 he (by omega)
    exact ⟨a, by show (2 : Int) ≠ 4; decide, b, c⟩
  · rw [backEs_2, backK_2, backK_3]
    obtain ⟨a, b, c⟩ := dropStep n e t h1 h2 he ht
    exact ⟨a, by show (5 : Int) ≠ 4; decide, b, c⟩

end Go.Proofs.YtnaaheddhgpnoaaDoor
