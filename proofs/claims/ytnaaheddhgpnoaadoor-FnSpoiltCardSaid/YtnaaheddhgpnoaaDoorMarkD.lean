/-
  WHAT MARKING LEAVES, AS DATA; worlds that part in some blocks alone. No function of the program is named here.
-/
import Derived.Test.YtnaaheddhgpnoaaDoorData
namespace Go.Proofs.YtnaaheddhgpnoaaDoor
open Go.RowKit

def markInts (n : Nat) (k : Int) : List Int := (List.range n).map fun (i : Nat) => k + i
def markGrs (n : Nat) (k : Int) : List Gr := (List.range n).map fun (i : Nat) => ⟨k + 2 * i, k + 2 * i + 1⟩
def lnSize (l : Ln) : Int := 2 + l.way.length + 2 * l.grs.length
def markLn (l : Ln) (k : Int) : Ln := ⟨k, markInts l.way.length (k + 1), markGrs l.grs.length (k + 1 + l.way.length), k + 1 + l.way.length + 2 * l.grs.length⟩
/-- How far the count has come ahead of line i. -/
def offs (ls : List Ln) : Nat → Int → Int
  | 0, k => k
  | i + 1, k => offs ls i k + lnSize (ls[i]?.getD ln0)
def markLns (ls : List Ln) (k : Int) : List Ln := (List.range ls.length).map fun i => markLn (ls[i]?.getD ln0) (offs ls i k)

theorem markInts_len (n : Nat) (k : Int) : (markInts n k).length = n := by simp [markInts]
theorem markGrs_len (n : Nat) (k : Int) : (markGrs n k).length = n := by simp [markGrs]
theorem markLns_len (ls : List Ln) (k : Int) : (markLns ls k).length = ls.length := by simp [markLns]
theorem markInts_at {n i : Nat} (k : Int) (h : i < n) : (markInts n k)[i]?.getD 0 = k + i := by simp [markInts, h]
theorem markGrs_at {n i : Nat} (k : Int) (h : i < n) : (markGrs n k)[i]?.getD gr0 = ⟨k + 2 * i, k + 2 * i + 1⟩ := by simp [markGrs, h]
theorem markLns_at {ls : List Ln} {i : Nat} (k : Int) (h : i < ls.length) : (markLns ls k)[i]?.getD ln0 = markLn (ls[i]?.getD ln0) (offs ls i k) := by simp [markLns, h]
theorem lnSize_pos (l : Ln) : 2 ≤ lnSize l := by unfold lnSize; omega
theorem offs_le (ls : List Ln) (k : Int) : ∀ i, k ≤ offs ls i k
  | 0 => Int.le_refl _
  | i + 1 => by have := offs_le ls k i; have := lnSize_pos (ls[i]?.getD ln0); simp only [offs]; omega
theorem offs_mono (ls : List Ln) (k : Int) : ∀ {i j : Nat}, i ≤ j → offs ls i k ≤ offs ls j k := by
  intro i j h
  induction h with
  | refl => exact Int.le_refl _
  | step h ih => have := lnSize_pos; rename_i m; have := lnSize_pos (ls[m]?.getD ln0); simp only [offs]; omega

/-- What may have turned: blocks of 'bs'. -/
structure Chg (bs : List Nat) (w w' : World) : Prop where
  os : w'.os = w.os
  tape : w'.tape = w.tape
  output : w'.output = w.output
  size : w.heap.size ≤ w'.heap.size
  block : ∀ k, k < w.heap.size → k ∉ bs → w'.heap[k]? = w.heap[k]?
  frozen : ∀ b o, b < w.heap.size → w'.frozen? ⟨b, o, none⟩ = w.frozen? ⟨b, o, none⟩

/-- Nothing in these blocks is frozen. -/
def Free (w : World) (bs : List Nat) : Prop := ∀ b ∈ bs, ∀ o, w.frozen? ⟨b, o, none⟩ = false

theorem Chg.refl (bs : List Nat) (w : World) : Chg bs w w := ⟨rfl, rfl, rfl, Nat.le_refl _, fun _ _ _ => rfl, fun _ _ _ => rfl⟩
theorem Chg.trans {bs : List Nat} {a b c : World} (h : Chg bs a b) (k : Chg bs b c) : Chg bs a c :=
  ⟨k.os.trans h.os, k.tape.trans h.tape, k.output.trans h.output, Nat.le_trans h.size k.size, fun i hi hn => (k.block i (Nat.lt_of_lt_of_le hi h.size) hn).trans (h.block i hi hn), fun i o hi => (k.frozen i o (Nat.lt_of_lt_of_le hi h.size)).trans (h.frozen i o hi)⟩
theorem Chg.mono {bs cs : List Nat} {a b : World} (h : Chg bs a b) (hs : ∀ x ∈ bs, x ∈ cs) : Chg cs a b :=
  ⟨h.os, h.tape, h.output, h.size, fun i hi hn => h.block i hi fun hm => hn (hs _ hm), h.frozen⟩
theorem Chg.setCell {bs : List Nat} {a w : World} (h : Chg bs a w) {b o : Nat} (hb : b ∈ bs) (v : Value) : Chg bs a (w.setCell ⟨b, o, none⟩ v) :=
  h.trans ⟨rfl, rfl, rfl, by simp, fun k _ hn => Below.heap_setCell _ _ _ _ (fun e => hn (by rw [e]; exact hb)), fun _ _ _ => by simp⟩
theorem Chg.alloc {bs : List Nat} {a w : World} (h : Chg bs a w) (c : Array Value) (t : TypeId) : Chg bs a (w.alloc (.cells c t)) :=
  h.trans ⟨rfl, rfl, rfl, by simp, fun k hk _ => Below.heap_alloc _ _ _ hk, fun _ _ _ => frozen?_alloc_cells _ _ _ _⟩
theorem Chg.below {bs : List Nat} {w w' : World} (h : Chg bs w w') {B : Nat} (hB : B ≤ w.heap.size) (hs : ∀ b ∈ bs, B ≤ b) : Below B w w' :=
  ⟨h.os, h.tape, h.output, h.size, fun k hk => h.block k (by omega) fun hm => by have := hs k hm; omega⟩
theorem Free.chg {bs cs : List Nat} {w w' : World} (h : Free w bs) (hc : Chg cs w w') (hl : ∀ b ∈ bs, b < w.heap.size) : Free w' bs :=
  fun b hb o => by rw [hc.frozen b o (hl b hb)]; exact h b hb o
theorem Free.below {bs : List Nat} {w w' : World} {B : Nat} (h : Free w bs) (hc : Below B w w') (hl : ∀ b ∈ bs, b < B) : Free w' bs :=
  fun b hb o => by rw [(bcell hc).2 b o (hl b hb)]; exact h b hb o
theorem Free.left {bs cs : List Nat} {w : World} (h : Free w (bs ++ cs)) : Free w bs := fun b hb o => h b (List.mem_append_left _ hb) o
theorem Free.right {bs cs : List Nat} {w : World} (h : Free w (bs ++ cs)) : Free w cs := fun b hb o => h b (List.mem_append_right _ hb) o

/-- A store into one element of a row of cells, seen by index. -/
theorem set_fam {w : World} {b : Nat} {A : Nat → Nat} {V : Nat → Value} {n : Nat} (inj : ∀ i j, A i = A j → i = j) (h : ∀ i, i < n → w.cell? ⟨b, A i, none⟩ = some (V i)) (k : Nat) (hk : k < n) (v : Value) :
    ∀ i, i < n → (w.setCell ⟨b, A k, none⟩ v).cell? ⟨b, A i, none⟩ = some (if i = k then v else V i) := by
  intro i hi
  by_cases e : i = k
  · subst e; rw [if_pos rfl]; exact World.cell?_setCell_same _ _ _ (h i hi)
  · rw [if_neg e, World.cell?_setCell_other]
    · exact h i hi
    · simp only [ne_eq, Addr.mk.injEq, true_and, and_true]; intro hh; exact e (inj _ _ hh.symm)

theorem set_off {w : World} {b x : Nat} {A : Nat → Nat} {V : Nat → Value} {n : Nat} (h : ∀ i, i < n → w.cell? ⟨b, A i, none⟩ = some (V i)) (hx : ∀ i, A i ≠ x) (v : Value) :
    ∀ i, i < n → (w.setCell ⟨b, x, none⟩ v).cell? ⟨b, A i, none⟩ = some (V i) := by
  intro i hi
  rw [World.cell?_setCell_other]
  · exact h i hi
  · simp only [ne_eq, Addr.mk.injEq, true_and, and_true]; intro hh; exact hx i hh.symm

theorem step_if (f g : Nat → Int) (j k : Nat) : (if j = k then Value.int .i64 (f k) else Value.int .i64 (if j < k then f j else g j)) = Value.int .i64 (if j < k + 1 then f j else g j) := by
  by_cases e : j = k
  · subst e; rw [if_pos rfl, if_pos (by omega)]
  · rw [if_neg e]
    by_cases e2 : j < k
    · rw [if_pos e2, if_pos (by omega)]
    · rw [if_neg e2, if_neg (by omega)]

/-- The blocks of lines, each met once. -/
structure Apart (b n : Nat) (D : Nat → List Nat) : Prop where
  out : ∀ j, j < n → b ∉ D j
  one : ∀ j, j < n → (D j).Nodup
  two : ∀ i j, i < n → j < n → i ≠ j → ∀ x ∈ D i, x ∉ D j

theorem Apart.of_nodup {b n : Nat} {D : Nat → List Nat} (h : (b :: (List.range n).flatMap D).Nodup) : Apart b n D := by
  obtain ⟨h1, h2⟩ := List.nodup_cons.1 h
  rw [List.nodup_iff_pairwise_ne, List.pairwise_flatMap] at h2
  refine ⟨fun j hj hm => h1 (List.mem_flatMap.2 ⟨j, List.mem_range.2 hj, hm⟩), fun j hj => h2.1 j (List.mem_range.2 hj), ?_⟩
  intro i j hi hj hne x hx hx'
  have hp := List.pairwise_iff_getElem.1 h2.2
  rcases Nat.lt_or_gt_of_ne hne with h | h
  · exact (hp i j (by simpa using hi) (by simpa using hj) h) x (by simpa using hx) x (by simpa using hx') rfl
  · exact (hp j i (by simpa using hj) (by simpa using hi) h) x (by simpa using hx') x (by simpa using hx) rfl

theorem LnCells.keep4 {w w' : World} {b o : Nat} {l : Ln} {bs : List Nat} (h : LnCells w b o l bs) (h0 : w'.cell? ⟨b, o, none⟩ = w.cell? ⟨b, o, none⟩) (h1 : w'.cell? ⟨b, o + 1, none⟩ = w.cell? ⟨b, o + 1, none⟩)
    (h2 : w'.cell? ⟨b, o + 2, none⟩ = w.cell? ⟨b, o + 2, none⟩) (h3 : w'.cell? ⟨b, o + 3, none⟩ = w.cell? ⟨b, o + 3, none⟩) (hk : ∀ x ∈ bs, w'.heap[x]? = w.heap[x]?) : LnCells w' b o l bs := by
  obtain ⟨vw, vg, b1, b2, e1, e2, e3, e4, rfl, hw, hg⟩ := h
  exact ⟨vw, vg, b1, b2, h0.trans e1, h1.trans e2, h2.trans e3, h3.trans e4, rfl, hw.keep fun x hx => hk x (List.mem_append_left _ hx), hg.keep fun x hx => hk x (List.mem_append_right _ hx)⟩

theorem cell_set_ne {w : World} {b o o' : Nat} {v : Value} (h : o ≠ o') : (w.setCell ⟨b, o, none⟩ v).cell? ⟨b, o', none⟩ = w.cell? ⟨b, o', none⟩ := by
  rw [World.cell?_setCell_other]
  simp only [ne_eq, Addr.mk.injEq, true_and, and_true]; exact h

/-- One round of marking lines: the head cell, the Way, the Grants, the last cell. -/
theorem mark_round {wr w2 w3 : World} {b o n k : Nat} {D : Nat → List Nat} {L : Nat → Ln} {b1 b2 : List Nat} {vw vg : Value} {ways : List Int} {grs : List Gr} {gone drop : Int} (hbw : b < wr.heap.size)
    (hA : Apart b n D) (hall : ∀ j, j < n → LnCells wr b (o + j * 4) (L j) (D j)) (hk : k < n) (hD : D k = b1 ++ b2) (p0 : ∃ u, wr.cell? ⟨b, o + k * 4, none⟩ = some u) (p1 : wr.cell? ⟨b, o + k * 4 + 1, none⟩ = some vw) (p2 : wr.cell? ⟨b, o + k * 4 + 2, none⟩ = some vg)
    (p3 : ∃ u, wr.cell? ⟨b, o + k * 4 + 3, none⟩ = some u)
    (hw : IntsAt w2 vw ways b1) (c12 : Chg b1 (wr.setCell ⟨b, o + k * 4, none⟩ (.int .i64 gone)) w2) (hg : GrsAt w3 vg grs b2) (c23 : Chg b2 w2 w3) :
    ∀ j, j < n → LnCells (w3.setCell ⟨b, o + k * 4 + 3, none⟩ (.int .i64 drop)) b (o + j * 4) (if j = k then ⟨gone, ways, grs, drop⟩ else L j) (D j) := by
  have hb0 : b ∉ D k := hA.out k hk
  have nd := hA.one k hk
  rw [hD] at hb0 nd
  have hb1 : b ∉ b1 := fun h => hb0 (List.mem_append_left _ h)
  have hb2 : b ∉ b2 := fun h => hb0 (List.mem_append_right _ h)
  have s1 : b < (wr.setCell ⟨b, o + k * 4, none⟩ (.int .i64 gone)).heap.size := by simpa using hbw
  have s2 : b < w2.heap.size := Nat.lt_of_lt_of_le s1 c12.size
  have e12 : ∀ x, w2.cell? ⟨b, x, none⟩ = (wr.setCell ⟨b, o + k * 4, none⟩ (.int .i64 gone)).cell? ⟨b, x, none⟩ := fun x => cell_keep (c12.block b s1 hb1)
  have e23 : ∀ x, w3.cell? ⟨b, x, none⟩ = w2.cell? ⟨b, x, none⟩ := fun x => cell_keep (c23.block b s2 hb2)
  intro j hj
  by_cases e : j = k
  · subst e
    rw [if_pos rfl, hD]
    refine ⟨vw, vg, b1, b2, ?_, ?_, ?_, ?_, rfl, ?_, ?_⟩
    · rw [cell_set_ne (by omega), e23, e12]
      obtain ⟨u, hu⟩ := p0
      exact World.cell?_setCell_same _ _ _ hu
    · rw [cell_set_ne (by omega), e23, e12, cell_set_ne (by omega)]; exact p1
    · rw [cell_set_ne (by omega), e23, e12, cell_set_ne (by omega)]; exact p2
    · obtain ⟨u, hu⟩ := p3
      exact World.cell?_setCell_same _ _ _ (by rw [e23, e12, cell_set_ne (by omega)]; exact hu)
    · refine hw.keep fun x hx => ?_
      rw [Below.heap_setCell _ _ _ _ (fun (h : x = b) => hb1 (h ▸ hx)), c23.block x (hw.lt x hx) (fun h => ?_)]
      exact (List.nodup_append.1 nd).2.2 x hx x h rfl
    · refine hg.keep fun x hx => ?_
      rw [Below.heap_setCell _ _ _ _ (fun (h : x = b) => hb2 (h ▸ hx))]
  · rw [if_neg e]
    have hl := hall j hj
    have off : ∀ r, r < 4 → (w3.setCell ⟨b, o + k * 4 + 3, none⟩ (.int .i64 drop)).cell? ⟨b, o + j * 4 + r, none⟩ = wr.cell? ⟨b, o + j * 4 + r, none⟩ := fun r hr => by
      rw [cell_set_ne (by omega), e23, e12, cell_set_ne (by omega)]
    refine hl.keep4 (off 0 (by omega)) (off 1 (by omega)) (off 2 (by omega)) (off 3 (by omega)) fun x hx => ?_
    have hx1 : x ∉ b1 := fun h => hA.two j k hj hk e x hx (by rw [hD]; exact List.mem_append_left _ h)
    have hx2 : x ∉ b2 := fun h => hA.two j k hj hk e x hx (by rw [hD]; exact List.mem_append_right _ h)
    have hxb : x ≠ b := fun h => hA.out j hj (by rw [← h]; exact hx)
    have hxs := hl.lt x hx
    rw [Below.heap_setCell _ _ _ _ hxb, c23.block x (Nat.lt_of_lt_of_le (by simpa using hxs) c12.size) hx2, c12.block x (by simpa using hxs) hx1, Below.heap_setCell _ _ _ _ hxb]

/-- A book in memory that the call made. -/
def NewBk (w w' : World) (v : Value) (k : Bk) : Prop := ∃ bs, BkAt w' v k bs ∧ bs.Nodup ∧ Free w' bs ∧ (∀ b ∈ bs, w.heap.size ≤ b) ∧ Below w.heap.size w w'

def bk0 : Bk := ⟨false, 0, []⟩
theorem lnsAt_nil (w : World) : LnsAt w (.slice none 0 0) [] [] := ⟨none, 0, rfl, Nat.le_refl _, Nat.zero_le _, Or.inl ⟨rfl, rfl⟩⟩
theorem intsAt_nil (w : World) : IntsAt w (.slice none 0 0) [] [] := ⟨none, 0, rfl, Nat.le_refl _, Nat.zero_le _, Or.inl ⟨rfl, rfl⟩⟩
theorem grsAt_nil (w : World) : GrsAt w (.slice none 0 0) [] [] := ⟨none, 0, rfl, Nat.le_refl _, Nat.zero_le _, Or.inl ⟨rfl, rfl⟩⟩
theorem newBk_zero {w w' : World} (h : Below w.heap.size w w') : NewBk w w' (.agg #[.bool false, .int .i64 0, .slice none 0 0]) bk0 :=
  ⟨[], ⟨_, rfl, lnsAt_nil _⟩, by simp, fun b hb => by simp at hb, fun b hb => by simp at hb, h⟩

def lnB : Ln := ⟨0, [], [⟨0, 0⟩], -1⟩
/-- The book at the beginning. -/
def begD (s t : Int) : Bk := if (1 ≤ s ∧ s ≤ 200) ∧ (0 ≤ t ∧ t ≤ 20) then ⟨true, s, List.replicate t.toNat lnB⟩ else bk0

end Go.Proofs.YtnaaheddhgpnoaaDoor
