/-
  THE WORLD AT THE START, AS DATA; lines and bodies laid one by one. No function of the program is named here.
-/
import Derived.Test.YtnaaheddhgpnoabWdD
namespace Go.Proofs.Ytnaaheddhgpnoab
open Go.RowKit

def lnS (a : Int) : Ln := ⟨0, [a], [⟨0, 1⟩], -1⟩
def bdS : Bd := ⟨0, 1, 0, 0⟩
def stBk (s : Int) (xs : List Int) : Bk := ⟨true, s, xs.map lnS⟩
def StartIs (s : Int) (xs : List Int) (k : Wd) : Prop :=
  (Right (stBk s xs) ∧ k = ⟨true, stBk s xs, List.replicate xs.length bdS⟩) ∨ (¬ Right (stBk s xs) ∧ k = wd0)
theorem start_exists (s : Int) (xs : List Int) : ∃ k, StartIs s xs k := by
  by_cases h : Right (stBk s xs)
  · exact ⟨_, Or.inl ⟨h, rfl⟩⟩
  · exact ⟨_, Or.inr ⟨h, rfl⟩⟩
theorem start_frame {s : Int} {xs : List Int} (h : Right (stBk s xs)) : (1 ≤ s ∧ s ≤ 200) ∧ (0 ≤ (xs.length : Int) ∧ (xs.length : Int) ≤ 20) := by
  have f := h.1
  have h1 := f.2
  have h2 := f.3
  have h3 := f.4
  simp only [stBk, List.length_map] at h1 h2 h3
  exact ⟨⟨h1, h2⟩, by omega, by omega⟩

structure StInv (W0 wr : World) (B L o N n k k' : Nat) (A : Nat → Int) (D1 D2 : Nat → Nat) : Prop where
  size : wr.heap.size = N + 1 + 2 * k
  below : Below B W0 wr
  fL : ∀ x, wr.frozen? ⟨L, x, none⟩ = false
  fN : ∀ b x, N ≤ b → wr.frozen? ⟨b, x, none⟩ = false
  exL : ∀ x, x < n * 4 → ∃ u, wr.cell? ⟨L, o + x, none⟩ = some u
  bds : ∀ j, j < n → BdCells wr N (0 + j * 4) (if j < k' then bdS else bd0)
  lines : ∀ j, j < k → LnCells wr L (o + j * 4) (lnS (A j)) ([D1 j] ++ [D2 j])
  ds : ∀ j, j < k → (D1 j = N + 1 + 2 * j ∧ D2 j = N + 2 + 2 * j) ∨ (D1 j = N + 2 + 2 * j ∧ D2 j = N + 1 + 2 * j)

theorem frozen_keep {w w' : World} {b x : Nat} (h : w'.heap[b]? = w.heap[b]?) : w'.frozen? ⟨b, x, none⟩ = w.frozen? ⟨b, x, none⟩ := by
  unfold World.frozen?
  rw [h]

theorem madeCells_at {m i r : Nat} (hi : i < m) (hr : r < 4) : (madeCells #[.int .i64 0, .int .i64 0, .int .i64 0, .int .i64 0] (m * 4))[i * 4 + r]? = some (.int .i64 0) := by
  rw [Array.getElem?_eq_getElem (by rw [size_madeCells]; omega)]
  have : (i * 4 + r) % 4 = r := by omega
  simp only [madeCells]
  simp [this]
  match r, hr with
  | 0, _ => rfl
  | 1, _ => rfl
  | 2, _ => rfl
  | 3, _ => rfl

theorem st_start {w w1 : World} {m L o : Nat} {al : Option Addr} {A : Nat → Int} {c : Array Value} {t t' : TypeId} (B1 : Below w.heap.size w w1)
    (hL : (m = 0 ∧ L = w1.heap.size + 1) ∨ (al = some ⟨L, o, none⟩ ∧ L < w1.heap.size ∧ w.heap.size < L ∧ (∀ x, x < m * 4 → ∃ u, w1.cell? ⟨L, o + x, none⟩ = some u) ∧ ∀ x, w1.frozen? ⟨L, x, none⟩ = false)) :
    StInv w ((w1.alloc (.cells c t')).alloc (.cells (madeCells #[.int .i64 0, .int .i64 0, .int .i64 0, .int .i64 0] (m * 4)) t)) w.heap.size L o (w1.heap.size + 1) m 0 0 A (fun _ => 0) (fun _ => 0) := by
  have z1 : (w1.alloc (.cells c t')).heap.size = w1.heap.size + 1 := by simp
  have fnew : ∀ b x, w1.heap.size + 1 ≤ b → ((w1.alloc (.cells c t')).alloc (.cells (madeCells #[.int .i64 0, .int .i64 0, .int .i64 0, .int .i64 0] (m * 4)) t)).frozen? ⟨b, x, none⟩ = false := fun b x hb => by
    rw [frozen?_alloc_cells, frozen?_alloc_cells]
    unfold World.frozen?
    rw [Array.getElem?_eq_none (by simp; omega)]
  refine ⟨by simp, (B1.alloc B1.size _).alloc (by have := B1.size; omega) _, fun x => ?_, fnew, fun x hx => ?_, fun j hj => ?_, fun j hj => by omega, fun j hj => by omega⟩
  · rcases hL with ⟨_, rfl⟩ | ⟨_, h1, _, _, h3⟩
    · exact fnew _ x (Nat.le_refl _)
    · rw [frozen?_alloc_cells, frozen?_alloc_cells]; exact h3 x
  · rcases hL with ⟨rfl, _⟩ | ⟨_, h1, _, h2, _⟩
    · omega
    · obtain ⟨u, hu⟩ := h2 x hx
      exact ⟨u, (cell_keep (Below.heap_alloc _ _ _ (by omega))).trans ((cell_keep (Below.heap_alloc _ _ _ h1)).trans hu)⟩
  · rw [if_neg (by omega)]
    have hc : ∀ r, r < 4 → ((w1.alloc (.cells c t')).alloc (.cells (madeCells #[.int .i64 0, .int .i64 0, .int .i64 0, .int .i64 0] (m * 4)) t)).cell? ⟨w1.heap.size + 1, 0 + j * 4 + r, none⟩ = some (.int .i64 0) := fun r hr => by
      have := cell_alloc_new (w := w1.alloc (.cells c t')) (c := madeCells #[.int .i64 0, .int .i64 0, .int .i64 0, .int .i64 0] (m * 4)) (t := t) (o := 0 + j * 4 + r)
      rw [z1] at this
      rw [this, Nat.zero_add]
      exact madeCells_at hj hr
    exact ⟨hc 0 (by omega), hc 1 (by omega), hc 2 (by omega), hc 3 (by omega)⟩

theorem st_line {w wr : World} {B L o N n k k' : Nat} {A : Nat → Int} {D1 D2 : Nat → Nat} {o1 o2 : Obj} {va vg : Nat} {ti tg : TypeId} (h : StInv w wr B L o N n k k' A D1 D2) (hk : k < n) (hBL : B ≤ L) (hLN : L < N)
    (hc : (va = wr.heap.size ∧ vg = wr.heap.size + 1 ∧ o1 = .cells #[.int .i64 (A k)] ti ∧ o2 = .cells #[.int .i64 0, .int .i64 1] tg) ∨ (va = wr.heap.size + 1 ∧ vg = wr.heap.size ∧ o1 = .cells #[.int .i64 0, .int .i64 1] tg ∧ o2 = .cells #[.int .i64 (A k)] ti)) :
    StInv w ((((((wr.alloc o1).alloc o2).setCell ⟨L, o + k * 4, none⟩ (.int .i64 0)).setCell ⟨L, o + k * 4 + 1, none⟩ (.slice (some ⟨va, 0, none⟩) 1 1)).setCell ⟨L, o + k * 4 + 2, none⟩ (.slice (some ⟨vg, 0, none⟩) 1 1)).setCell ⟨L, o + k * 4 + 3, none⟩ (.int .i64 (-1))).drew B L o N n (k + 1) k' A (fun j => if j = k then va else D1 j) (fun j => if j = k then vg else D2 j) := by
  have hs := h.size
  have hBs := h.below.size
  obtain ⟨e1, e2, e3, e4, e5, e6, e7⟩ : (∀ x, x < wr.heap.size → ((wr.alloc o1).alloc o2).heap[x]? = wr.heap[x]?) ∧ ((wr.alloc o1).alloc o2).heap.size = wr.heap.size + 2 ∧ ((wr.alloc o1).alloc o2).heap[va]? = some (.cells #[.int .i64 (A k)] ti (0, 0)) ∧ ((wr.alloc o1).alloc o2).heap[vg]? = some (.cells #[.int .i64 0, .int .i64 1] tg (0, 0)) ∧
      (∀ b x, ((wr.alloc o1).alloc o2).frozen? ⟨b, x, none⟩ = wr.frozen? ⟨b, x, none⟩) ∧ Below B w ((wr.alloc o1).alloc o2) ∧ ((va = N + 1 + 2 * k ∧ vg = N + 2 + 2 * k) ∨ (va = N + 2 + 2 * k ∧ vg = N + 1 + 2 * k)) := by
    have s1 : (wr.alloc o1).heap.size = wr.heap.size + 1 := by simp
    have k1 : ((wr.alloc o1).alloc o2).heap[wr.heap.size]? = some o1 := (Below.heap_alloc _ _ _ (by omega)).trans (heap_alloc_new _ _)
    have k2 : ((wr.alloc o1).alloc o2).heap[wr.heap.size + 1]? = some o2 := by rw [← s1]; exact heap_alloc_new _ _
    have hBz : B ≤ wr.heap.size := by omega
    have b6 : Below B w ((wr.alloc o1).alloc o2) := (h.below.alloc hBz _).alloc (by omega) _
    refine ⟨fun x hx => (Below.heap_alloc _ _ _ (by omega)).trans (Below.heap_alloc _ _ _ hx), by simp, ?_, ?_, ?_, b6, ?_⟩
    · rcases hc with ⟨rfl, rfl, rfl, rfl⟩ | ⟨rfl, rfl, rfl, rfl⟩
      · exact k1
      · exact k2
    · rcases hc with ⟨rfl, rfl, rfl, rfl⟩ | ⟨rfl, rfl, rfl, rfl⟩
      · exact k2
      · exact k1
    · rcases hc with ⟨rfl, rfl, rfl, rfl⟩ | ⟨rfl, rfl, rfl, rfl⟩ <;> exact fun b x => by rw [frozen?_alloc_cells, frozen?_alloc_cells]
    · rcases hc with ⟨rfl, rfl, rfl, rfl⟩ | ⟨rfl, rfl, rfl, rfl⟩ <;> omega
  generalize (wr.alloc o1).alloc o2 = v at *
  clear hc
  have c0' : ∀ x, x < wr.heap.size → ∀ y, v.cell? ⟨x, y, none⟩ = wr.cell? ⟨x, y, none⟩ := fun x hx y => cell_keep (e1 x hx)
  generalize hw1 : (((v.setCell ⟨L, o + k * 4, none⟩ (.int .i64 0)).setCell ⟨L, o + k * 4 + 1, none⟩ (.slice (some ⟨va, 0, none⟩) 1 1)).setCell ⟨L, o + k * 4 + 2, none⟩ (.slice (some ⟨vg, 0, none⟩) 1 1)).setCell ⟨L, o + k * 4 + 3, none⟩ (.int .i64 (-1)) = w1
  have far : ∀ x, x ≠ L → w1.heap[x]? = v.heap[x]? := fun x hx => by
    subst hw1
    rw [Below.heap_setCell _ _ _ _ hx, Below.heap_setCell _ _ _ _ hx, Below.heap_setCell _ _ _ _ hx, Below.heap_setCell _ _ _ _ hx]
  have near : ∀ y, y ≠ o + k * 4 → y ≠ o + k * 4 + 1 → y ≠ o + k * 4 + 2 → y ≠ o + k * 4 + 3 → w1.cell? ⟨L, y, none⟩ = v.cell? ⟨L, y, none⟩ := fun y h0 h1 h2 h3 => by
    subst hw1
    rw [cell_set_ne (Ne.symm h3), cell_set_ne (Ne.symm h2), cell_set_ne (Ne.symm h1), cell_set_ne (Ne.symm h0)]
  have hLs : L < wr.heap.size := by omega
  obtain ⟨u0, c0⟩ := h.exL (k * 4) (by omega)
  obtain ⟨u1, c1⟩ := h.exL (k * 4 + 1) (by omega)
  obtain ⟨u2, c2⟩ := h.exL (k * 4 + 2) (by omega)
  obtain ⟨u3, c3⟩ := h.exL (k * 4 + 3) (by omega)
  rw [← c0' L hLs] at c0 c1 c2 c3
  rw [← Nat.add_assoc] at c1 c2 c3
  have d0 : w1.cell? ⟨L, o + k * 4, none⟩ = some (.int .i64 0) := by
    subst hw1
    rw [cell_set_ne (by omega), cell_set_ne (by omega), cell_set_ne (by omega)]; exact World.cell?_setCell_same _ _ _ c0
  have d1 : w1.cell? ⟨L, o + k * 4 + 1, none⟩ = some (.slice (some ⟨va, 0, none⟩) 1 1) := by
    subst hw1
    rw [cell_set_ne (by omega), cell_set_ne (by omega)]; exact World.cell?_setCell_same _ _ _ (by rw [cell_set_ne (by omega)]; exact c1)
  have d2 : w1.cell? ⟨L, o + k * 4 + 2, none⟩ = some (.slice (some ⟨vg, 0, none⟩) 1 1) := by
    subst hw1
    rw [cell_set_ne (by omega)]; exact World.cell?_setCell_same _ _ _ (by rw [cell_set_ne (by omega), cell_set_ne (by omega)]; exact c2)
  have d3 : w1.cell? ⟨L, o + k * 4 + 3, none⟩ = some (.int .i64 (-1)) := by
    subst hw1
    exact World.cell?_setCell_same _ _ _ (by rw [cell_set_ne (by omega), cell_set_ne (by omega), cell_set_ne (by omega)]; exact c3)
  have fz : ∀ b x, w1.frozen? ⟨b, x, none⟩ = wr.frozen? ⟨b, x, none⟩ := fun b x => by subst hw1; simp only [World.frozen?_setCell]; exact e5 b x
  have sz : w1.heap.size = wr.heap.size + 2 := by subst hw1; simpa using e2
  have bl : Below B w w1 := by
    subst hw1
    exact (((e6.setCell hBL _).setCell hBL _).setCell hBL _).setCell hBL _
  clear hw1
  have hva : va ≠ L := by omega
  have hvg : vg ≠ L := by omega
  show StInv w w1.drew B L o N n (k + 1) k' A _ _
  refine ⟨by show w1.heap.size = _; omega, bl.drew, fun x => (fz L x).trans (h.fL x), fun b x hb => (fz b x).trans (h.fN b x hb), fun x hx => ?_, fun j hj => ?_, fun j hj => ?_, fun j hj => ?_⟩
  · show ∃ u, w1.cell? ⟨L, o + x, none⟩ = some u
    by_cases x0 : x = k * 4
    · subst x0; exact ⟨_, d0⟩
    by_cases x1 : x = k * 4 + 1
    · subst x1; exact ⟨_, d1⟩
    by_cases x2 : x = k * 4 + 2
    · subst x2; exact ⟨_, d2⟩
    by_cases x3 : x = k * 4 + 3
    · subst x3; exact ⟨_, d3⟩
    rw [near _ (by omega) (by omega) (by omega) (by omega), c0' L hLs]; exact h.exL x hx
  · exact (h.bds j hj).keep (w' := w1.drew) ((far N (by omega)).trans (e1 N (by omega)))
  · by_cases e : j = k
    · subst e
      simp only [if_true]
      refine ⟨_, _, [va], [vg], d0, d1, d2, d3, rfl, ⟨_, 1, rfl, Nat.le_refl _, by simp [maxLen], Or.inr ⟨va, 0, rfl, rfl, ?_, fun i hi => ?_⟩⟩, ⟨_, 1, rfl, Nat.le_refl _, by simp [maxLen], Or.inr ⟨vg, 0, rfl, rfl, ?_, fun i hi => ?_⟩⟩⟩
      · show va < w1.heap.size; omega
      · have : i = 0 := by simp [lnS] at hi; omega
        subst this
        have q := (far va hva).trans e3
        show w1.cell? _ = _
        unfold World.cell?
        simp only [q]
        rfl
      · show vg < w1.heap.size; omega
      · have : i = 0 := by simp [lnS] at hi; omega
        subst this
        have q := (far vg hvg).trans e4
        constructor
        · show w1.cell? _ = _
          unfold World.cell?
          simp only [q]
          rfl
        · show w1.cell? _ = _
          unfold World.cell?
          simp only [q]
          rfl
    · simp only [if_neg e]
      have hd := h.ds j (by omega)
      have q := fun r (hr : r < 4) => (near (o + j * 4 + r) (by omega) (by omega) (by omega) (by omega)).trans (c0' L hLs _)
      refine (h.lines j (by omega)).keep4 (w' := w1.drew) (q 0 (by omega)) (q 1 (by omega)) (q 2 (by omega)) (q 3 (by omega)) fun x hx => ?_
      have hx2 : x = D1 j ∨ x = D2 j := by simpa using hx
      exact (far x (by omega)).trans (e1 x (by omega))
  · by_cases e : j = k
    · subst e
      simp only [if_true]
      exact e7
    · simp only [if_neg e]
      exact h.ds j (by omega)

theorem st_body {w wr : World} {B L o N n k k' : Nat} {A : Nat → Int} {D1 D2 : Nat → Nat} (h : StInv w wr B L o N n k k' A D1 D2) (hk : k' < n) (hLN : L < N) (hBL : B ≤ L) :
    StInv w ((((wr.setCell ⟨N, 0 + k' * 4, none⟩ (.int .i64 0)).setCell ⟨N, 0 + k' * 4 + 1, none⟩ (.int .i64 1)).setCell ⟨N, 0 + k' * 4 + 2, none⟩ (.int .i64 0)).setCell ⟨N, 0 + k' * 4 + 3, none⟩ (.int .i64 0)) B L o N n k (k' + 1) A D1 D2 := by
  have hb := bd_set h.bds hk bdS
  have far : ∀ x, x ≠ N → ((((wr.setCell ⟨N, 0 + k' * 4, none⟩ (.int .i64 0)).setCell ⟨N, 0 + k' * 4 + 1, none⟩ (.int .i64 1)).setCell ⟨N, 0 + k' * 4 + 2, none⟩ (.int .i64 0)).setCell ⟨N, 0 + k' * 4 + 3, none⟩ (.int .i64 0)).heap[x]? = wr.heap[x]? := fun x hx => by
    rw [Below.heap_setCell _ _ _ _ hx, Below.heap_setCell _ _ _ _ hx, Below.heap_setCell _ _ _ _ hx, Below.heap_setCell _ _ _ _ hx]
  have hBN : B ≤ N := by omega
  refine ⟨by simpa using h.size, (((h.below.setCell hBN _).setCell hBN _).setCell hBN _).setCell hBN _, fun x => by simpa using h.fL x, fun b x hb => by simpa using h.fN b x hb, fun x hx => ?_, fun j hj => ?_, fun j hj => ?_, h.ds⟩
  · obtain ⟨u, hu⟩ := h.exL x hx
    exact ⟨u, (cell_keep (far L (by omega))).trans hu⟩
  · have := hb j hj
    rw [bd_if (fun _ => bdS) (fun _ => bd0)] at this
    exact this
  · have hd := h.ds j hj
    refine (h.lines j hj).keep (far L (by omega)) fun x hx => far x ?_
    have hx2 : x = D1 j ∨ x = D2 j := by simpa using hx
    omega

theorem st_box {wr : World} {b L x0 x1 x2 x3 : Nat} {c : List Value} {t : TypeId} {o1 o2 : Obj} {v0 v1 v2 v3 : Value} (h : BlkIs wr b c t) (hb : b ≠ L) :
    BlkIs ((((((wr.alloc o1).alloc o2).setCell ⟨L, x0, none⟩ v0).setCell ⟨L, x1, none⟩ v1).setCell ⟨L, x2, none⟩ v2).setCell ⟨L, x3, none⟩ v3).drew b c t :=
  ((((((h.alloc o1).alloc o2).other hb x0 v0).other hb x1 v1).other hb x2 v2).other hb x3 v3)
theorem st_box4 {wr : World} {b L x0 x1 x2 x3 : Nat} {c : List Value} {t : TypeId} {v0 v1 v2 v3 : Value} (h : BlkIs wr b c t) (hb : b ≠ L) :
    BlkIs ((((wr.setCell ⟨L, x0, none⟩ v0).setCell ⟨L, x1, none⟩ v1).setCell ⟨L, x2, none⟩ v2).setCell ⟨L, x3, none⟩ v3) b c t :=
  (((h.other hb x0 v0).other hb x1 v1).other hb x2 v2).other hb x3 v3

def stBs (L n : Nat) (D1 D2 : Nat → Nat) : List Nat := if n = 0 then [] else L :: (List.range n).flatMap fun j => [D1 j] ++ [D2 j]
def stBb (N n : Nat) : List Nat := if n = 0 then [] else [N]
theorem stBs_mem {L n N x : Nat} {D1 D2 : Nat → Nat} (ds : ∀ j, j < n → (D1 j = N + 1 + 2 * j ∧ D2 j = N + 2 + 2 * j) ∨ (D1 j = N + 2 + 2 * j ∧ D2 j = N + 1 + 2 * j)) (h : x ∈ stBs L n D1 D2) : x = L ∨ N < x := by
  unfold stBs at h
  split at h
  · simp at h
  · rcases List.mem_cons.1 h with rfl | h
    · exact Or.inl rfl
    · obtain ⟨j, hj, hx⟩ := List.mem_flatMap.1 h
      have := ds j (List.mem_range.1 hj)
      have hx2 : x = D1 j ∨ x = D2 j := by simpa using hx
      exact Or.inr (by omega)
theorem st_nodup {L N n : Nat} {D1 D2 : Nat → Nat} (hLN : n = 0 ∨ L < N) (ds : ∀ j, j < n → (D1 j = N + 1 + 2 * j ∧ D2 j = N + 2 + 2 * j) ∨ (D1 j = N + 2 + 2 * j ∧ D2 j = N + 1 + 2 * j)) : (stBs L n D1 D2 ++ stBb N n).Nodup := by
  by_cases hn : n = 0
  · simp [stBs, stBb, hn]
  · have hLN' : L < N := by omega
    rw [List.nodup_append]
    refine ⟨?_, by simp [stBb, hn], fun x hx y hy => ?_⟩
    · unfold stBs
      rw [if_neg hn, List.nodup_cons]
      refine ⟨fun h => ?_, ?_⟩
      · obtain ⟨j, hj, hx⟩ := List.mem_flatMap.1 h
        have := ds j (List.mem_range.1 hj)
        have hx2 : L = D1 j ∨ L = D2 j := by simpa using hx
        omega
      · rw [List.nodup_iff_pairwise_ne, List.pairwise_flatMap]
        refine ⟨fun j hj => ?_, ?_⟩
        · have := ds j (List.mem_range.1 hj)
          simp
          omega
        · refine List.Pairwise.imp_of_mem ?_ List.pairwise_lt_range
          intro i j hi hj hij x hx y hy
          have h1 := ds i (List.mem_range.1 hi)
          have h2 := ds j (List.mem_range.1 hj)
          have hx2 : x = D1 i ∨ x = D2 i := by simpa using hx
          have hy2 : y = D1 j ∨ y = D2 j := by simpa using hy
          omega
    · have h1 := stBs_mem ds hx
      have h2 : y = N := by simpa [stBb, hn] using hy
      omega

/-- At the end: the lines and the bodies. -/
theorem st_end {w wr : World} {B L o N n cl : Nat} {al : Option Addr} {A : Nat → Int} {D1 D2 : Nat → Nat} {ys : List Ln} (h : StInv w wr B L o N n n n A D1 D2) (hn : n ≤ 20) (hal : n = 0 ∨ (al = some ⟨L, o, none⟩ ∧ L < N)) (hcl : n ≤ cl) (hcm : cl ≤ maxLen)
    (hy : ys.length = n) (hys : ∀ j, j < n → ys[j]?.getD ln0 = lnS (A j)) :
    LnsAt wr (.slice al n cl) ys (stBs L n D1 D2) ∧ BdsAt wr (.slice (some ⟨N, 0, none⟩) n n) (List.replicate n bdS) (stBb N n) := by
  have hs := h.size
  constructor
  · refine ⟨al, cl, by rw [hy], by rw [hy]; exact hcl, hcm, ?_⟩
    rw [hy]
    by_cases e : n = 0
    · exact Or.inl ⟨e, by simp [stBs, e]⟩
    · rcases hal with h0 | ⟨ha, hLN⟩
      · exact absurd h0 e
      · exact Or.inr ⟨L, o, _, ha, by unfold stBs; rw [if_neg e], by omega, fun i hi => by rw [hys i hi]; exact h.lines i hi⟩
  · refine ⟨_, n, by rw [List.length_replicate], by rw [List.length_replicate]; exact Nat.le_refl _, by unfold maxLen; omega, ?_⟩
    rw [List.length_replicate]
    by_cases e : n = 0
    · exact Or.inl ⟨e, by simp [stBb, e]⟩
    · refine Or.inr ⟨N, 0, rfl, by unfold stBb; rw [if_neg e], by omega, fun i hi => ?_⟩
      have := h.bds i hi
      rw [if_pos hi] at this
      rw [List.getElem?_replicate, if_pos hi]
      exact this

theorem set5 (w : World) (b : Nat) (v0 v1 v2 v3 v4 : Value) :
    (∀ x, x ≠ b → (((((w.setCell ⟨b, 0, none⟩ v0).setCell ⟨b, 1, none⟩ v1).setCell ⟨b, 2, none⟩ v2).setCell ⟨b, 3, none⟩ v3).setCell ⟨b, 4, none⟩ v4).heap[x]? = w.heap[x]?) ∧
    (∀ x y, (((((w.setCell ⟨b, 0, none⟩ v0).setCell ⟨b, 1, none⟩ v1).setCell ⟨b, 2, none⟩ v2).setCell ⟨b, 3, none⟩ v3).setCell ⟨b, 4, none⟩ v4).frozen? ⟨x, y, none⟩ = w.frozen? ⟨x, y, none⟩) ∧
    (∀ (B : Nat) (w0 : World), Below B w0 w → B ≤ b → Below B w0 (((((w.setCell ⟨b, 0, none⟩ v0).setCell ⟨b, 1, none⟩ v1).setCell ⟨b, 2, none⟩ v2).setCell ⟨b, 3, none⟩ v3).setCell ⟨b, 4, none⟩ v4)) := by
  refine ⟨fun x hx => ?_, fun x y => by simp, fun B w0 h hB => ((((h.setCell hB _).setCell hB _).setCell hB _).setCell hB _).setCell hB _⟩
  rw [Below.heap_setCell _ _ _ _ hx, Below.heap_setCell _ _ _ _ hx, Below.heap_setCell _ _ _ _ hx, Below.heap_setCell _ _ _ _ hx, Below.heap_setCell _ _ _ _ hx]

/-- The book behind the loop is right just when the one of the start is; then they are one. -/
theorem st_right {s : Int} {xs : List Int} {n j : Nat} {bO : Bool} {bS : Int} (hn : xs.length = n) (hj : (begD s n).lns.length = j) (hO : (begD s n).ok = bO ∧ (begD s n).sec = bS) :
    (Right ⟨bO, bS, (xs.take j).map lnS⟩ → bO = true ∧ bS = s ∧ j = n ∧ xs.take j = xs ∧ Right (stBk s xs)) ∧ (Right (stBk s xs) → Right ⟨bO, bS, (xs.take j).map lnS⟩) := by
  by_cases h : (1 ≤ s ∧ s ≤ 200) ∧ (0 ≤ (n : Int) ∧ (n : Int) ≤ 20)
  · have hd : begD s n = ⟨true, s, List.replicate n lnB⟩ := by
      unfold begD
      rw [if_pos h, Int.toNat_natCast]
    rw [hd] at hj hO
    simp only [List.length_replicate] at hj
    obtain ⟨rfl, rfl⟩ := hO
    subst hj
    have ht : xs.take n = xs := by rw [← hn]; exact List.take_length
    rw [ht]
    exact ⟨fun hr => ⟨rfl, rfl, rfl, rfl, hr⟩, fun hr => hr⟩
  · have hd : begD s n = bk0 := by
      unfold begD
      rw [if_neg h]
    rw [hd] at hO
    obtain ⟨rfl, rfl⟩ := hO
    refine ⟨fun hr => ?_, fun hr => ?_⟩
    · have := hr.1.1
      simp [bk0] at this
    · have := start_frame hr
      rw [hn] at this
      exact absurd this h
theorem st_ys {xs : List Int} {n j : Nat} (hn : xs.length = n) (hj : j ≤ n) : ((xs.take j).map lnS).length = j ∧ ∀ i, i < j → ((xs.take j).map lnS)[i]?.getD ln0 = lnS (xs[i]?.getD 0) := by
  refine ⟨by simp; omega, fun i hi => ?_⟩
  rw [List.getElem?_map, List.getElem?_take, if_pos hi, List.getElem?_eq_getElem (show i < xs.length by omega)]
  rfl

end Go.Proofs.Ytnaaheddhgpnoab
