/-
  LINES THAT ARE MADE ONE BEHIND THE OTHER. No function of the program is named here.
-/
import Derived.Test.YtnaaheddhgpnoaaDoorMarkD
namespace Go.Proofs.YtnaaheddhgpnoaaDoor
open Go.RowKit

structure BegInv (W0 wr : World) (b n k : Nat) : Prop where
  size : wr.heap.size = b + 1 + k
  below : Below b W0 wr
  free : ∀ x o, b ≤ x → wr.frozen? ⟨x, o, none⟩ = false
  ex : ∀ x, x < n * 4 → ∃ u, wr.cell? ⟨b, x, none⟩ = some u
  lines : ∀ j, j < k → LnCells wr b (j * 4) lnB [b + 1 + j]

theorem cell_alloc_new {w : World} {c : Array Value} {t : TypeId} {o : Nat} : (w.alloc (.cells c t)).cell? ⟨w.heap.size, o, none⟩ = c[o]? := by
  unfold World.cell?
  rw [heap_alloc_new]
  rfl

theorem frozen_alloc_new {w : World} {c : Array Value} {t : TypeId} {o : Nat} : (w.alloc (.cells c t)).frozen? ⟨w.heap.size, o, none⟩ = false := by
  unfold World.frozen?
  rw [heap_alloc_new]
  simp

theorem beg_start {W0 : World} {b n : Nat} {z : Array Value} {t : TypeId} (hb : W0.heap.size = b) (hf : ∀ x o, b ≤ x → W0.frozen? ⟨x, o, none⟩ = false) :
    BegInv W0 (W0.alloc (.cells (madeCells z (n * 4)) t)) b n 0 := by
  subst hb
  refine ⟨by simp, (Below.refl _ _).alloc (Nat.le_refl _) _, fun x o hx => ?_, fun x hx => ?_, fun j hj => by omega⟩
  · rw [frozen?_alloc_cells]; exact hf x o hx
  · rw [cell_alloc_new]
    exact ⟨_, Array.getElem?_eq_getElem (by rw [size_madeCells]; exact hx)⟩

/-- A line is laid at place k; its one Grant in the newest block. -/
theorem beg_step {W0 wr : World} {b n k : Nat} {t : TypeId} (h : BegInv W0 wr b n k) (hk : k < n) :
    BegInv W0 (((((wr.setCell ⟨b, k * 4, none⟩ (.int .i64 0)).setCell ⟨b, k * 4 + 1, none⟩ (.slice none 0 0)).setCell ⟨b, k * 4 + 2, none⟩ (.slice (some ⟨wr.heap.size, 0, none⟩) 1 1)).setCell ⟨b, k * 4 + 3, none⟩ (.int .i64 (-1))).alloc (.cells #[.int .i64 0, .int .i64 0] t)) b n (k + 1) := by
  have hs := h.size
  generalize hw1 : (((wr.setCell ⟨b, k * 4, none⟩ (.int .i64 0)).setCell ⟨b, k * 4 + 1, none⟩ (.slice none 0 0)).setCell ⟨b, k * 4 + 2, none⟩ (.slice (some ⟨wr.heap.size, 0, none⟩) 1 1)).setCell ⟨b, k * 4 + 3, none⟩ (.int .i64 (-1)) = w1
  have s1 : w1.heap.size = wr.heap.size := by subst hw1; simp
  have far : ∀ x, x ≠ b → w1.heap[x]? = wr.heap[x]? := fun x hx => by
    subst hw1
    rw [Below.heap_setCell _ _ _ _ hx, Below.heap_setCell _ _ _ _ hx, Below.heap_setCell _ _ _ _ hx, Below.heap_setCell _ _ _ _ hx]
  have near : ∀ o, o ≠ k * 4 → o ≠ k * 4 + 1 → o ≠ k * 4 + 2 → o ≠ k * 4 + 3 → w1.cell? ⟨b, o, none⟩ = wr.cell? ⟨b, o, none⟩ := fun o h0 h1 h2 h3 => by
    subst hw1
    rw [cell_set_ne (Ne.symm h3), cell_set_ne (Ne.symm h2), cell_set_ne (Ne.symm h1), cell_set_ne (Ne.symm h0)]
  obtain ⟨u0, c0⟩ := h.ex (k * 4) (by omega)
  obtain ⟨u1, c1⟩ := h.ex (k * 4 + 1) (by omega)
  obtain ⟨u2, c2⟩ := h.ex (k * 4 + 2) (by omega)
  obtain ⟨u3, c3⟩ := h.ex (k * 4 + 3) (by omega)
  have d0 : w1.cell? ⟨b, k * 4, none⟩ = some (.int .i64 0) := by
    subst hw1
    rw [cell_set_ne (by omega), cell_set_ne (by omega), cell_set_ne (by omega)]; exact World.cell?_setCell_same _ _ _ c0
  have d1 : w1.cell? ⟨b, k * 4 + 1, none⟩ = some (.slice none 0 0) := by
    subst hw1
    rw [cell_set_ne (by omega), cell_set_ne (by omega)]; exact World.cell?_setCell_same _ _ _ (by rw [cell_set_ne (by omega)]; exact c1)
  have d2 : w1.cell? ⟨b, k * 4 + 2, none⟩ = some (.slice (some ⟨wr.heap.size, 0, none⟩) 1 1) := by
    subst hw1
    rw [cell_set_ne (by omega)]; exact World.cell?_setCell_same _ _ _ (by rw [cell_set_ne (by omega), cell_set_ne (by omega)]; exact c2)
  have d3 : w1.cell? ⟨b, k * 4 + 3, none⟩ = some (.int .i64 (-1)) := by
    subst hw1
    exact World.cell?_setCell_same _ _ _ (by rw [cell_set_ne (by omega), cell_set_ne (by omega), cell_set_ne (by omega)]; exact c3)
  have fz : ∀ x o, w1.frozen? ⟨x, o, none⟩ = wr.frozen? ⟨x, o, none⟩ := fun x o => by subst hw1; simp
  have bl : Below b W0 w1 := by
    subst hw1
    exact (((h.below.setCell (Nat.le_refl _) _).setCell (Nat.le_refl _) _).setCell (Nat.le_refl _) _).setCell (Nat.le_refl _) _
  clear hw1
  have kc : ∀ o, (w1.alloc (.cells #[.int .i64 0, .int .i64 0] t)).cell? ⟨b, o, none⟩ = w1.cell? ⟨b, o, none⟩ := fun o => cell_keep (Below.heap_alloc _ _ _ (by omega))
  refine ⟨by simp; omega, bl.alloc (by omega) _, fun x o hx => ?_, fun x hx => ?_, fun j hj => ?_⟩
  · rw [frozen?_alloc_cells, fz]; exact h.free x o hx
  · rw [kc]
    by_cases e0 : x = k * 4
    · subst e0; exact ⟨_, d0⟩
    by_cases e1 : x = k * 4 + 1
    · subst e1; exact ⟨_, d1⟩
    by_cases e2 : x = k * 4 + 2
    · subst e2; exact ⟨_, d2⟩
    by_cases e3 : x = k * 4 + 3
    · subst e3; exact ⟨_, d3⟩
    rw [near x e0 e1 e2 e3]; exact h.ex x hx
  · by_cases e : j = k
    · subst e
      refine ⟨_, _, [], [b + 1 + j], by rw [kc]; exact d0, by rw [kc]; exact d1, by rw [kc]; exact d2, by rw [kc]; exact d3, rfl, intsAt_nil _, ?_⟩
      refine ⟨_, 1, rfl, Nat.le_refl _, by simp [maxLen], Or.inr ⟨_, 0, rfl, by rw [hs], by simp; omega, fun i hi => ?_⟩⟩
      have : i = 0 := by simp [lnB] at hi; omega
      subst this
      rw [← s1, cell_alloc_new, cell_alloc_new]
      exact ⟨rfl, rfl⟩
    · have hl := h.lines j (by omega)
      refine hl.keep4 ?_ ?_ ?_ ?_ fun x hx => ?_
      · rw [kc, near _ (by omega) (by omega) (by omega) (by omega)]
      · rw [kc, near _ (by omega) (by omega) (by omega) (by omega)]
      · rw [kc, near _ (by omega) (by omega) (by omega) (by omega)]
      · rw [kc, near _ (by omega) (by omega) (by omega) (by omega)]
      · have hx' : x = b + 1 + j := by simpa using hx
        rw [Below.heap_alloc _ _ _ (by omega), far x (by omega)]

def begBs (b n : Nat) : List Nat := if n = 0 then [] else b :: (List.range n).flatMap fun j => [b + 1 + j]

theorem begBs_mem {b n x : Nat} (h : x ∈ begBs b n) : b ≤ x := by
  unfold begBs at h
  split at h
  · simp at h
  · simp only [List.mem_cons, List.mem_flatMap, List.mem_range, List.not_mem_nil, or_false] at h
    rcases h with rfl | ⟨j, _, rfl⟩ <;> omega

theorem begBs_nodup (b n : Nat) : (begBs b n).Nodup := by
  unfold begBs
  split
  · simp
  · have e : ((List.range n).flatMap fun j => [b + 1 + j]) = (List.range n).map fun j => b + 1 + j := by
      induction List.range n with
      | nil => rfl
      | cons a l ih => simp [ih]
    rw [e, List.nodup_cons]
    refine ⟨fun h => ?_, ?_⟩
    · obtain ⟨j, _, hj⟩ := List.mem_map.1 h; omega
    · rw [List.nodup_iff_pairwise_ne, List.pairwise_map]
      exact List.Pairwise.imp (fun h => by omega) List.pairwise_lt_range

theorem beg_end {W0 wr : World} {b n : Nat} (h : BegInv W0 wr b n n) (hn : n ≤ 20) : LnsAt wr (.slice (some ⟨b, 0, none⟩) n n) (List.replicate n lnB) (begBs b n) := by
  refine ⟨_, n, by rw [List.length_replicate], by rw [List.length_replicate]; exact Nat.le_refl _, by unfold maxLen; omega, ?_⟩
  rw [List.length_replicate]
  by_cases e : n = 0
  · exact Or.inl ⟨e, by simp [begBs, e]⟩
  · refine Or.inr ⟨b, 0, fun j => [b + 1 + j], rfl, by simp [begBs, e], by have := h.size; omega, fun i hi => ?_⟩
    have := h.lines i hi
    rw [Nat.zero_add, List.getElem?_replicate, if_pos hi]
    exact this

/-- A block of cells, as it lies. -/
def BlkIs (w : World) (b : Nat) (c : List Value) (t : TypeId) : Prop := w.heap[b]? = some (.cells c.toArray t (0, 0))
theorem BlkIs.cell {w : World} {b : Nat} {c : List Value} {t : TypeId} (h : BlkIs w b c t) (o : Nat) : w.cell? ⟨b, o, none⟩ = c[o]? := by
  unfold World.cell?
  rw [h]
  simp
theorem BlkIs.frozen {w : World} {b : Nat} {c : List Value} {t : TypeId} (h : BlkIs w b c t) (o : Nat) : w.frozen? ⟨b, o, none⟩ = false := by
  unfold World.frozen?
  rw [h]
  simp
theorem BlkIs.lt {w : World} {b : Nat} {c : List Value} {t : TypeId} (h : BlkIs w b c t) : b < w.heap.size := (Array.getElem?_eq_some_iff.1 h).1
theorem BlkIs.keep {w w' : World} {b : Nat} {c : List Value} {t : TypeId} (h : BlkIs w b c t) (hk : w'.heap[b]? = w.heap[b]?) : BlkIs w' b c t := hk.trans h
theorem BlkIs.new (w : World) (c : List Value) (t : TypeId) : BlkIs (w.alloc (.cells c.toArray t)) w.heap.size c t := heap_alloc_new w _
theorem BlkIs.alloc {w : World} {b : Nat} {c : List Value} {t : TypeId} (h : BlkIs w b c t) (o : Obj) : BlkIs (w.alloc o) b c t := h.keep (Below.heap_alloc _ _ _ h.lt)
theorem BlkIs.set {w : World} {b : Nat} {c : List Value} {t : TypeId} (h : BlkIs w b c t) (o : Nat) (v : Value) : BlkIs (w.setCell ⟨b, o, none⟩ v) b (c.set o v) t := by
  unfold BlkIs World.setCell
  simp only [Array.getElem?_modify, if_true, show w.heap[b]? = some (.cells c.toArray t (0, 0)) from h]
  simp
theorem BlkIs.other {w : World} {b x : Nat} {c : List Value} {t : TypeId} (h : BlkIs w b c t) (hx : b ≠ x) (o : Nat) (v : Value) : BlkIs (w.setCell ⟨x, o, none⟩ v) b c t := h.keep (Below.heap_setCell _ _ _ _ hx)

theorem LnsAt.slice {w : World} {v : Value} {ls : List Ln} {bs : List Nat} (h : LnsAt w v ls bs) : ∃ a n c, v = .slice a n c := by
  obtain ⟨a, cap, rfl, _⟩ := h
  exact ⟨_, _, _, rfl⟩
theorem BlkIs.below {w w' : World} {b B : Nat} {c : List Value} {t : TypeId} (h : BlkIs w b c t) (hb : Below B w w') (hB : b < B) : BlkIs w' b c t := h.keep (hb.block b hB)
theorem BlkIs.chg {w w' : World} {b : Nat} {bs : List Nat} {c : List Value} {t : TypeId} (h : BlkIs w b c t) (hb : Chg bs w w') (hB : b ∉ bs) : BlkIs w' b c t := h.keep (hb.block b h.lt hB)
theorem BlkIs.three {w : World} {b : Nat} {x y z : Value} {t : TypeId} (h : BlkIs w b [x, y, z] t) : w.cell? ⟨b, 0, none⟩ = some x ∧ w.cell? ⟨b, 1, none⟩ = some y ∧ w.cell? ⟨b, 2, none⟩ = some z := ⟨h.cell 0, h.cell 1, h.cell 2⟩

/-! Lines that are appended one behind the other. -/
def lnCellsB (g : Nat) : List Value := [.int .i64 0, .slice none 0 0, .slice (some ⟨g, 0, none⟩) 1 1, .int .i64 (-1)]

theorem flat4 (f : Nat → List Value) (h4 : ∀ j, (f j).length = 4) : ∀ (k : Nat), ((List.range k).flatMap f).length = k * 4 ∧ ∀ i r, i < k → r < 4 → ((List.range k).flatMap f)[i * 4 + r]? = (f i)[r]?
  | 0 => ⟨rfl, fun i r hi _ => by omega⟩
  | k + 1 => by
    obtain ⟨h1, h2⟩ := flat4 f h4 k
    have e : (List.range (k + 1)).flatMap f = (List.range k).flatMap f ++ f k := by rw [List.range_succ, List.flatMap_append]; simp
    refine ⟨by rw [e, List.length_append, h1, h4]; omega, fun i r hi hr => ?_⟩
    rw [e]
    by_cases hik : i < k
    · rw [List.getElem?_append_left (by rw [h1]; omega)]; exact h2 i r hik hr
    · obtain rfl : i = k := by omega
      rw [List.getElem?_append_right (by rw [h1]; omega), h1]
      congr 1; omega

structure SpInv (wr : World) (B : Nat) (T TG : TypeId) (vl : Value) (k : Nat) (G : Nat → Nat) : Prop where
  own : wr.ownsRow B T 4 vl k ((List.range k).flatMap fun j => lnCellsB (G j))
  gr : ∀ j, j < k → B ≤ G j ∧ wr.heap[G j]? = some (.cells #[.int .i64 0, .int .i64 0] TG (0, 0))

theorem own_ne {w : World} {B T TG n : Nat} {size : Nat} {v : Value} {xs c : List Value} {g : Nat} (h : w.ownsRow B T size v n xs) (hg : w.heap[g]? = some (.cells c.toArray TG (0, 0))) (hT : T ≠ TG) : v.ownBlock ≠ some g := by
  rcases h.2 with ⟨rfl, _⟩ | ⟨b, cap, cur, rfl, _, hb, _⟩
  · simp [Value.ownBlock]
  · intro e
    simp only [Value.ownBlock, Option.some.injEq] at e
    subst e
    rw [hb] at hg
    simp only [Option.some.injEq, Obj.cells.injEq] at hg
    exact hT hg.2.1

theorem own_slice {w : World} {B T n : Nat} {size : Nat} {v : Value} {xs : List Value} (h : w.ownsRow B T size v n xs) : ∃ a cap, v = .slice a n cap := by
  rcases h.2 with ⟨rfl, rfl⟩ | ⟨b, cap, cur, rfl, _⟩
  · exact ⟨_, _, rfl⟩
  · exact ⟨_, _, rfl⟩
/-- A block ahead of all that is owned stands behind an append. -/
theorem BlkIs.grown {w w' : World} {b B T n : Nat} {size : Nat} {v : Value} {xs c : List Value} {t : TypeId} (h : BlkIs w b c t) (ho : w.ownsRow B T size v n xs) (hg : w.grownBy w' v.ownBlock) (hb : b < B) : BlkIs w' b c t :=
  h.keep (hg.block b h.lt fun e => by have := ho.lt b e.symm; omega)
theorem lnB_cells (w : World) (g : Nat) (t : TypeId) (j : Nat) (u : Value) (h : (lnCellsB g)[j]? = some u) : (w.alloc (.cells #[.int .i64 0, .slice none 0 0, .slice (some ⟨g, 0, none⟩) 1 1, .int .i64 (-1)] t)).cell? ((⟨w.heap.size, 0, none⟩ : Addr).add j) = some u := by
  rw [Addr.add_lit, Nat.zero_add, cell_alloc_new]
  simpa [lnCellsB] using h
theorem lnB_one (g : Nat) : ∀ u ∈ lnCellsB g, u.oneCell' = true := by
  intro u hu
  simp only [lnCellsB, List.mem_cons, List.not_mem_nil, or_false] at hu
  rcases hu with rfl | rfl | rfl | rfl <;> rfl

/-- Where the box of the book lies ahead of all lines. -/
theorem sp_step {wr w3 : World} {B T TG k : Nat} {vl v' : Value} {G : Nat → Nat} {o2 : Obj} {x : Nat} {u : Value} (h : SpInv wr B T TG vl k G) (hT : T ≠ TG) (hB : B ≤ wr.heap.size) (hx : x < B)
    (hown : w3.ownsRow B T 4 v' (k + 1) (((List.range k).flatMap fun j => lnCellsB (G j)) ++ lnCellsB wr.heap.size))
    (hg : ((wr.alloc (.cells #[.int .i64 0, .int .i64 0] TG)).alloc o2).grownBy w3 vl.ownBlock) (o : Nat) :
    SpInv (w3.setCell ⟨x, o, none⟩ u) B T TG v' (k + 1) (fun j => if j < k then G j else wr.heap.size) := by
  have e : ((List.range (k + 1)).flatMap fun j => lnCellsB (if j < k then G j else wr.heap.size)) = ((List.range k).flatMap fun j => lnCellsB (G j)) ++ lnCellsB wr.heap.size := by
    rw [List.range_succ, List.flatMap_append]
    congr 1
    · rw [List.flatMap_def, List.flatMap_def]
      congr 1
      refine List.map_congr_left fun j hj => ?_
      rw [if_pos (List.mem_range.1 hj)]
    · simp
  refine ⟨by rw [e]; exact ownsRow_setCell_below hown hx u, fun j hj => ?_⟩
  show B ≤ (if j < k then G j else wr.heap.size) ∧ _
  by_cases hjk : j < k
  · simp only [if_pos hjk]
    obtain ⟨h1, h2⟩ := h.gr j hjk
    have hl : G j < wr.heap.size := (Array.getElem?_eq_some_iff.1 h2).1
    refine ⟨h1, ?_⟩
    have hx' : G j ≠ x := by omega
    rw [Below.heap_setCell _ _ _ _ hx', hg.block _ (by simp; omega) (fun e => own_ne (c := [_, _]) h.own h2 hT e.symm), Below.heap_alloc _ _ _ (by simp; omega), Below.heap_alloc _ _ _ hl]
    exact h2
  · simp only [if_neg hjk]
    refine ⟨hB, ?_⟩
    have hx' : wr.heap.size ≠ x := by omega
    rw [Below.heap_setCell _ _ _ _ hx', hg.block _ (by simp; omega) (fun e => ?_), Below.heap_alloc _ _ _ (by simp), heap_alloc_new]
    have := h.own.lt _ e.symm
    omega

theorem sp_end {wr : World} {B T TG k : Nat} {vl : Value} {G : Nat → Nat} (h : SpInv wr B T TG vl k G) (hk : k ≤ 20) : ∃ bs, LnsAt wr vl (List.replicate k lnB) bs ∧ ∀ b ∈ bs, B ≤ b := by
  rcases h.own.2 with ⟨rfl, rfl⟩ | ⟨b, cap, cur, rfl, hB, hb, hkc, hcm, _, _⟩
  · exact ⟨[], lnsAt_nil _, fun b hb => by simp at hb⟩
  · by_cases hk0 : k = 0
    · subst hk0
      exact ⟨[], ⟨_, cap, rfl, hkc, hcm, Or.inl ⟨rfl, rfl⟩⟩, fun b hb => by simp at hb⟩
    refine ⟨b :: (List.range k).flatMap fun j => [G j], ⟨_, cap, by rw [List.length_replicate], by rw [List.length_replicate]; exact hkc, hcm, Or.inr ⟨b, 0, fun j => [G j], rfl, by rw [List.length_replicate], (Array.getElem?_eq_some_iff.1 hb).1, fun i hi => ?_⟩⟩, fun x hx => ?_⟩
    · rw [List.length_replicate] at hi
      have hc := h.own.cells (g := b) rfl
      have h4 := (flat4 (fun j => lnCellsB (G j)) (fun _ => rfl) k).2 i
      rw [List.getElem?_replicate, if_pos hi]
      have hcell : ∀ r u, r < 4 → (lnCellsB (G i))[r]? = some u → wr.cell? ⟨b, 0 + i * 4 + r, none⟩ = some u := fun r u hr hu => by
        have := hc (i * 4 + r) u (by rw [h4 r hi hr]; exact hu)
        rw [Addr.add_lit] at this
        rw [Nat.add_assoc]; exact this
      obtain ⟨_, hgb⟩ := h.gr i hi
      refine ⟨_, _, [], [G i], hcell 0 _ (by omega) rfl, hcell 1 _ (by omega) rfl, hcell 2 _ (by omega) rfl, hcell 3 _ (by omega) rfl, rfl, intsAt_nil _, ?_⟩
      refine ⟨_, 1, rfl, Nat.le_refl _, by simp [maxLen], Or.inr ⟨_, 0, rfl, rfl, (Array.getElem?_eq_some_iff.1 hgb).1, fun m hm => ?_⟩⟩
      have : m = 0 := by simp [lnB] at hm; omega
      subst this
      unfold World.cell?
      simp only [hgb]
      exact ⟨rfl, rfl⟩
    · rcases List.mem_cons.1 hx with rfl | hx
      · exact hB
      · obtain ⟨j, hj, hx⟩ := List.mem_flatMap.1 hx
        have : x = G j := by simpa using hx
        subst this
        exact (h.gr j (List.mem_range.1 hj)).1

end Go.Proofs.YtnaaheddhgpnoaaDoor
