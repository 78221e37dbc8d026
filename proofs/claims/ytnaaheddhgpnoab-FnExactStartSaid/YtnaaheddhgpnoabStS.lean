import Derived.Test.YtnaaheddhgpnoabBegS
import Derived.Test.YtnaaheddhgpnoabBookSp
import Derived.Deep.Cut
import Derived.Deep.AppendLies
import Derived.Test.YtnaaheddhgpnoabStD
namespace Go.Proofs.Ytnaaheddhgpnoab
open Go.ChangeShapes Go.WideShapes Go.ChangeAt Go.RowKit

theorem Try.infoBodyS : (Try.prog.info? 54).map (fun i => (i.zero, i.size, i.bytes)) = some (some (.agg #[.int .i64 0, .int .i64 0, .int .i64 0, .int .i64 0]), 4, 32) := by kernel_rfl

/-- Lines and bodies of spec.Start, one by one. -/
structure SsInv (W0 wr : World) (B B' L o n k : Nat) (A : Nat → Int) (D1 D2 : Nat → Nat) (ti tg tb : TypeId) (vb : Value) : Prop where
  below : Below B W0 wr
  size : B' ≤ wr.heap.size
  fL : ∀ x, wr.frozen? ⟨L, x, none⟩ = false
  z0 : ∀ j, j < n → wr.cell? ⟨L, o + j * 4, none⟩ = some (.int .i64 0) ∧ wr.cell? ⟨L, o + j * 4 + 3, none⟩ = some (.int .i64 (-1))
  ex : ∀ j, j < n → (∃ u, wr.cell? ⟨L, o + j * 4 + 1, none⟩ = some u) ∧ ∃ u, wr.cell? ⟨L, o + j * 4 + 2, none⟩ = some u
  c12 : ∀ j, j < k → wr.cell? ⟨L, o + j * 4 + 1, none⟩ = some (.slice (some ⟨D1 j, 0, none⟩) 1 1) ∧ wr.cell? ⟨L, o + j * 4 + 2, none⟩ = some (.slice (some ⟨D2 j, 0, none⟩) 1 1)
  bl : ∀ j, j < k → B' ≤ D1 j ∧ B' ≤ D2 j ∧ wr.heap[D1 j]? = some (.cells #[.int .i64 (A j)] ti (0, 0)) ∧ wr.heap[D2 j]? = some (.cells #[.int .i64 0, .int .i64 1] tg (0, 0))
  own : wr.ownsRow B' tb 4 vb k ((List.range k).flatMap fun _ => [.int .i64 0, .int .i64 1, .int .i64 0, .int .i64 0])

theorem ss_start {w w1 : World} {n L o : Nat} {al : Option Addr} {A : Nat → Int} {c c' : Array Value} {t t' ti tg tb : TypeId} (B1 : Below w.heap.size w w1)
    (hL : (n = 0 ∧ L = w1.heap.size) ∨ (al = some ⟨L, o, none⟩ ∧ L < w1.heap.size ∧ w.heap.size < L ∧ (∀ j, j < n → ∃ D, LnCells w1 L (o + j * 4) lnB D) ∧ ∀ x, w1.frozen? ⟨L, x, none⟩ = false)) :
    SsInv w ((w1.alloc (.cells c t)).alloc (.cells c' t')) w.heap.size (w1.heap.size + 2) L o n 0 A (fun _ => 0) (fun _ => 0) ti tg tb (.slice none 0 0) := by
  have cell : L < w1.heap.size → ∀ x, ((w1.alloc (.cells c t)).alloc (.cells c' t')).cell? ⟨L, x, none⟩ = w1.cell? ⟨L, x, none⟩ := fun hl x => (cell_keep (Below.heap_alloc _ _ _ (by simp; omega))).trans (cell_keep (Below.heap_alloc _ _ _ hl))
  refine ⟨(B1.alloc B1.size _).alloc (by have := B1.size; simp; omega) _, by simp, fun x => ?_, fun j hj => ?_, fun j hj => ?_, fun j hj => by omega, fun j hj => by omega, World.ownsRow_nil _ _ _ _⟩
  · rw [frozen?_alloc_cells, frozen?_alloc_cells]
    rcases hL with ⟨_, rfl⟩ | ⟨_, _, _, _, h3⟩
    · unfold World.frozen?
      rw [Array.getElem?_eq_none (Nat.le_refl _)]
    · exact h3 x
  · rcases hL with ⟨rfl, _⟩ | ⟨_, h1, _, h2, _⟩
    · omega
    · obtain ⟨D, vw, vg, b1, b2, q0, q1, q2, q3, _⟩ := h2 j hj
      exact ⟨(cell h1 _).trans q0, (cell h1 _).trans q3⟩
  · rcases hL with ⟨rfl, _⟩ | ⟨_, h1, _, h2, _⟩
    · omega
    · obtain ⟨D, vw, vg, b1, b2, q0, q1, q2, q3, _⟩ := h2 j hj
      exact ⟨⟨_, (cell h1 _).trans q1⟩, ⟨_, (cell h1 _).trans q2⟩⟩

theorem own_keep {w w' : World} {B T n size : Nat} {v : Value} {ys : List Value} (h : w.ownsRow B T size v n ys) (hk : ∀ x, B ≤ x → x < w.heap.size → w'.heap[x]? = w.heap[x]?) : w'.ownsRow B T size v n ys := by
  obtain ⟨h1, h2⟩ := h
  refine ⟨h1, ?_⟩
  rcases h2 with h2 | ⟨g, cap, cur, rfl, hB, hg, h3, h4, h5, h6⟩
  · exact Or.inl h2
  · exact Or.inr ⟨g, cap, cur, rfl, hB, (hk g hB (Array.getElem?_eq_some_iff.1 hg).1).trans hg, h3, h4, h5, h6⟩

theorem ss_set {w wr : World} {B B' L o n k : Nat} {A : Nat → Int} {D1 D2 : Nat → Nat} {ti tg tb : TypeId} {vb : Value} (h : SsInv w wr B B' L o n k A D1 D2 ti tg tb vb) (hk : k < n) (hBL : B ≤ L) (hLB : L < B') (r : Nat) (hr : r = 1 ∨ r = 2) (c : Array Value) (t : TypeId) :
    SsInv w ((wr.alloc (.cells c t)).setCell ⟨L, o + k * 4 + r, none⟩ (.slice (some ⟨wr.heap.size, 0, none⟩) 1 1)) B B' L o n k A D1 D2 ti tg tb vb ∧
    ((wr.alloc (.cells c t)).setCell ⟨L, o + k * 4 + r, none⟩ (.slice (some ⟨wr.heap.size, 0, none⟩) 1 1)).cell? ⟨L, o + k * 4 + r, none⟩ = some (.slice (some ⟨wr.heap.size, 0, none⟩) 1 1) ∧
    ((wr.alloc (.cells c t)).setCell ⟨L, o + k * 4 + r, none⟩ (.slice (some ⟨wr.heap.size, 0, none⟩) 1 1)).heap[wr.heap.size]? = some (.cells c t (0, 0)) ∧
    (∀ x, x ≠ o + k * 4 + r → ((wr.alloc (.cells c t)).setCell ⟨L, o + k * 4 + r, none⟩ (.slice (some ⟨wr.heap.size, 0, none⟩) 1 1)).cell? ⟨L, x, none⟩ = wr.cell? ⟨L, x, none⟩) ∧
    (∀ x, x ≠ L → x < wr.heap.size → ((wr.alloc (.cells c t)).setCell ⟨L, o + k * 4 + r, none⟩ (.slice (some ⟨wr.heap.size, 0, none⟩) 1 1)).heap[x]? = wr.heap[x]?) ∧
    ((wr.alloc (.cells c t)).setCell ⟨L, o + k * 4 + r, none⟩ (.slice (some ⟨wr.heap.size, 0, none⟩) 1 1)).heap.size = wr.heap.size + 1 := by
  have hs := h.size
  have hLs : L < wr.heap.size := by omega
  have ca : ∀ x, (wr.alloc (.cells c t)).cell? ⟨L, x, none⟩ = wr.cell? ⟨L, x, none⟩ := fun x => cell_keep (Below.heap_alloc _ _ _ hLs)
  have far : ∀ x, x ≠ L → x < wr.heap.size → ((wr.alloc (.cells c t)).setCell ⟨L, o + k * 4 + r, none⟩ (.slice (some ⟨wr.heap.size, 0, none⟩) 1 1)).heap[x]? = wr.heap[x]? := fun x hx hl => (Below.heap_setCell _ _ _ _ hx).trans (Below.heap_alloc _ _ _ hl)
  have near : ∀ x, x ≠ o + k * 4 + r → ((wr.alloc (.cells c t)).setCell ⟨L, o + k * 4 + r, none⟩ (.slice (some ⟨wr.heap.size, 0, none⟩) 1 1)).cell? ⟨L, x, none⟩ = wr.cell? ⟨L, x, none⟩ := fun x hx => (cell_set_ne (Ne.symm hx)).trans (ca x)
  have same : ((wr.alloc (.cells c t)).setCell ⟨L, o + k * 4 + r, none⟩ (.slice (some ⟨wr.heap.size, 0, none⟩) 1 1)).cell? ⟨L, o + k * 4 + r, none⟩ = some (.slice (some ⟨wr.heap.size, 0, none⟩) 1 1) := by
    obtain ⟨⟨u1, e1⟩, u2, e2⟩ := h.ex k hk
    rcases hr with rfl | rfl
    · exact World.cell?_setCell_same _ _ _ ((ca _).trans e1)
    · exact World.cell?_setCell_same _ _ _ ((ca _).trans e2)
  have sz : ((wr.alloc (.cells c t)).setCell ⟨L, o + k * 4 + r, none⟩ (.slice (some ⟨wr.heap.size, 0, none⟩) 1 1)).heap.size = wr.heap.size + 1 := by simp
  have new : ((wr.alloc (.cells c t)).setCell ⟨L, o + k * 4 + r, none⟩ (.slice (some ⟨wr.heap.size, 0, none⟩) 1 1)).heap[wr.heap.size]? = some (.cells c t (0, 0)) := (Below.heap_setCell _ _ _ _ (show wr.heap.size ≠ L by omega)).trans (heap_alloc_new _ _)
  refine ⟨⟨(h.below.alloc (by omega) _).setCell hBL _, by omega, fun x => ?_, fun j hj => ?_, fun j hj => ?_, fun j hj => ?_, fun j hj => ?_, ?_⟩, same, new, near, far, sz⟩
  · rw [World.frozen?_setCell, frozen?_alloc_cells]; exact h.fL x
  · obtain ⟨e0, e3⟩ := h.z0 j hj
    exact ⟨(near _ (by omega)).trans e0, (near _ (by omega)).trans e3⟩
  · obtain ⟨⟨u1, e1⟩, u2, e2⟩ := h.ex j hj
    by_cases hjk : j = k
    · subst hjk
      rcases hr with rfl | rfl
      · exact ⟨⟨_, same⟩, ⟨_, (near _ (by omega)).trans e2⟩⟩
      · exact ⟨⟨_, (near _ (by omega)).trans e1⟩, ⟨_, same⟩⟩
    · exact ⟨⟨_, (near _ (by omega)).trans e1⟩, ⟨_, (near _ (by omega)).trans e2⟩⟩
  · obtain ⟨e1, e2⟩ := h.c12 j hj
    exact ⟨(near _ (by omega)).trans e1, (near _ (by omega)).trans e2⟩
  · obtain ⟨b1, b2, h1, h2⟩ := h.bl j hj
    exact ⟨b1, b2, (far _ (by omega) (Array.getElem?_eq_some_iff.1 h1).1).trans h1, (far _ (by omega) (Array.getElem?_eq_some_iff.1 h2).1).trans h2⟩
  · exact own_keep h.own fun x hx hl => far x (by omega) hl

theorem ss_app {w wr w3 : World} {B B' L o n k X d1 d2 : Nat} {A : Nat → Int} {D1 D2 : Nat → Nat} {ti tg tb : TypeId} {vb v' : Value} {o1 : Obj} (h : SsInv w wr B B' L o n k A D1 D2 ti tg tb vb) (hBL : B ≤ L) (hLB : L < B') (hX : X < B') (hBX : B ≤ X) (hXL : X ≠ L) (t1 : tb ≠ ti) (t2 : tb ≠ tg)
    (c1 : wr.cell? ⟨L, o + k * 4 + 1, none⟩ = some (.slice (some ⟨d1, 0, none⟩) 1 1)) (c2 : wr.cell? ⟨L, o + k * 4 + 2, none⟩ = some (.slice (some ⟨d2, 0, none⟩) 1 1)) (b1 : B' ≤ d1) (b2 : B' ≤ d2) (g1 : wr.heap[d1]? = some (.cells #[.int .i64 (A k)] ti (0, 0))) (g2 : wr.heap[d2]? = some (.cells #[.int .i64 0, .int .i64 1] tg (0, 0)))
    (hown : w3.ownsRow B' tb 4 v' (k + 1) (((List.range k).flatMap fun _ => [.int .i64 0, .int .i64 1, .int .i64 0, .int .i64 0]) ++ [.int .i64 0, .int .i64 1, .int .i64 0, .int .i64 0])) (hg : (wr.alloc o1).grownBy w3 vb.ownBlock) :
    SsInv w (w3.setCell ⟨X, 4, none⟩ v') B B' L o n (k + 1) A (fun j => if j = k then d1 else D1 j) (fun j => if j = k then d2 else D2 j) ti tg tb v' := by
  have hs := h.size
  have hz := hg.size
  have hz1 : (wr.alloc o1).heap.size = wr.heap.size + 1 := by simp
  rw [hz1] at hz
  have low : ∀ x, x < B' → w3.heap[x]? = wr.heap[x]? := fun x hx => (hg.block x (by omega) (fun e => by have := h.own.lt x e.symm; omega)).trans (Below.heap_alloc _ _ _ (by omega))
  have low2 : ∀ x, x < B' → x ≠ X → (w3.setCell ⟨X, 4, none⟩ v').heap[x]? = wr.heap[x]? := fun x hx hne => (Below.heap_setCell _ _ _ _ hne).trans (low x hx)
  have typ : ∀ x c t, wr.heap[x]? = some (.cells c t (0, 0)) → tb ≠ t → B' ≤ x → (w3.setCell ⟨X, 4, none⟩ v').heap[x]? = wr.heap[x]? := fun x c t hx ht hB => by
    have hl := (Array.getElem?_eq_some_iff.1 hx).1
    refine (Below.heap_setCell _ _ _ _ (show x ≠ X by omega)).trans ((hg.block x (by omega) (fun e => ?_)).trans (Below.heap_alloc _ _ _ hl))
    exact own_ne (c := c.toList) h.own hx ht e.symm
  have cellL : ∀ x, (w3.setCell ⟨X, 4, none⟩ v').cell? ⟨L, x, none⟩ = wr.cell? ⟨L, x, none⟩ := fun x => cell_keep (low2 L hLB (Ne.symm hXL))
  refine ⟨((h.below.alloc (by omega) _).grown hg (by omega) (fun x hx => by have := h.own.lt x hx; omega)).setCell hBX _, by simp; omega, fun x => (frozen_keep (low2 L hLB (Ne.symm hXL))).trans (h.fL x), fun j hj => ?_, fun j hj => ?_, fun j hj => ?_, fun j hj => ?_, ?_⟩
  · rw [cellL, cellL]; exact h.z0 j hj
  · rw [cellL, cellL]; exact h.ex j hj
  · rw [cellL, cellL]
    by_cases e : j = k
    · subst e
      simp only [if_true]
      exact ⟨c1, c2⟩
    · simp only [if_neg e]
      exact h.c12 j (by omega)
  · by_cases e : j = k
    · subst e
      simp only [if_true]
      exact ⟨b1, b2, (typ _ _ _ g1 t1 b1).trans g1, (typ _ _ _ g2 t2 b2).trans g2⟩
    · simp only [if_neg e]
      obtain ⟨p1, p2, p3, p4⟩ := h.bl j (by omega)
      exact ⟨p1, p2, (typ _ _ _ p3 t1 p1).trans p3, (typ _ _ _ p4 t2 p2).trans p4⟩
  · rw [List.range_succ, List.flatMap_append, List.flatMap_singleton]
    exact own_keep hown fun x hx hl => Below.heap_setCell _ _ _ _ (show x ≠ X by omega)

theorem ss_in {s : Int} {xs : List Int} (h : Right (stBk s xs)) (j : Nat) (hj : j < xs.length) : 0 ≤ xs[j]?.getD 0 ∧ xs[j]?.getD 0 ≤ s - 1 := by
  have h1 := h.2 j (by simpa [stBk] using hj)
  have e : (stBk s xs).lns[j]?.getD ln0 = lnS (xs[j]?.getD 0) := by
    show (xs.map lnS)[j]?.getD ln0 = _
    rw [List.getElem?_map, List.getElem?_eq_getElem hj]
    rfl
  rw [e] at h1
  have h2 := h1.2 0 (by simp [lnS])
  simpa [lnS, stBk] using h2

theorem ss_end {w wr : World} {B B' L o n cl : Nat} {al : Option Addr} {A : Nat → Int} {D1 D2 : Nat → Nat} {ti tg tb : TypeId} {vb : Value} {ys : List Ln} (h : SsInv w wr B B' L o n n A D1 D2 ti tg tb vb) (hn : n ≤ 20) (hal : n = 0 ∨ (al = some ⟨L, o, none⟩ ∧ L < B')) (hcl : n ≤ cl) (hcm : cl ≤ maxLen)
    (hy : ys.length = n) (hys : ∀ j, j < n → ys[j]?.getD ln0 = lnS (A j)) :
    (∃ bs, LnsAt wr (.slice al n cl) ys bs ∧ ∀ b ∈ bs, (b = L ∧ 0 < n) ∨ B' ≤ b) ∧ (∃ bs, BdsAt wr vb (List.replicate n bdS) bs ∧ ∀ b ∈ bs, B' ≤ b) := by
  have hs := h.size
  constructor
  · by_cases e : n = 0
    · exact ⟨[], ⟨al, cl, by rw [hy], by rw [hy]; exact hcl, hcm, Or.inl ⟨by rw [hy]; exact e, rfl⟩⟩, fun b hb => by simp at hb⟩
    · rcases hal with h0 | ⟨ha, hLB⟩
      · exact absurd h0 e
      · refine ⟨L :: (List.range n).flatMap fun j => [D1 j] ++ [D2 j], ⟨al, cl, by rw [hy], by rw [hy]; exact hcl, hcm, Or.inr ⟨L, o, _, ha, by rw [hy], by omega, fun i hi => ?_⟩⟩, fun b hb => ?_⟩
        · rw [hy] at hi
          rw [hys i hi]
          obtain ⟨e0, e3⟩ := h.z0 i hi
          obtain ⟨e1, e2⟩ := h.c12 i hi
          obtain ⟨_, _, g1, g2⟩ := h.bl i hi
          refine ⟨_, _, [D1 i], [D2 i], e0, e1, e2, e3, rfl, ⟨_, 1, rfl, Nat.le_refl _, by simp [maxLen], Or.inr ⟨_, 0, rfl, rfl, (Array.getElem?_eq_some_iff.1 g1).1, fun m hm => ?_⟩⟩, ⟨_, 1, rfl, Nat.le_refl _, by simp [maxLen], Or.inr ⟨_, 0, rfl, rfl, (Array.getElem?_eq_some_iff.1 g2).1, fun m hm => ?_⟩⟩⟩
          · have : m = 0 := by simp [lnS] at hm; omega
            subst this
            unfold World.cell?
            simp only [g1]
            rfl
          · have : m = 0 := by simp [lnS] at hm; omega
            subst this
            unfold World.cell?
            simp only [g2]
            exact ⟨rfl, rfl⟩
        · rcases List.mem_cons.1 hb with rfl | hb
          · exact Or.inl ⟨rfl, by omega⟩
          · obtain ⟨j, hj, hx⟩ := List.mem_flatMap.1 hb
            obtain ⟨b1, b2, _, _⟩ := h.bl j (List.mem_range.1 hj)
            have hx2 : b = D1 j ∨ b = D2 j := by simpa using hx
            exact Or.inr (by omega)
  · rcases h.own.2 with ⟨rfl, e⟩ | ⟨g, cap, cur, rfl, hB, hg, h1, h2, _, _⟩
    · subst e
      exact ⟨[], bdsAt_nil _, fun b hb => by simp at hb⟩
    · by_cases e : n = 0
      · exact ⟨[], ⟨_, cap, by rw [List.length_replicate], by rw [List.length_replicate]; exact h1, h2, Or.inl ⟨by rw [List.length_replicate]; exact e, rfl⟩⟩, fun b hb => by simp at hb⟩
      · refine ⟨[g], ⟨_, cap, by rw [List.length_replicate], by rw [List.length_replicate]; exact h1, h2, Or.inr ⟨g, 0, rfl, rfl, (Array.getElem?_eq_some_iff.1 hg).1, fun i hi => ?_⟩⟩, fun b hb => by simp at hb; omega⟩
        rw [List.length_replicate] at hi
        rw [List.getElem?_replicate, if_pos hi]
        have hc := h.own.cells (g := g) rfl
        have h4 := (flat4 (fun _ => [.int .i64 0, .int .i64 1, .int .i64 0, .int .i64 0]) (fun _ => rfl) n).2 i
        have hcell : ∀ r u, r < 4 → ([.int .i64 0, .int .i64 1, .int .i64 0, .int .i64 0] : List Value)[r]? = some u → wr.cell? ⟨g, 0 + i * 4 + r, none⟩ = some u := fun r u hr hu => by
          have := hc (i * 4 + r) u (by rw [h4 r hi hr]; exact hu)
          rw [Addr.add_lit] at this
          rw [Nat.add_assoc]; exact this
        exact ⟨hcell 0 _ (by omega) rfl, hcell 1 _ (by omega) rfl, hcell 2 _ (by omega) rfl, hcell 3 _ (by omega) rfl⟩

set_option maxHeartbeats 1000000 in
set_option maxRecDepth 100000 in
theorem specStart_any (s : Int) (xs : List Int) (v : Value) (bs : List Nat) (w : World) (k : Wd) (h : IntsAt w v xs bs) (hk : StartIs s xs k) :
    Calls Try.prog 5 #[.int .i64 s, v] w fun e w' => ∃ v' bs', e = .returned v' ∧ WdAt w' v' k bs' ∧ Below w.heap.size w w' := by
  obtain ⟨a, cap, rfl, hc1, hc2, ha⟩ := h
  unfold maxLen at hc2
  have Ha : Hid ((xs.length = 0 ∧ bs = []) ∨ ∃ b o, a = some ⟨b, o, none⟩ ∧ bs = [b] ∧ b < w.heap.size ∧ ∀ i, i < xs.length → w.cell? ⟨b, o + i, none⟩ = some (.int .i64 (xs[i]?.getD 0))) := ha
  have Hk : Hid (StartIs s xs k) := hk
  clear ha hk
  obtain ⟨ib, hib, hz0, hz1, hz2⟩ := info_parts Try.infoBodyS
  generalize hn : xs.length = n at *
  have Hn : Hid (xs.length = n) := hn
  clear hn
  have aW : Below w.heap.size w (w.alloc (.cells #[.bool false, .bool false, .int .i64 0, .slice none 0 0, .slice none 0 0] 28)) := (Below.refl _ _).alloc (Nat.le_refl _) _
  have X0 : BlkIs (w.alloc (.cells #[.bool false, .bool false, .int .i64 0, .slice none 0 0, .slice none 0 0] 28)) w.heap.size [.bool false, .bool false, .int .i64 0, .slice none 0 0, .slice none 0 0] 28 := BlkIs.new _ _ _
  have hz : (w.alloc (.cells #[.bool false, .bool false, .int .i64 0, .slice none 0 0, .slice none 0 0] 28)).heap.size = w.heap.size + 1 := by simp
  by_cases hB : (1 ≤ s ∧ s ≤ 200) ∧ (0 ≤ (n : Int) ∧ (n : Int) ≤ 20)
  · have hd : begD s n = ⟨true, s, List.replicate n lnB⟩ := by
      unfold begD
      rw [if_pos hB, Int.toNat_natCast]
    have hbeg := fun W : World => specBegin_new s n W hB.1.1 hB.1.2 hB.2.1 hB.2.2
    rw [hd] at hbeg
    have Hbeg : Hid (∀ W : World, Calls Try.prog 18 #[.int .i64 s, .int .i64 n] W fun e w' => ∃ v bs, e = .returned v ∧ BkAt w' v ⟨true, s, List.replicate n lnB⟩ bs ∧ (∀ b ∈ bs, W.heap.size < b) ∧ Free w' bs ∧ Below W.heap.size W w') := hbeg
    obtain ⟨⟨hs1, hs2⟩, _, hn20⟩ := hB
    clear hbeg hd
    go_enter Try.func5, Try.ntmps5
    go_wp2_with fail
    generalize (w.alloc (.cells #[.bool false, .bool false, .int .i64 0, .slice none 0 0, .slice none 0 0] 28)) = V at *
    refine (Hbeg.out _).mono ?_
    rintro e w1 ⟨v1, bs1, rfl, ⟨vl, rfl, hl⟩, hge1, fr1, hb1⟩
    have B1 : Below w.heap.size w w1 := aW.trans (hb1.mono (by omega))
    have X1 := X0.below hb1 X0.lt
    clear X0 aW hb1 Hbeg
    obtain ⟨al, cl, rfl, hl1, hl2, hl3⟩ := hl
    have E0 : ∃ L o, (n = 0 ∧ L = w1.heap.size) ∨ (al = some ⟨L, o, none⟩ ∧ L < w1.heap.size ∧ w.heap.size < L ∧ (∀ j, j < n → ∃ D, LnCells w1 L (o + j * 4) lnB D) ∧ ∀ x, w1.frozen? ⟨L, x, none⟩ = false) := by
      rw [List.length_replicate] at hl3
      rcases hl3 with ⟨h0, _⟩ | ⟨L, o, D, hal, hbs, hlt, hcs⟩
      · exact ⟨_, 0, Or.inl ⟨h0, rfl⟩⟩
      · refine ⟨L, o, Or.inr ⟨hal, hlt, ?_, fun j hj => ⟨D j, ?_⟩, fun x => fr1 L (by rw [hbs]; simp) x⟩⟩
        · have := hge1 L (by rw [hbs]; simp); omega
        · have := hcs j hj
          rw [List.getElem?_replicate, if_pos hj] at this
          exact this
    rw [List.length_replicate] at hl1 hl3 ⊢
    obtain ⟨L, o, hL⟩ := E0
    have HL : Hid _ := hL
    clear hl3 fr1 hge1 hL
    have Y2 : BlkIs (w1.alloc (.cells #[.bool true, .int .i64 s, .slice al n cl] 25)) w1.heap.size [.bool true, .int .i64 s, .slice al n cl] 25 := BlkIs.new _ _ _
    have Z2 : BlkIs ((w1.alloc (.cells #[.bool true, .int .i64 s, .slice al n cl] 25)).alloc (.cells #[.bool true, .bool true, .int .i64 s, .slice al n cl, .slice none 0 0] 28)) (w1.heap.size + 1) [.bool true, .bool true, .int .i64 s, .slice al n cl, .slice none 0 0] 28 := by
      have := BlkIs.new (w1.alloc (.cells #[.bool true, .int .i64 s, .slice al n cl] 25)) [.bool true, .bool true, .int .i64 s, .slice al n cl, .slice none 0 0] 28
      simpa using this
    have S2 := ss_start (tb := 54) (ti := 3) (tg := 52) (A := fun j => xs[j]?.getD 0) (c := #[.bool true, .int .i64 s, .slice al n cl]) (c' := #[.bool true, .bool true, .int .i64 s, .slice al n cl, .slice none 0 0]) (t := 25) (t' := 28) B1 HL.out
    go_wp2_with fail
    go_loopw [21] (fun i wr => ∃ (j : Nat) (D1 D2 : Nat → Nat) (vb : Value), j ≤ n ∧ i = .int .i64 j ∧ SsInv w wr w.heap.size (w1.heap.size + 2) L o n j (fun j => xs[j]?.getD 0) D1 D2 3 52 54 vb ∧ BlkIs wr w.heap.size [.bool false, .bool false, .int .i64 0, .slice none 0 0, .slice none 0 0] 28 ∧ BlkIs wr w1.heap.size [.bool true, .int .i64 s, .slice al n cl] 25 ∧ BlkIs wr (w1.heap.size + 1) [.bool true, .bool true, .int .i64 s, .slice al n cl, vb] 28) (fun i _ => n - (intOf i).toNat)
    case atStart => exact ⟨0, fun _ => 0, fun _ => 0, _, Nat.zero_le _, rfl, S2, (X1.alloc _).alloc _, Y2.alloc _, Z2⟩
    case round =>
      clear S2 X1 Y2 Z2
      obtain ⟨j, D1, D2, vb, hj, rfl, hI, X, Y, Z⟩ := hrel
      by_cases hlt : j < n
      · obtain ⟨rfl, hLs, hLw⟩ : al = some ⟨L, o, none⟩ ∧ L < w1.heap.size ∧ w.heap.size < L := by
          rcases HL.out with ⟨h0, _⟩ | ⟨h1, h2, h3, _, _⟩
          · omega
          · exact ⟨h1, h2, h3⟩
        obtain ⟨b, oa, rfl, hbw, hca⟩ : ∃ b oa, a = some ⟨b, oa, none⟩ ∧ b < w.heap.size ∧ wr.cell? ⟨b, oa + j, none⟩ = some (.int .i64 (xs[j]?.getD 0)) := by
          rcases Ha.out with ⟨h0, _⟩ | ⟨b, oa, h1, _, h2, h3⟩
          · omega
          · exact ⟨b, oa, h1, h2, by rw [(bcell hI.below).1 _ _ h2]; exact h3 j (by omega)⟩
        by_cases hin : 0 ≤ xs[j]?.getD 0 ∧ xs[j]?.getD 0 ≤ s - 1
        · obtain ⟨hi1, hi2⟩ := hin
          obtain ⟨⟨u1, c1⟩, u2, c2⟩ := hI.ex j hlt
          have y2 : wr.cell? ⟨w1.heap.size, 2, none⟩ = some (.slice (some ⟨L, o, none⟩) n cl) := Y.cell 2
          have f0 : ∀ x, wr.frozen? ⟨L, x, none⟩ = false := hI.fL
          have hsz := hI.size
          have k2 : ∀ q x, (wr.alloc q).cell? ⟨L, x, none⟩ = wr.cell? ⟨L, x, none⟩ := fun q x => cell_keep (Below.heap_alloc _ _ _ (by omega))
          have g2 : ∀ c t x, (wr.alloc (.cells c t)).frozen? ⟨L, x, none⟩ = false := fun c t x => (frozen?_alloc_cells _ _ _ _).trans (f0 x)
          obtain ⟨hU, q1, q2, q3, q4, q5⟩ := ss_set hI hlt (by omega) (by omega) 1 (Or.inl rfl) #[.int .i64 (xs[j]?.getD 0)] 3
          have X1 := X.keep (q4 _ (by omega) X.lt)
          have Y1 := Y.keep (q4 _ (by omega) Y.lt)
          have Z1 := Z.keep (q4 _ (by omega) Z.lt)
          have c2' := (q3 (o + j * 4 + 2) (by omega)).trans c2
          have HU : Hid _ := hU
          have HQ : Hid _ := And.intro q1 (And.intro q2 (And.intro q5 (And.intro c2' (And.intro X1 (And.intro Y1 Z1)))))
          clear hU q1 q2 q3 q4 q5 X1 Y1 Z1 c2' hI X Y Z
          go_wp2_with fail
          refine (l1in_yes _ 0 (s - 1) _ hi1 hi2).mono ?_
          rintro e wr ⟨rfl, rfl⟩
          go_upto_region 11 with fail
          clear k2 g2 f0 y2 c1 c2 hca
          generalize hzr : wr.heap.size = zr at *
          generalize ((wr.alloc (.cells #[.int .i64 (xs[j]?.getD 0)] 3)).setCell ⟨L, o + j * 4 + 1, none⟩ (.slice (some ⟨zr, 0, none⟩) 1 1)) = U1 at *
          obtain ⟨q1, q2, q5, c2, X, Y, Z⟩ := HQ.out
          have hI := HU.out
          have y2 : U1.cell? ⟨w1.heap.size, 2, none⟩ = some (.slice (some ⟨L, o, none⟩) n cl) := Y.cell 2
          have f0 : ∀ x, U1.frozen? ⟨L, x, none⟩ = false := hI.fL
          have k2 : ∀ q x, (U1.alloc q).cell? ⟨L, x, none⟩ = U1.cell? ⟨L, x, none⟩ := fun q x => cell_keep (Below.heap_alloc _ _ _ (by omega))
          have g2 : ∀ c t x, (U1.alloc (.cells c t)).frozen? ⟨L, x, none⟩ = false := fun c t x => (frozen?_alloc_cells _ _ _ _).trans (f0 x)
          obtain ⟨hV, r1, r2, r3, r4, r5⟩ := ss_set hI hlt (by omega) (by omega) 2 (Or.inr rfl) #[.int .i64 0, .int .i64 1] 52
          have X1 := X.keep (r4 _ (by omega) X.lt)
          have Y1 := Y.keep (r4 _ (by omega) Y.lt)
          have Z1 := Z.keep (r4 _ (by omega) Z.lt)
          have q1' := (r3 (o + j * 4 + 1) (by omega)).trans q1
          have q2' := (r4 zr (by omega) (by omega)).trans q2
          have HV : Hid _ := hV
          have HR : Hid _ := And.intro q1' (And.intro q2' (And.intro r1 (And.intro r2 (And.intro r5 (And.intro X1 (And.intro Y1 Z1))))))
          have HZ : Hid (U1.heap.size = zr + 1 ∧ w1.heap.size + 2 ≤ zr) := ⟨q5, hsz⟩
          clear hV r1 r2 r3 r4 r5 X1 Y1 Z1 q1 q2 q1' q2' HU HQ hI X Y Z q5
          go_upto_region 12 with fail
          clear k2 g2 f0 y2 c2
          generalize hzu : U1.heap.size = zu at *
          generalize ((U1.alloc (.cells #[.int .i64 0, .int .i64 1] 52)).setCell ⟨L, o + j * 4 + 2, none⟩ (.slice (some ⟨zu, 0, none⟩) 1 1)) = U2 at *
          obtain ⟨q1, q2, r1, r2, r5, X, Y, Z⟩ := HR.out
          have hI := HV.out
          have z4 : U2.cell? ⟨w1.heap.size + 1, 4, none⟩ = some vb := Z.cell 4
          obtain ⟨ab, cb, rfl⟩ := own_slice hI.own
          have hsz2 := hI.size
          have HI2 : Hid _ := hI
          have HZ2 : Hid (U2.heap.size = zu + 1) := r5
          clear r5
          go_wp2_with (first
            | (at_builtin; refine wpList_append_own _ rfl _ _ 26 rfl (w1.heap.size + 2) 54 ib _ 4 32 Try.underlying26 hib hz0 hz1 hz2 rfl (by decide) _ j _ rfl (hI.own.alloc _) ⟨U2.heap.size, 0, none⟩ 1 1 [.int .i64 0, .int .i64 1, .int .i64 0, .int .i64 0] rfl rfl (World.news_of_block (cs := #[.int .i64 0, .int .i64 1, .int .i64 0, .int .i64 0]) (t := 54) (fr := (0, 0)) (heap_alloc_new U2 _)) (by simp [Value.oneCell']) (by unfold maxLen; omega) (by omega) (by simp; omega) ?_
               intro v3 w3 hown3 hgrow3 hnil3
               obtain ⟨a3, c3, hv3⟩ := own_slice hown3
               subst hv3
               have Z3 := (Z.alloc _).grown (hI.own.alloc _) hgrow3 (by omega)
               have z34 : w3.cell? ⟨w1.heap.size + 1, 4, none⟩ = some (.slice ab j cb) := Z3.cell 4
               have fz : w3.frozen? ⟨w1.heap.size + 1, 4, none⟩ = false := Z3.frozen 4))
          have r5 := HZ2.out
          have hz0 := HZ.out
          have hst := ss_app HI2.out (by omega) (by omega) (show w1.heap.size + 1 < w1.heap.size + 2 by omega) (by have := B1.size; omega) (by omega) (by decide) (by decide) q1 r1 (by omega) (by omega) q2 r2 hown3 hgrow3
          have X3 := ((X.alloc _).grown (HI2.out.own.alloc _) hgrow3 (by have := B1.size; omega)).other (show w.heap.size ≠ w1.heap.size + 1 by have := B1.size; omega) 4 (.slice a3 (j + 1) c3)
          have Y3 := ((Y.alloc _).grown (HI2.out.own.alloc _) hgrow3 (by omega)).other (show w1.heap.size ≠ w1.heap.size + 1 by omega) 4 (.slice a3 (j + 1) c3)
          have Z4 := Z3.set 4 (.slice a3 (j + 1) c3)
          go_roundw
          case rel => exact ⟨j + 1, _, _, _, by omega, by go_num, hst, X3, Y3, Z4⟩
          case measure => simp [intOf]; omega
        · have hkk : k = wd0 := by
            rcases Hk.out with ⟨h1, _⟩ | ⟨_, h2⟩
            · exact absurd (ss_in h1 j (by rw [Hn.out]; exact hlt)) hin
            · exact h2
          subst hkk
          obtain ⟨x0, x1, x2, x3, x4⟩ := X.five
          have f0 : ∀ x, wr.frozen? ⟨w.heap.size, x, none⟩ = false := fun x => X.frozen x
          have Bw := hI.below
          clear hI X Y Z
          go_wp2_with fail
          refine (l1in_no _ 0 (s - 1) _ hin).mono ?_
          rintro e wr ⟨rfl, rfl⟩
          go_wp2
          obtain ⟨s1, s2, s3⟩ := set5 wr w.heap.size (.bool false) (.bool false) (.int .i64 0) (.slice none 0 0) (.slice none 0 0)
          exact bodyPost_ret (v := .agg #[.bool false, .bool false, .int .i64 0, .slice none 0 0, .slice none 0 0]) (by simp [results, Try.results5, go_sem, x0, x1, x2, x3, x4]) rfl ⟨_, [], rfl, ⟨_, _, [], [], rfl, rfl, lnsAt_nil _, bdsAt_nil _⟩, s3 _ _ Bw (Nat.le_refl _)⟩
      · obtain rfl : j = n := by omega
        obtain ⟨hLn, hBd⟩ := ss_end (al := al) (cl := cl) (ys := xs.map lnS) hI (by omega) (by
          rcases HL.out with ⟨h0, _⟩ | ⟨h1, h2, _⟩
          · exact Or.inl h0
          · exact Or.inr ⟨h1, by omega⟩) hl1 hl2 (by rw [List.length_map]; exact Hn.out) (fun i hi => by
            rw [List.getElem?_map, List.getElem?_eq_getElem (show i < xs.length by rw [Hn.out]; exact hi)]
            rfl)
        obtain ⟨ab, cb, rfl⟩ := own_slice hI.own
        have Bw := hI.below
        obtain ⟨y0, y1, y2⟩ := Y.three
        obtain ⟨p0, p1, p2, p3, p4⟩ := Z.five
        have fz : ∀ x, wr.frozen? ⟨w1.heap.size + 1, x, none⟩ = false := fun x => Z.frozen x
        clear hI
        obtain ⟨bs1', hLn, hm1⟩ := hLn
        obtain ⟨bs2', hBd, hm2⟩ := hBd
        have hz1 := B1.size
        have hLm : ∀ b ∈ bs1', w.heap.size < b ∧ b ≠ w1.heap.size + 1 := fun b hb => by
          rcases hm1 b hb with ⟨rfl, h0⟩ | h
          · rcases HL.out with ⟨h1, _⟩ | ⟨_, h2, h3, _, _⟩
            · omega
            · exact ⟨h3, by omega⟩
          · exact ⟨by omega, by omega⟩
        have HLn : Hid (LnsAt wr (.slice al j cl) (xs.map lnS) bs1' ∧ ∀ b ∈ bs1', w.heap.size < b ∧ b ≠ w1.heap.size + 1) := ⟨hLn, hLm⟩
        have HBd : Hid (BdsAt wr (.slice ab j cb) (List.replicate j bdS) bs2' ∧ ∀ b ∈ bs2', w1.heap.size + 2 ≤ b) := ⟨hBd, hm2⟩
        have HMM : Hid ((∀ b ∈ bs1', b ≠ w.heap.size) ∧ ∀ b ∈ bs2', b ≠ w.heap.size) := ⟨fun b hb => by have := (hLm b hb).1; omega, fun b hb => by have := hm2 b hb; omega⟩
        clear hLn hBd hLm hm1 hm2 Ha HL
        obtain ⟨x0, x1, x2, x3, x4⟩ := X.five
        have X5 : BlkIs (((wr.setCell ⟨w1.heap.size + 1, 1, none⟩ (.bool true)).setCell ⟨w1.heap.size + 1, 2, none⟩ (.int .i64 s)).setCell ⟨w1.heap.size + 1, 3, none⟩ (.slice al j cl)) w.heap.size [.bool false, .bool false, .int .i64 0, .slice none 0 0, .slice none 0 0] 28 := ((X.other (by omega) _ _).other (by omega) _ _).other (by omega) _ _
        have Z5 : BlkIs (((wr.setCell ⟨w1.heap.size + 1, 1, none⟩ (.bool true)).setCell ⟨w1.heap.size + 1, 2, none⟩ (.int .i64 s)).setCell ⟨w1.heap.size + 1, 3, none⟩ (.slice al j cl)) (w1.heap.size + 1) [.bool true, .bool true, .int .i64 s, .slice al j cl, .slice ab j cb] 28 := ((Z.set 1 (.bool true)).set 2 (.int .i64 s)).set 3 (.slice al j cl)
        have L5 : Hid (LnsAt (((wr.setCell ⟨w1.heap.size + 1, 1, none⟩ (.bool true)).setCell ⟨w1.heap.size + 1, 2, none⟩ (.int .i64 s)).setCell ⟨w1.heap.size + 1, 3, none⟩ (.slice al j cl)) (.slice al j cl) (xs.map lnS) bs1') := HLn.out.1.keep fun x hx => by
          have ne := (HLn.out.2 x hx).2
          rw [Below.heap_setCell _ _ _ _ ne, Below.heap_setCell _ _ _ _ ne, Below.heap_setCell _ _ _ _ ne]
        have D5 : Hid (BdsAt (((wr.setCell ⟨w1.heap.size + 1, 1, none⟩ (.bool true)).setCell ⟨w1.heap.size + 1, 2, none⟩ (.int .i64 s)).setCell ⟨w1.heap.size + 1, 3, none⟩ (.slice al j cl)) (.slice ab j cb) (List.replicate j bdS) bs2') := HBd.out.1.keep fun x hx => by
          have ne : x ≠ w1.heap.size + 1 := by have := HBd.out.2 x hx; omega
          rw [Below.heap_setCell _ _ _ _ ne, Below.heap_setCell _ _ _ _ ne, Below.heap_setCell _ _ _ _ ne]
        have B5 : Below w.heap.size w (((wr.setCell ⟨w1.heap.size + 1, 1, none⟩ (.bool true)).setCell ⟨w1.heap.size + 1, 2, none⟩ (.int .i64 s)).setCell ⟨w1.heap.size + 1, 3, none⟩ (.slice al j cl)) := ((Bw.setCell (show w.heap.size ≤ w1.heap.size + 1 by omega) _).setCell (show w.heap.size ≤ w1.heap.size + 1 by omega) _).setCell (show w.heap.size ≤ w1.heap.size + 1 by omega) _
        have Y5 : (BlkIs (((wr.setCell ⟨w1.heap.size + 1, 1, none⟩ (.bool true)).setCell ⟨w1.heap.size + 1, 2, none⟩ (.int .i64 s)).setCell ⟨w1.heap.size + 1, 3, none⟩ (.slice al j cl)) w1.heap.size [.bool true, .int .i64 s, .slice al j cl] 25) := ((Y.other (by omega) _ _).other (by omega) _ _).other (by omega) _ _
        go_upto_region 15 with fail
        clear x0 x1 x2 x3 x4 y0 y1 y2 p0 p1 p2 p3 p4 fz X Y Z HLn HBd Bw
        generalize (((wr.setCell ⟨w1.heap.size + 1, 1, none⟩ (.bool true)).setCell ⟨w1.heap.size + 1, 2, none⟩ (.int .i64 s)).setCell ⟨w1.heap.size + 1, 3, none⟩ (.slice al j cl)) = W5 at *
        obtain ⟨y0, y1, y2⟩ := Y5.three
        go_wp2_with fail
        refine (specBookOk_any (stBk s xs) _ bs1' _ ⟨_, rfl, L5.out⟩).mono ?_
        rintro e w2 ⟨⟨c, rfl, hc⟩, hb2⟩
        have X2 := X5.below hb2 X5.lt
        have Z2 := Z5.below hb2 Z5.lt
        have L2 := L5.out.below hb2 L5.out.lt
        have D2' := D5.out.below hb2 D5.out.lt
        have Bw2 := B5.trans (hb2.mono B5.size)
        obtain ⟨x0, x1, x2, x3, x4⟩ := X2.five
        obtain ⟨z0, z1, z2, z3, z4⟩ := Z2.five
        have f0 : ∀ x, w2.frozen? ⟨w.heap.size, x, none⟩ = false := fun x => X2.frozen x
        have HL2 : Hid _ := L2
        have HD2 : Hid _ := D2'
        have HM : Hid ((∀ b ∈ bs1', b ≠ w.heap.size) ∧ ∀ b ∈ bs2', b ≠ w.heap.size) := HMM.out
        clear L2 D2' L5 D5 X5 Z5 Y5 X2 Z2 hb2 B5 y0 y1 y2
        by_cases hc0 : c = 0
        · subst hc0
          have hR := hc.zero.1 rfl
          have hkk : k = ⟨true, stBk s xs, List.replicate xs.length bdS⟩ := by
            rcases Hk.out with ⟨_, h2⟩ | ⟨h1, _⟩
            · exact h2
            · exact absurd hR h1
          subst hkk
          clear hc hR
          go_wp2
          obtain ⟨s1, s2, s3⟩ := set5 w2 w.heap.size (.bool true) (.bool true) (.int .i64 s) (.slice al j cl) (.slice ab j cb)
          refine bodyPost_ret (v := .agg #[.bool true, .bool true, .int .i64 s, .slice al j cl, .slice ab j cb]) (by simp [results, Try.results5, go_sem, x0, x1, x2, x3, x4]) rfl ⟨_, bs1' ++ bs2', rfl, ⟨_, _, bs1', bs2', rfl, rfl, ?_, ?_⟩, s3 _ _ Bw2 (Nat.le_refl _)⟩
          · exact LnsAt.keep HL2.out fun x hx => s1 x (HM.out.1 x hx)
          · have h : BdsAt w2 (.slice ab j cb) (List.replicate j bdS) bs2' := HD2.out
            rw [show List.replicate j bdS = List.replicate xs.length bdS by rw [Hn.out]] at h
            exact h.keep fun x hx => s1 x (HM.out.2 x hx)
        · have hkk : k = wd0 := by
            rcases Hk.out with ⟨h1, _⟩ | ⟨_, h2⟩
            · exact absurd (hc.zero.2 h1) hc0
            · exact h2
          subst hkk
          clear hc
          go_wp2
          obtain ⟨s1, s2, s3⟩ := set5 w2 w.heap.size (.bool false) (.bool false) (.int .i64 0) (.slice none 0 0) (.slice none 0 0)
          exact bodyPost_ret (v := .agg #[.bool false, .bool false, .int .i64 0, .slice none 0 0, .slice none 0 0]) (by simp [results, Try.results5, go_sem, x0, x1, x2, x3, x4]) rfl ⟨_, [], rfl, ⟨_, _, [], [], rfl, rfl, lnsAt_nil _, bdsAt_nil _⟩, s3 _ _ Bw2 (Nat.le_refl _)⟩
  · have hkk : k = wd0 := by
      rcases Hk.out with ⟨h1, _⟩ | ⟨_, h2⟩
      · have := start_frame h1
        rw [Hn.out] at this
        exact absurd this hB
      · exact h2
    subst hkk
    have hbeg := fun W : World => specBegin_no s n W hB
    have hd : begD s n = bk0 := by
      unfold begD
      rw [if_neg hB]
    rw [hd] at hbeg
    have Hbeg : Hid (∀ W : World, Calls Try.prog 18 #[.int .i64 s, .int .i64 n] W fun e w' => ∃ v bs, e = .returned v ∧ BkAt w' v bk0 bs ∧ Below W.heap.size W w') := hbeg
    clear hbeg hd hB
    go_enter Try.func5, Try.ntmps5
    go_wp2_with fail
    generalize (w.alloc (.cells #[.bool false, .bool false, .int .i64 0, .slice none 0 0, .slice none 0 0] 28)) = V at *
    refine (Hbeg.out _).mono ?_
    rintro e w1 ⟨v1, bs1, rfl, ⟨vl, rfl, hl⟩, hb1⟩
    have B1 : Below w.heap.size w w1 := aW.trans (hb1.mono (by omega))
    have X1 := X0.below hb1 X0.lt
    obtain ⟨al, nl, cl, rfl⟩ := hl.slice
    have X2 := X1.alloc (.cells #[.bool false, .int .i64 0, .slice al nl cl] 25)
    have B2 := B1.alloc B1.size (.cells #[.bool false, .int .i64 0, .slice al nl cl] 25)
    obtain ⟨x0, x1, x2, x3, x4⟩ := X2.five
    have f0 : ∀ x, (w1.alloc (.cells #[.bool false, .int .i64 0, .slice al nl cl] 25)).frozen? ⟨w.heap.size, x, none⟩ = false := fun x => X2.frozen x
    rw [show bk0.ok = false from rfl, show bk0.sec = 0 from rfl]
    clear hl
    go_wp2
    obtain ⟨s1, s2, s3⟩ := set5 (w1.alloc (.cells #[.bool false, .int .i64 0, .slice al nl cl] 25)) w.heap.size (.bool false) (.bool false) (.int .i64 0) (.slice none 0 0) (.slice none 0 0)
    exact bodyPost_ret (v := .agg #[.bool false, .bool false, .int .i64 0, .slice none 0 0, .slice none 0 0]) (by simp [results, Try.results5, go_sem, x0, x1, x2, x3, x4]) rfl ⟨_, [], rfl, ⟨_, _, [], [], rfl, rfl, lnsAt_nil _, bdsAt_nil _⟩, s3 _ _ B2 (Nat.le_refl _)⟩

end Go.Proofs.Ytnaaheddhgpnoab
