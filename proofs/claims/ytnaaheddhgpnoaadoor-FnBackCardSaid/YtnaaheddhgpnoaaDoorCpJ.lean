/-
  A BOOK THAT IS COPIED, as it lies while its lists are cloned one by one.
-/
import Derived.Test.YtnaaheddhgpnoaaDoorCpI
namespace Go.Proofs.YtnaaheddhgpnoaaDoor
open Go.ChangeShapes Go.WideShapes Go.ChangeAt Go.RowKit

/-- The lines of a copy: the first kw of them have ways of their own, the first kg grants of their own; the rest are still the book's. -/
structure CpJ (W : World) (B lb cap n : Nat) (L : Nat → Ln) (VW VG : Nat → Value) (kw kg : Nat) : Prop where
  lo : B ≤ lb
  kind : KindAt W lb 38
  cap0 : n ≤ cap
  cap1 : cap ≤ maxLen
  cells : ∀ j, j < n → W.cell? ⟨lb, j * 4, none⟩ = some (.int .i64 (L j).gone) ∧ W.cell? ⟨lb, j * 4 + 1, none⟩ = some (VW j) ∧ W.cell? ⟨lb, j * 4 + 2, none⟩ = some (VG j) ∧ W.cell? ⟨lb, j * 4 + 3, none⟩ = some (.int .i64 (L j).drop)
  ints : ∀ j, j < kw → W.ownsRow B 3 1 (VW j) (L j).way.length ((L j).way.map fun x => Value.int .i64 x)
  grs : ∀ j, j < kg → W.ownsRow B 40 2 (VG j) (L j).grs.length (grCells (L j).grs)
  apartW : ∀ i j, i < kw → j < kw → i ≠ j → ∀ x, (VW i).ownBlock = some x → (VW j).ownBlock ≠ some x
  apartG : ∀ i j, i < kg → j < kg → i ≠ j → ∀ x, (VG i).ownBlock = some x → (VG j).ownBlock ≠ some x

theorem own_belowJ {w w' : World} {B T n size : Nat} {v : Value} {xs : List Value} (h : w.ownsRow B T size v n xs) (hb : Below w.heap.size w w') : w'.ownsRow B T size v n xs :=
  h.kept (row := none) ⟨hb.os, hb.tape, hb.output, hb.size, fun k hk _ => hb.block k hk⟩ (by cases hv : v.ownBlock <;> simp)
theorem KindAt.set {w : World} {b : Nat} {t : TypeId} (h : KindAt w b t) (o : Nat) (u : Value) (x : Nat) : KindAt (w.setCell ⟨x, o, none⟩ u) b t := by
  obtain ⟨c, hc⟩ := h
  by_cases e : b = x
  · subst e
    have h1 : BlkIs w b c.toList t := by unfold BlkIs; simpa using hc
    have h2 := h1.set o u
    exact ⟨_, h2⟩
  · exact ⟨c, (Below.heap_setCell _ _ _ _ e).trans hc⟩
theorem own_neK {w : World} {B T T' n size b : Nat} {v : Value} {xs : List Value} (h : w.ownsRow B T size v n xs) (hk : KindAt w b T') (ht : T ≠ T') : v.ownBlock ≠ some b := fun e => (own_kind h b e).ne hk ht rfl

def upd (V : Nat → Value) (k : Nat) (v : Value) : Nat → Value := fun j => if j = k then v else V j
theorem upd_same (V : Nat → Value) (k : Nat) (v : Value) : upd V k v k = v := by simp [upd]
theorem upd_other (V : Nat → Value) (k j : Nat) (v : Value) (h : j ≠ k) : upd V k v j = V j := by simp [upd, h]

theorem CpJ.below {W W' : World} {B lb cap n kw kg : Nat} {L : Nat → Ln} {VW VG : Nat → Value} (h : CpJ W B lb cap n L VW VG kw kg) (hb : Below W.heap.size W W') : CpJ W' B lb cap n L VW VG kw kg where
  lo := h.lo
  kind := h.kind.keep (hb.block _ h.kind.lt)
  cap0 := h.cap0
  cap1 := h.cap1
  cells := fun j hj => by
    obtain ⟨c0, c1, c2, c3⟩ := h.cells j hj
    have k := hb.block _ h.kind.lt
    exact ⟨(cell_keep k).trans c0, (cell_keep k).trans c1, (cell_keep k).trans c2, (cell_keep k).trans c3⟩
  ints := fun j hj => own_belowJ (h.ints j hj) hb
  grs := fun j hj => own_belowJ (h.grs j hj) hb
  apartW := h.apartW
  apartG := h.apartG

theorem CpJ.stepW {W : World} {B lb cap n kw kg S : Nat} {L : Nat → Ln} {VW VG : Nat → Value} {v : Value} (h : CpJ W B lb cap n L VW VG kw kg) (hk : kw < n) (hS : B ≤ S) (hold : ∀ j, j < kw → ∀ x, (VW j).ownBlock = some x → x < S)
    (hown : W.ownsRow S 3 1 v (L kw).way.length ((L kw).way.map fun x => Value.int .i64 x)) : CpJ (W.setCell ⟨lb, kw * 4 + 1, none⟩ v) B lb cap n L (upd VW kw v) VG (kw + 1) kg where
  lo := h.lo
  kind := h.kind.set _ _ _
  cap0 := h.cap0
  cap1 := h.cap1
  cells := fun j hj => by
    obtain ⟨c0, c1, c2, c3⟩ := h.cells j hj
    refine ⟨(cell_set_ne (by omega)).trans c0, ?_, (cell_set_ne (by omega)).trans c2, (cell_set_ne (by omega)).trans c3⟩
    by_cases e : j = kw
    · subst e
      rw [upd_same]
      exact World.cell?_setCell_same _ _ _ c1
    · rw [upd_other _ _ _ _ e]
      exact (cell_set_ne (by omega)).trans c1
  ints := fun j hj => by
    by_cases e : j = kw
    · subst e
      rw [upd_same]
      exact own_set (own_mono hown hS) (own_neK hown h.kind (by decide)) _
    · rw [upd_other _ _ _ _ e]
      exact own_set (h.ints j (by omega)) (own_neK (h.ints j (by omega)) h.kind (by decide)) _
  grs := fun j hj => own_set (h.grs j hj) (own_neK (h.grs j hj) h.kind (by decide)) _
  apartW := fun i j hi hj hne x hx => by
    by_cases ei : i = kw
    · subst ei
      have ej : j ≠ i := fun e => hne e.symm
      rw [upd_same] at hx
      rw [upd_other _ _ _ _ ej]
      intro hy
      have h1 := hown.lt x hx
      have h2 := hold j (by omega) x hy
      omega
    · rw [upd_other _ _ _ _ ei] at hx
      by_cases ej : j = kw
      · subst ej
        rw [upd_same]
        intro hy
        have h1 := hown.lt x hy
        have h2 := hold i (by omega) x hx
        omega
      · rw [upd_other _ _ _ _ ej]
        exact h.apartW i j (by omega) (by omega) hne x hx
  apartG := h.apartG

theorem CpJ.stepG {W : World} {B lb cap n kw kg S : Nat} {L : Nat → Ln} {VW VG : Nat → Value} {v : Value} (h : CpJ W B lb cap n L VW VG kw kg) (hk : kg < n) (hS : B ≤ S) (hold : ∀ j, j < kg → ∀ x, (VG j).ownBlock = some x → x < S)
    (hown : W.ownsRow S 40 2 v (L kg).grs.length (grCells (L kg).grs)) : CpJ (W.setCell ⟨lb, kg * 4 + 2, none⟩ v) B lb cap n L VW (upd VG kg v) kw (kg + 1) where
  lo := h.lo
  kind := h.kind.set _ _ _
  cap0 := h.cap0
  cap1 := h.cap1
  cells := fun j hj => by
    obtain ⟨c0, c1, c2, c3⟩ := h.cells j hj
    refine ⟨(cell_set_ne (by omega)).trans c0, (cell_set_ne (by omega)).trans c1, ?_, (cell_set_ne (by omega)).trans c3⟩
    by_cases e : j = kg
    · subst e
      rw [upd_same]
      exact World.cell?_setCell_same _ _ _ c2
    · rw [upd_other _ _ _ _ e]
      exact (cell_set_ne (by omega)).trans c2
  ints := fun j hj => own_set (h.ints j hj) (own_neK (h.ints j hj) h.kind (by decide)) _
  grs := fun j hj => by
    by_cases e : j = kg
    · subst e
      rw [upd_same]
      exact own_set (own_mono hown hS) (own_neK hown h.kind (by decide)) _
    · rw [upd_other _ _ _ _ e]
      exact own_set (h.grs j (by omega)) (own_neK (h.grs j (by omega)) h.kind (by decide)) _
  apartW := h.apartW
  apartG := fun i j hi hj hne x hx => by
    by_cases ei : i = kg
    · subst ei
      have ej : j ≠ i := fun e => hne e.symm
      rw [upd_same] at hx
      rw [upd_other _ _ _ _ ej]
      intro hy
      have h1 := hown.lt x hx
      have h2 := hold j (by omega) x hy
      omega
    · rw [upd_other _ _ _ _ ei] at hx
      by_cases ej : j = kg
      · subst ej
        rw [upd_same]
        intro hy
        have h1 := hown.lt x hy
        have h2 := hold i (by omega) x hx
        omega
      · rw [upd_other _ _ _ _ ej]
        exact h.apartG i j (by omega) (by omega) hne x hx

theorem CpJ.start {W : World} {B lb cap n : Nat} {L : Nat → Ln} {VW VG : Nat → Value} (h : W.ownsRow B 38 4 (.slice (some ⟨lb, 0, none⟩) n cap) n (lnRow L VW VG n)) : CpJ W B lb cap n L VW VG 0 0 := by
  obtain ⟨g, cap', hv, hB, hk, h1, h2, hc⟩ := own_facts h (by simp)
  simp only [Value.slice.injEq, Option.some.injEq, Addr.mk.injEq, and_true, true_and] at hv
  obtain ⟨rfl, rfl⟩ := hv
  have hat := (lnRow_at L VW VG n).2
  have hcell : ∀ j r u, j < n → r < 4 → (lnVals (L j) (VW j) (VG j))[r]? = some u → W.cell? ⟨lb, j * 4 + r, none⟩ = some u := fun j r u hj hr hu => by
    have := hc (j * 4 + r) u (by rw [hat j r hj hr]; exact hu)
    rwa [Nat.zero_add] at this
  exact ⟨hB, hk, h1, h2, fun j hj => ⟨hcell j 0 _ hj (by omega) rfl, hcell j 1 _ hj (by omega) rfl, hcell j 2 _ hj (by omega) rfl, hcell j 3 _ hj (by omega) rfl⟩, fun j hj => by omega, fun j hj => by omega, fun i j hi => by omega, fun i j hi => by omega⟩

theorem CpJ.other {W : World} {B lb cap n kw kg x : Nat} {L : Nat → Ln} {VW VG : Nat → Value} (h : CpJ W B lb cap n L VW VG kw kg) (hx : x < B) (o : Nat) (u : Value) : CpJ (W.setCell ⟨x, o, none⟩ u) B lb cap n L VW VG kw kg where
  lo := h.lo
  kind := h.kind.set _ _ _
  cap0 := h.cap0
  cap1 := h.cap1
  cells := fun j hj => by
    obtain ⟨c0, c1, c2, c3⟩ := h.cells j hj
    have hl := h.lo
    have k : (W.setCell ⟨x, o, none⟩ u).heap[lb]? = W.heap[lb]? := Below.heap_setCell _ _ _ _ (show lb ≠ x by omega)
    exact ⟨(cell_keep k).trans c0, (cell_keep k).trans c1, (cell_keep k).trans c2, (cell_keep k).trans c3⟩
  ints := fun j hj => own_set (h.ints j hj) (fun e => by have := (h.ints j hj).lt x e; omega) _
  grs := fun j hj => own_set (h.grs j hj) (fun e => by have := (h.grs j hj).lt x e; omega) _
  apartW := h.apartW
  apartG := h.apartG
theorem CpJ.mono {W : World} {B B' lb cap n kw kg : Nat} {L : Nat → Ln} {VW VG : Nat → Value} (h : CpJ W B lb cap n L VW VG kw kg) (hB : B' ≤ B) : CpJ W B' lb cap n L VW VG kw kg where
  lo := Nat.le_trans hB h.lo
  kind := h.kind
  cap0 := h.cap0
  cap1 := h.cap1
  cells := h.cells
  ints := fun j hj => own_mono (h.ints j hj) hB
  grs := fun j hj => own_mono (h.grs j hj) hB
  apartW := h.apartW
  apartG := h.apartG

end Go.Proofs.YtnaaheddhgpnoaaDoor
