/-
  FROM A COPY WHOSE ONE LINE HAS TURNED TO A BOOK.
-/
import Derived.Test.YtnaaheddhgpnoaaDoorCpJ
import Derived.Test.YtnaaheddhgpnoaaDoorChg
import Derived.Test.YtnaaheddhgpnoaaDoorSpDo
namespace Go.Proofs.YtnaaheddhgpnoaaDoor
open Go.ChangeShapes Go.WideShapes Go.ChangeAt Go.RowKit

theorem own_intsN {w : World} {B T : Nat} {v : Value} {xs : List Int} (h : w.ownsRow B T 1 v xs.length (xs.map fun x => Value.int .i64 x)) : IntsAt w v xs (ownBs v xs.length) := by
  by_cases hv : v = .slice none 0 0
  · subst hv
    have hz : xs.length = 0 := by
      rcases h.2 with ⟨_, h0⟩ | ⟨g, cap, cur, hv, _⟩
      · exact h0
      · simp at hv
    have hx : xs = [] := List.length_eq_zero_iff.1 hz
    subst hx
    exact ⟨none, 0, by simp, by simp, by simp, Or.inl ⟨rfl, by simp [ownBs]⟩⟩
  · exact (own_ints h hv).1
theorem own_grsN {w : World} {B T : Nat} {v : Value} {xs : List Gr} (h : w.ownsRow B T 2 v xs.length (grCells xs)) : GrsAt w v xs (ownBs v xs.length) := by
  by_cases hv : v = .slice none 0 0
  · subst hv
    have hz : xs.length = 0 := by
      rcases h.2 with ⟨_, h0⟩ | ⟨g, cap, cur, hv, _⟩
      · exact h0
      · simp at hv
    have hx : xs = [] := List.length_eq_zero_iff.1 hz
    subst hx
    exact ⟨none, 0, by simp, by simp, by simp, Or.inl ⟨rfl, by simp [ownBs]⟩⟩
  · exact (own_grs h hv).1
theorem ownBs_own {v : Value} {n x : Nat} (h : x ∈ ownBs v n) : v.ownBlock = some x := by
  unfold ownBs at h
  split at h
  · simp at h
  · split at h
    · simp at h; simp [Value.ownBlock, h]
    · simp at h

theorem LnGrow.below {b o B : Nat} {g : Option Nat} {w w' : World} (h : LnGrow b o g w w') (hb : B ≤ b) (hg : ∀ x, g = some x → B ≤ x) (hs : B ≤ w.heap.size) : Below B w w' :=
  ⟨h.os, h.tape, h.output, h.size, fun k hk => h.block k (Nat.lt_of_lt_of_le hk hs) (by omega) fun e => by have := hg k e.symm; omega⟩
/-- The lines of a copy behind a turn of line t. -/
theorem CpJ.done {W W' : World} {B lb cap t : Nat} {ls : List Ln} {VW VG : Nat → Value} {l' : Ln} {d' : List Nat} {g : Option Nat} (h : CpJ W B lb cap ls.length (lnOf ls) VW VG ls.length ls.length) (ht : t < ls.length) (hl : LnCells W' lb (t * 4) l' d') (hd : ∀ x ∈ d', B ≤ x) (hg : LnGrow lb (t * 4) g W W')
    (hgg : g = none ∨ g = (VW t).ownBlock ∨ g = (VG t).ownBlock) : ∃ bs, LnsAt W' (.slice (some ⟨lb, 0, none⟩) ls.length cap) (ls.set t l') bs ∧ ∀ x ∈ bs, B ≤ x := by
  have hlb : lb < W.heap.size := h.kind.lt
  have hlen : (ls.set t l').length = ls.length := by simp
  have each : ∀ j, j < ls.length → LnCells W' lb (j * 4) ((ls.set t l')[j]?.getD ln0) (if j = t then d' else ownBs (VW j) (lnOf ls j).way.length ++ ownBs (VG j) (lnOf ls j).grs.length) := fun j hj => by
    rw [set_at ls t l' ht j]
    by_cases e : j = t
    · subst e; simp only [if_true]; exact hl
    · simp only [if_neg e]
      obtain ⟨c0, c1, c2, c3⟩ := h.cells j hj
      have far : ∀ r, r < 4 → (j * 4 + r < t * 4 ∨ t * 4 + 4 ≤ j * 4 + r) := fun r hr => by omega
      have kW : ∀ x ∈ ownBs (VW j) (lnOf ls j).way.length, W'.heap[x]? = W.heap[x]? := fun x hx => by
        have hx' := ownBs_own hx
        have kx := own_kind (h.ints j hj) x hx'
        refine hg.block x kx.lt (kx.ne h.kind (by decide)) fun eg => ?_
        rcases hgg with h1 | h1 | h1
        · rw [h1] at eg; cases eg
        · rw [h1] at eg; exact h.apartW j t hj ht e x hx' eg.symm
        · rw [h1] at eg; exact kx.ne (own_kind (h.grs t ht) x eg.symm) (by decide) rfl
      have kG : ∀ x ∈ ownBs (VG j) (lnOf ls j).grs.length, W'.heap[x]? = W.heap[x]? := fun x hx => by
        have hx' := ownBs_own hx
        have kx := own_kind (h.grs j hj) x hx'
        refine hg.block x kx.lt (kx.ne h.kind (by decide)) fun eg => ?_
        rcases hgg with h1 | h1 | h1
        · rw [h1] at eg; cases eg
        · rw [h1] at eg; exact (own_kind (h.ints t ht) x eg.symm).ne kx (by decide) rfl
        · rw [h1] at eg; exact h.apartG j t hj ht e x hx' eg.symm
      exact ⟨VW j, VG j, _, _, (by have := hg.cell (j * 4) (far 0 (by omega)); exact this.trans c0), (hg.cell _ (far 1 (by omega))).trans c1, (hg.cell _ (far 2 (by omega))).trans c2, (hg.cell _ (far 3 (by omega))).trans c3, rfl, (own_intsN (h.ints j hj)).keep kW, (own_grsN (h.grs j hj)).keep kG⟩
  refine ⟨lb :: (List.range (ls.set t l').length).flatMap fun j => if j = t then d' else ownBs (VW j) (lnOf ls j).way.length ++ ownBs (VG j) (lnOf ls j).grs.length, ⟨_, cap, by rw [hlen], by rw [hlen]; exact h.cap0, h.cap1, Or.inr ⟨lb, 0, _, rfl, rfl, Nat.lt_of_lt_of_le hlb hg.size, fun j hj => ?_⟩⟩, fun x hx => ?_⟩
  · rw [Nat.zero_add]; rw [hlen] at hj; exact each j hj
  · rcases List.mem_cons.1 hx with rfl | hx
    · exact h.lo
    · obtain ⟨j, hj, hm⟩ := List.mem_flatMap.1 hx
      rw [hlen] at hj
      have hj' := List.mem_range.1 hj
      by_cases e : j = t
      · rw [if_pos e] at hm; exact hd x hm
      · rw [if_neg e] at hm
        rcases List.mem_append.1 hm with hm | hm
        · exact ((h.ints j hj').lt x (ownBs_own hm)).1
        · exact ((h.grs j hj').lt x (ownBs_own hm)).1

/-- The same where nothing has turned. -/
theorem CpJ.same {W : World} {B lb cap t : Nat} {ls : List Ln} {VW VG : Nat → Value} (h : CpJ W B lb cap ls.length (lnOf ls) VW VG ls.length ls.length) (ht : t < ls.length) : ∃ bs, LnsAt W (.slice (some ⟨lb, 0, none⟩) ls.length cap) (ls.set t (lnOf ls t)) bs ∧ ∀ x ∈ bs, B ≤ x := by
  obtain ⟨c0, c1, c2, c3⟩ := h.cells t ht
  refine h.done (d' := ownBs (VW t) (lnOf ls t).way.length ++ ownBs (VG t) (lnOf ls t).grs.length) (g := none) ht ⟨VW t, VG t, _, _, c0, c1, c2, c3, rfl, own_intsN (h.ints t ht), own_grsN (h.grs t ht)⟩ (fun x hx => ?_) ((LnTurn.of_below (Below.refl _ _) h.kind.lt).grow none) (Or.inl rfl)
  rcases List.mem_append.1 hx with hx | hx
  · exact ((h.ints t ht).lt x (ownBs_own hx)).1
  · exact ((h.grs t ht).lt x (ownBs_own hx)).1

theorem lineDo_same {o : Bool} {l : Ln} {op n : Int} (h : (lineDo o l op n).1 ≠ 0) : (lineDo o l op n).2 = l := by
  unfold lineDo at *
  (repeat' split at h) <;> simp_all <;> (try (split <;> rfl))

end Go.Proofs.YtnaaheddhgpnoaaDoor
