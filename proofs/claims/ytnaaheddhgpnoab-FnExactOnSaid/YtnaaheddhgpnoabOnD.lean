/-
  WHEN A WORLD IS RIGHT; WHO IS ON A SECTION, as data. No function of the program is named here.
-/
import Derived.Test.YtnaaheddhgpnoabWdD
namespace Go.Proofs.Ytnaaheddhgpnoab
open Go.RowKit

def HasG (gs : List Gr) (v c : Int) : Prop := ∃ i, i < gs.length ∧ (gs[i]?.getD gr0).ver = v ∧ (gs[i]?.getD gr0).cel = c
structure BodyOk (l : Ln) (b : Bd) : Prop where
  has : HasG l.grs b.ver b.cel
  lo : l.gone ≤ b.tail
  mid : b.tail ≤ b.front
  hi : b.front < b.cel
structure WdRight (k : Wd) : Prop where
  ok : k.ok = true
  bk : Right k.bk
  len : k.bds.length = k.bk.lns.length
  each : ∀ i, i < k.bds.length → BodyOk (k.bk.lns[i]?.getD ln0) (k.bds[i]?.getD bd0)

/-- Versions count up by one. -/
theorem ver_at {l : Ln} (h : GrsOk l) : ∀ i, i < l.grs.length → (l.grs[i]?.getD gr0).ver = (l.grs[0]?.getD gr0).ver + i
  | 0, _ => by simp
  | i + 1, hi => by
    have h1 := (h.each (i + 1) hi).next (by omega)
    have h2 := ver_at h i (by omega)
    simp only [Nat.add_sub_cancel] at h1
    rw [h1, h2]
    omega
theorem has_iff {l : Ln} (h : GrsOk l) (v c : Int) : HasG l.grs v c ↔ 0 ≤ v - (l.grs[0]?.getD gr0).ver ∧ v - (l.grs[0]?.getD gr0).ver < l.grs.length ∧ (l.grs[(v - (l.grs[0]?.getD gr0).ver).toNat]?.getD gr0).cel = c := by
  constructor
  · rintro ⟨i, hi, h1, h2⟩
    have h3 := ver_at h i hi
    have e : v - (l.grs[0]?.getD gr0).ver = i := by omega
    rw [e]
    exact ⟨by omega, by omega, by rw [Int.toNat_natCast]; exact h2⟩
  · rintro ⟨h1, h2, h3⟩
    obtain ⟨i, hi⟩ := Int.eq_ofNat_of_zero_le h1
    rw [hi] at h2 h3
    rw [Int.toNat_natCast] at h3
    have h4 := ver_at h i (by omega)
    exact ⟨i, by omega, by omega, h3⟩

/-- How many of the line's first m sections are the section s, with the train on them. -/
def onB (l : Ln) (b : Bd) (s : Int) (j : Nat) : Bool := decide ((l.way[j]?.getD 0) = s ∧ b.tail ≤ l.gone + j ∧ l.gone + j ≤ b.front)
def cntTo (l : Ln) (b : Bd) (s : Int) : Nat → Nat
  | 0 => 0
  | m + 1 => cntTo l b s m + (if onB l b s m then 1 else 0)
theorem cnt_le (l : Ln) (b : Bd) (s : Int) : ∀ m, cntTo l b s m ≤ m
  | 0 => Nat.le_refl _
  | m + 1 => by have := cnt_le l b s m; simp only [cntTo]; split <;> omega
theorem cnt_zero (l : Ln) (b : Bd) (s : Int) : ∀ m : Nat, l.gone + (m : Int) ≤ b.tail → cntTo l b s m = 0
  | 0, _ => rfl
  | m + 1, h => by
    have h1 := cnt_zero l b s m (by omega)
    have h2 : onB l b s m = false := by unfold onB; simp; omega
    simp [cntTo, h1, h2]
theorem cnt_end (l : Ln) (b : Bd) (s : Int) (m : Nat) (h : b.front < l.gone + m) : ∀ d, cntTo l b s (m + d) = cntTo l b s m
  | 0 => rfl
  | d + 1 => by
    have h1 := cnt_end l b s m h d
    have h2 : onB l b s (m + d) = false := by unfold onB; simp; omega
    rw [← Nat.add_assoc]
    simp [cntTo, h1, h2]
def onLn (k : Wd) (s : Int) (i : Nat) : Nat := cntTo (k.bk.lns[i]?.getD ln0) (k.bds[i]?.getD bd0) s (k.bk.lns[i]?.getD ln0).way.length
def onAcc (k : Wd) (s : Int) : Nat → List Int
  | 0 => []
  | i + 1 => onAcc k s i ++ List.replicate (onLn k s i) (i : Int)
def OnIs (k : Wd) (s : Int) (xs : List Int) : Prop := (WdRight k ∧ xs = onAcc k s k.bds.length) ∨ (¬ WdRight k ∧ xs = [])
theorem on_exists (k : Wd) (s : Int) : ∃ xs, OnIs k s xs := by
  by_cases h : WdRight k
  · exact ⟨_, Or.inl ⟨h, rfl⟩⟩
  · exact ⟨_, Or.inr ⟨h, rfl⟩⟩
theorem on_len (k : Wd) (s : Int) (h : ∀ i, i < k.bds.length → (k.bk.lns[i]?.getD ln0).way.length ≤ 100) : ∀ i, i ≤ k.bds.length → (onAcc k s i).length ≤ 100 * i
  | 0, _ => by simp [onAcc]
  | i + 1, hi => by
    have h1 := on_len k s h i (by omega)
    have h2 := cnt_le (k.bk.lns[i]?.getD ln0) (k.bds[i]?.getD bd0) s (k.bk.lns[i]?.getD ln0).way.length
    have h3 := h i (by omega)
    simp only [onAcc, List.length_append, List.length_replicate, onLn]
    omega
theorem on_small {k : Wd} (s : Int) (h : WdRight k) (i m : Nat) (hi : i < k.bds.length) (hm : m ≤ 100) : (onAcc k s i ++ List.replicate (cntTo (k.bk.lns[i]?.getD ln0) (k.bds[i]?.getD bd0) s m) (i : Int)).length ≤ 2100 := by
  have h0 := h.bk.frame.few
  have h1 := on_len k s (fun j hj => (h.bk.way j (by rw [← h.len]; exact hj)).head.len) i (by omega)
  have h2 := cnt_le (k.bk.lns[i]?.getD ln0) (k.bds[i]?.getD bd0) s m
  have h3 := h.len
  simp only [List.length_append, List.length_replicate]
  omega
theorem on_is_small {k : Wd} {s : Int} {xs : List Int} (h : OnIs k s xs) : xs.length ≤ 2000 := by
  rcases h with ⟨hr, rfl⟩ | ⟨_, rfl⟩
  · have h0 := hr.bk.frame.few
    have h1 := on_len k s (fun j hj => (hr.bk.way j (by rw [← hr.len]; exact hj)).head.len) k.bds.length (Nat.le_refl _)
    have h3 := hr.len
    omega
  · simp

/-- Numbers as cells. -/
def intCells (xs : List Int) : List Value := xs.map fun x => .int .i64 x
theorem own_ints {w : World} {B T : Nat} {v : Value} {xs : List Int} (h : w.ownsRow B T 1 v xs.length (intCells xs)) : ∃ bs, IntsAt w v xs bs ∧ bs.Nodup ∧ Free w bs ∧ ∀ b ∈ bs, B ≤ b := by
  rcases h.2 with ⟨rfl, e⟩ | ⟨g, cap, cur, rfl, hB, hg, h1, h2, _, _⟩
  · obtain rfl : xs = [] := List.length_eq_zero_iff.1 e
    exact ⟨[], intsAt_nil _, by simp, fun b hb => by simp at hb, fun b hb => by simp at hb⟩
  · by_cases e : xs.length = 0
    · exact ⟨[], ⟨_, cap, rfl, h1, h2, Or.inl ⟨e, rfl⟩⟩, by simp, fun b hb => by simp at hb, fun b hb => by simp at hb⟩
    · refine ⟨[g], ⟨_, cap, rfl, h1, h2, Or.inr ⟨g, 0, rfl, rfl, (Array.getElem?_eq_some_iff.1 hg).1, fun i hi => ?_⟩⟩, by simp, fun b hb o => ?_, fun b hb => by simp at hb; omega⟩
      · have hc := h.cells (g := g) rfl i (.int .i64 (xs[i]?.getD 0)) (by simp [intCells, List.getElem?_eq_getElem hi])
        rw [Addr.add_lit] at hc
        exact hc
      · have : b = g := by simpa using hb
        subst this
        unfold World.frozen?
        rw [hg]
        simp

end Go.Proofs.Ytnaaheddhgpnoab
