/-
  WHAT AN EVENT DOES TO A BOOK, AS DATA. No function of the program is named here.
-/
import Derived.Test.YtnaaheddhgpnoaaDoorBookD
namespace Go.Proofs.YtnaaheddhgpnoaaDoor
open Go.RowKit

structure Ev where
  op : Int
  train : Int
  n : Int

structure EvOk (k : Bk) (e : Ev) : Prop where
  right : Right k
  t0 : 0 ≤ e.train
  t1 : e.train ≤ (k.lns.length : Int) - 1
  o0 : 1 ≤ e.op
  o1 : e.op ≤ 5
  n0 : 0 ≤ e.n
  add : e.op = 1 → e.n ≤ k.sec - 1
  rest : e.op ≠ 1 → e.n ≤ 1000000

def lastVer (l : Ln) : Int := (l.grs[l.grs.length - 1]?.getD gr0).ver
def firstVer (l : Ln) : Int := (l.grs[0]?.getD gr0).ver
def ownedB (ls : List Ln) (s : Int) : Bool := ls.any fun l => l.way.any fun x => x == s

/-- The code of an event at a line, and the line behind it, ahead of the settling. -/
def lineDo (owned : Bool) (l : Ln) (op n : Int) : Int × Ln :=
  if op = 1 then
    if owned = true then (2, l) else if 0 ≤ l.drop then (3, l) else if l.way.length = 100 ∨ totD l = 1000000 then (4, l) else (0, { l with way := l.way ++ [n] })
  else if op = 2 then
    if n < l.gone ∨ totD l < n ∨ (0 ≤ l.drop ∧ l.drop < n) then (2, l) else if l.grs.length = 20 ∨ lastVer l = 1000000 then (4, l) else (0, { l with grs := l.grs ++ [⟨lastVer l + 1, n⟩] })
  else if op = 3 then
    if n - firstVer l < 0 ∨ (l.grs.length : Int) ≤ n - firstVer l then (2, l) else if mostOf (l.grs.drop (n - firstVer l).toNat) < l.gone then (3, l) else (0, { l with grs := l.grs.drop (n - firstVer l).toNat })
  else if op = 4 then
    if n < l.gone ∨ mostOf l.grs < n then (2, l) else (0, { l with way := l.way.drop (n - l.gone).toNat, gone := n, drop := if 0 ≤ l.drop ∧ l.drop < n then n else l.drop })
  else
    if n < l.gone ∨ totD l ≤ n then (2, l) else if n < lastCel l then (3, l) else (0, { l with drop := n })

/-- What a line gives back. -/
def settleD (l : Ln) : Ln :=
  if l.drop < 0 then l else
  let to := max (mostOf l.grs) l.drop
  let l1 : Ln := if to < totD l then { l with way := l.way.take (to - l.gone).toNat } else l
  if totD l1 ≤ l1.drop then { l1 with drop := -1 } else l1

def doLn (k : Bk) (e : Ev) : Int × Ln := lineDo (ownedB k.lns e.n) (k.lns[e.train.toNat]?.getD ln0) e.op e.n
def doBk (k : Bk) (e : Ev) : Bk := { k with lns := k.lns.set e.train.toNat (settleD (doLn k e).2) }

/-- What Do answers. -/
def DoIs (k : Bk) (e : Ev) (c : Int) (k' : Bk) : Prop := (¬ EvOk k e ∧ c = 1 ∧ k' = bk0) ∨ (EvOk k e ∧ c = (doLn k e).1 ∧ k' = doBk k e)
theorem DoIs.one {k : Bk} {e : Ev} {c c' : Int} {b b' : Bk} (h : DoIs k e c b) (g : DoIs k e c' b') : c = c' ∧ b = b' := by
  rcases h with ⟨h1, rfl, rfl⟩ | ⟨h1, rfl, rfl⟩ <;> rcases g with ⟨g1, rfl, rfl⟩ | ⟨g1, rfl, rfl⟩
  · exact ⟨rfl, rfl⟩
  · exact absurd g1 h1
  · exact absurd h1 g1
  · exact ⟨rfl, rfl⟩

/-- A right line has nothing to give back. -/
theorem settle_right {l : Ln} (hd : DropOk l) : settleD l = l := by
  unfold settleD
  rcases hd with h | h
  · rw [if_pos (by omega)]
  · by_cases hn : l.drop < 0
    · rw [if_pos hn]
    · rw [if_neg hn]
      have h1 := h.far
      have h2 := h.hi
      have e1 : ¬ max (mostOf l.grs) l.drop < totD l := by omega
      have e2 : ¬ totD l ≤ l.drop := by omega
      simp only [e1, e2, if_false]

theorem owned_iff (ls : List Ln) (s : Int) : ownedB ls s = true ↔ ∃ i c, i < ls.length ∧ c < wlen ls i ∧ sect ls i c = s := by
  unfold ownedB
  simp only [List.any_eq_true, beq_iff_eq, List.mem_iff_getElem]
  constructor
  · rintro ⟨l, ⟨i, hi, rfl⟩, x, ⟨c, hc, rfl⟩, hx⟩
    refine ⟨i, c, hi, ?_, ?_⟩
    · unfold wlen; simpa [hi] using hc
    · unfold sect; simpa [hi, hc] using hx
  · rintro ⟨i, c, hi, hc, hs⟩
    unfold wlen at hc
    unfold sect at hs
    simp only [hi, List.getElem?_eq_getElem, Option.getD_some] at hc hs
    refine ⟨ls[i], ⟨i, hi, rfl⟩, _, ⟨c, hc, rfl⟩, ?_⟩
    simpa [hc] using hs

end Go.Proofs.YtnaaheddhgpnoaaDoor
