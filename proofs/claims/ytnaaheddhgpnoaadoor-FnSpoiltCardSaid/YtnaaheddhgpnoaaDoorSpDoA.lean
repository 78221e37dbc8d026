/-
  spec.Do at every event; a book from which events can be drawn stays one.
-/
import Derived.Test.YtnaaheddhgpnoaaDoorSpDo1
import Derived.Test.YtnaaheddhgpnoaaDoorSpDo2f
import Derived.Test.YtnaaheddhgpnoaaDoorSpDo2n
import Derived.Test.YtnaaheddhgpnoaaDoorSpDo3
import Derived.Test.YtnaaheddhgpnoaaDoorSpDo4
import Derived.Test.YtnaaheddhgpnoaaDoorSpDo5
import Derived.Test.YtnaaheddhgpnoaaDoorDrD
namespace Go.Proofs.YtnaaheddhgpnoaaDoor
open Go.ChangeShapes Go.WideShapes Go.ChangeAt Go.RowKit

theorem specDo_any (k : Bk) (e : Ev) (v : Value) (bs : List Nat) (w : World) (h : BkAt w v k bs) :
    Calls Tryd.prog 26 #[v, .agg #[.int .i64 e.op, .int .i64 e.train, .int .i64 e.n]] w fun r w' => RetDo w k e r w' := by
  by_cases hy : EvOk k e
  · have h0 := hy.o0
    have h1 := hy.o1
    have : e.op = 1 ∨ e.op = 2 ∨ e.op = 3 ∨ e.op = 4 ∨ e.op = 5 := by omega
    rcases this with h' | h' | h' | h' | h'
    · exact specDo_1 k e v bs w h hy h'
    · by_cases hd : 0 ≤ (lnOf k.lns e.train.toNat).drop
      · exact specDo_2f k e v bs w h hy h' fun t ht => by rw [ht, Int.toNat_natCast] at hd; exact hd
      · exact specDo_2n k e v bs w h hy h' fun t ht => by rw [ht, Int.toNat_natCast] at hd; omega
    · exact specDo_3 k e v bs w h hy h'
    · exact specDo_4 k e v bs w h hy h'
    · exact specDo_5 k e v bs w h hy h'
  · exact specDo_no k e v bs w h hy

theorem settle_lens (l : Ln) : (settleD l).way.length ≤ l.way.length ∧ (settleD l).grs = l.grs := by
  by_cases h1 : l.drop < 0
  · unfold settleD
    rw [if_pos h1]
    exact ⟨Nat.le_refl _, rfl⟩
  · unfold settleD
    rw [if_neg h1]
    by_cases h2 : max (mostOf l.grs) l.drop < totD l
    · simp only [h2, if_true]
      split
      · exact ⟨by simp; omega, rfl⟩
      · exact ⟨by simp; omega, rfl⟩
    · simp only [h2, if_false]
      split
      · exact ⟨Nat.le_refl _, rfl⟩
      · exact ⟨Nat.le_refl _, rfl⟩
theorem line_lens (b : Bool) (l : Ln) (op n : Int) (h1 : 1 ≤ l.grs.length) : (lineDo b l op n).2.way.length ≤ l.way.length + 1 ∧ 1 ≤ (lineDo b l op n).2.grs.length ∧ (lineDo b l op n).2.grs.length ≤ l.grs.length + 1 := by
  unfold lineDo
  repeat' split
  all_goals (try simp only [List.length_append, List.length_drop, List.length_cons, List.length_nil])
  all_goals omega
theorem DrawOk.do {k : Bk} {e : Ev} (h : EvOk k e) : DrawOk (doBk k e) := by
  have hf := h.right.frame
  have t0 := h.t0
  have t1 := h.t1
  have hl : (doBk k e).lns.length = k.lns.length := by simp [doBk]
  have hat : ∀ i, i < k.lns.length → (doBk k e).lns[i]?.getD ln0 = if i = e.train.toNat then settleD (doLn k e).2 else k.lns[i]?.getD ln0 := fun i hi => by
    unfold doBk
    simp only [List.getElem?_set]
    by_cases hc : e.train.toNat = i
    · subst hc
      simp [hi]
    · simp [hc, Ne.symm hc]
  have hwl := fun i hi => (h.right.way i hi).head.len
  have hg1 := fun i hi => (h.right.grs i hi).some
  have hg2 := fun i hi => (h.right.grs i hi).few
  have ht : e.train.toNat < k.lns.length := by omega
  have hL := line_lens (ownedB k.lns e.n) (k.lns[e.train.toNat]?.getD ln0) e.op e.n (hg1 _ ht)
  have hS := settle_lens (doLn k e).2
  have w1 := hwl _ ht
  have g1 := hg2 _ ht
  refine ⟨by rw [hl]; exact hf.few, by have := hf.hi; show k.sec ≤ 1000; omega, fun i hi => ?_, fun i hi => ?_⟩
  · rw [hl] at hi
    rw [hat i hi]
    split
    · have := hS.1
      have := hL.1
      unfold doLn at *
      omega
    · have := hwl i hi
      omega
  · rw [hl] at hi
    rw [hat i hi]
    split
    · rw [hS.2]
      have := hL.2
      unfold doLn at *
      omega
    · have := hg1 i hi
      have := hg2 i hi
      omega

end Go.Proofs.YtnaaheddhgpnoaaDoor
