import Derived.Test.YtnaaheddhgpnoaaDoorEq
import Derived.Test.YtnaaheddhgpnoaaDoorMark
import Derived.Test.YtnaaheddhgpnoaaDoorEv
namespace Go.Proofs.YtnaaheddhgpnoaaDoor
open Go.ChangeShapes Go.WideShapes Go.ChangeAt Go.RowKit

/-- A Done in memory. -/
def DnAt (w : World) (v : Value) (c : Int) (k : Bk) (bs : List Nat) : Prop :=
  ∃ vl, v = .agg #[.int .i64 c, .bool k.ok, .int .i64 k.sec, vl] ∧ LnsAt w vl k.lns bs
theorem DnAt.lt {w : World} {v : Value} {c : Int} {k : Bk} {bs : List Nat} (h : DnAt w v c k bs) : ∀ b ∈ bs, b < w.heap.size := by
  obtain ⟨vl, _, h⟩ := h
  exact h.lt
theorem DnAt.keep {w w' : World} {v : Value} {c : Int} {k : Bk} {bs : List Nat} (h : DnAt w v c k bs) (hk : ∀ b ∈ bs, w'.heap[b]? = w.heap[b]?) : DnAt w' v c k bs := by
  obtain ⟨vl, h1, h⟩ := h
  exact ⟨vl, h1, h.keep hk⟩
theorem DnAt.below {w w' : World} {v : Value} {c : Int} {k : Bk} {bs : List Nat} {B : Nat} (h : DnAt w v c k bs) (hb : Below B w w') (hB : ∀ b ∈ bs, b < B) : DnAt w' v c k bs := h.keep fun b hm => hb.block b (hB b hm)

set_option maxHeartbeats 400000 in
theorem eqDone_same (c : Int) (k : Bk) (va vb : Value) (ba bb : List Nat) (w : World) (ha : DnAt w va c k ba) (hb : DnAt w vb c k bb) :
    Calls Tryd.prog 29 #[va, vb] w fun e w' => e = .returned (.bool true) ∧ Below w.heap.size w w' := by
  obtain ⟨v1, rfl, h1⟩ := ha
  obtain ⟨v2, rfl, h2⟩ := hb
  obtain ⟨sa1, sn1, sc1, rfl⟩ := h1.slice
  obtain ⟨sa2, sn2, sc2, rfl⟩ := h2.slice
  go_enter Tryd.func29, Tryd.ntmps29
  go_wp2_with fail
  have a2 := alloc2 w
  refine (eqBook_same k _ _ ba bb _ ⟨_, rfl, h1.below (a2 _ _) h1.lt⟩ ⟨_, rfl, h2.below (a2 _ _) h2.lt⟩).mono ?_
  clear a2
  rintro e w1 ⟨rfl, hb1⟩
  have hB := (alloc2 w _ _).trans (hb1.mono (by simp; omega))
  go_wp2
  go_ret
  exact ⟨rfl, hB⟩

set_option maxHeartbeats 400000 in
theorem markDone_any (c : Int) (k : Bk) (v : Value) (bs : List Nat) (w : World) (K : Int) (h : DnAt w v c k bs) (hf : Free w bs) (nd : bs.Nodup) (h0 : 0 ≤ K) (hK : offs k.lns k.lns.length K ≤ 2305843009213693952) :
    Calls Tryd.prog 32 #[v, .int .i64 K] w fun e w' => e = .returned (.int .i64 (offs k.lns k.lns.length K)) ∧ DnAt w' v c (markBk k K) bs ∧ Chg bs w w' := by
  obtain ⟨vl, rfl, h⟩ := h
  obtain ⟨sa1, sn1, sc1, rfl⟩ := h.slice
  go_enter Tryd.func32, Tryd.ntmps32
  go_wp2_with fail
  have a1 : ∀ o, Below w.heap.size w (w.alloc o) := fun o => (Below.refl _ _).alloc (Nat.le_refl _) _
  refine (markBook_any k _ bs _ K ⟨_, rfl, h.below (a1 _) h.lt⟩ (hf.below (a1 _) h.lt) nd h0 hK).mono ?_
  rintro e w2 ⟨rfl, ⟨vl2, hv2, hl2⟩, c2⟩
  simp only [markBk, Value.agg.injEq, Array.mk.injEq, List.cons.injEq, and_true, true_and] at hv2
  subst hv2
  clear a1
  go_wp2
  go_ret
  exact ⟨rfl, ⟨_, rfl, hl2⟩, ((Chg.refl _ _).alloc _ _).trans c2⟩

set_option maxHeartbeats 400000 in
theorem heldDone_any (c : Int) (k : Bk) (v : Value) (bs : List Nat) (w : World) (K : Int) (h : DnAt w v c (markBk k K) bs) (h0 : 0 ≤ K) (hK : offs k.lns k.lns.length K ≤ 2305843009213693952) :
    Calls Tryd.prog 33 #[v, .int .i64 K] w fun e w' => e = .returned (.int .i64 (offs k.lns k.lns.length K)) ∧ Below w.heap.size w w' := by
  obtain ⟨vl, rfl, h⟩ := h
  obtain ⟨sa1, sn1, sc1, rfl⟩ := h.slice
  have q1 := offs_le k.lns K k.lns.length
  go_enter Tryd.func33, Tryd.ntmps33
  go_wp2_with fail
  have a1 : ∀ o, Below w.heap.size w (w.alloc o) := fun o => (Below.refl _ _).alloc (Nat.le_refl _) _
  refine (heldBook_any k _ bs _ K ⟨_, rfl, h.below (a1 _) h.lt⟩ h0 hK).mono ?_
  rintro e w2 ⟨rfl, hb2⟩
  have hB := (a1 _).trans (hb2.mono (by simp))
  clear a1
  go_wp2
  go_ret
  exact ⟨rfl, hB⟩

end Go.Proofs.YtnaaheddhgpnoaaDoor
