/-
  THE BOOK AS DATA, AND HOW IT LIES IN MEMORY. No function of the program is named here.
-/
import Derived.WalkKit
import Derived.ProofKit
import Derived.Deep.QuietTactic
import Derived.BigQuiet
import Derived.WalkSpells
namespace Go.Proofs.YtnaaheddhgpnoaaDoor
open Go.RowKit

structure Gr where
  ver : Int
  cel : Int
structure Ln where
  gone : Int
  way : List Int
  grs : List Gr
  drop : Int
structure Bk where
  ok : Bool
  sec : Int
  lns : List Ln

def gr0 : Gr := ⟨0, 0⟩
def ln0 : Ln := ⟨0, [], [], 0⟩

/-- A slice of n elements; 'bs' the one block in which they lie (none where there is no element). -/
def SlAt (w : World) (v : Value) (n : Nat) (bs : List Nat) (cells : Nat → Nat → Prop) : Prop :=
  ∃ a cap, v = .slice a n cap ∧ n ≤ cap ∧ cap ≤ maxLen ∧ ((n = 0 ∧ bs = []) ∨ ∃ b o, a = some ⟨b, o, none⟩ ∧ bs = [b] ∧ b < w.heap.size ∧ cells b o)

def IntsAt (w : World) (v : Value) (xs : List Int) (bs : List Nat) : Prop :=
  SlAt w v xs.length bs fun b o => ∀ i, i < xs.length → w.cell? ⟨b, o + i, none⟩ = some (.int .i64 (xs[i]?.getD 0))

def GrsAt (w : World) (v : Value) (gs : List Gr) (bs : List Nat) : Prop :=
  SlAt w v gs.length bs fun b o => ∀ i, i < gs.length → w.cell? ⟨b, o + i * 2, none⟩ = some (.int .i64 (gs[i]?.getD gr0).ver) ∧ w.cell? ⟨b, o + i * 2 + 1, none⟩ = some (.int .i64 (gs[i]?.getD gr0).cel)

/-- What a world keeps of another below B. -/
theorem bcell {B : Nat} {W w1 : World} (hb : Below B W w1) : (∀ b o, b < B → w1.cell? ⟨b, o, none⟩ = W.cell? ⟨b, o, none⟩) ∧ (∀ b o, b < B → w1.frozen? ⟨b, o, none⟩ = W.frozen? ⟨b, o, none⟩) :=
  ⟨fun b o h => hb.cell (p := ⟨b, o, none⟩) h, fun b o h => hb.frozen (p := ⟨b, o, none⟩) h⟩

def LnAt (w : World) (v : Value) (l : Ln) (bs : List Nat) : Prop :=
  ∃ vw vg b1 b2, v = .agg #[.int .i64 l.gone, vw, vg, .int .i64 l.drop] ∧ bs = b1 ++ b2 ∧ IntsAt w vw l.way b1 ∧ GrsAt w vg l.grs b2

/-- The cells of line l from ⟨b, o⟩ on. -/
def LnCells (w : World) (b o : Nat) (l : Ln) (bs : List Nat) : Prop :=
  ∃ vw vg b1 b2, w.cell? ⟨b, o, none⟩ = some (.int .i64 l.gone) ∧ w.cell? ⟨b, o + 1, none⟩ = some vw ∧ w.cell? ⟨b, o + 2, none⟩ = some vg ∧ w.cell? ⟨b, o + 3, none⟩ = some (.int .i64 l.drop) ∧
    bs = b1 ++ b2 ∧ IntsAt w vw l.way b1 ∧ GrsAt w vg l.grs b2

def LnsAt (w : World) (v : Value) (ls : List Ln) (bs : List Nat) : Prop :=
  ∃ a cap, v = .slice a ls.length cap ∧ ls.length ≤ cap ∧ cap ≤ maxLen ∧ ((ls.length = 0 ∧ bs = []) ∨ ∃ b o D, a = some ⟨b, o, none⟩ ∧ bs = b :: (List.range ls.length).flatMap D ∧ b < w.heap.size ∧
    ∀ i, i < ls.length → LnCells w b (o + i * 4) (ls[i]?.getD ln0) (D i))

def BkAt (w : World) (v : Value) (k : Bk) (bs : List Nat) : Prop :=
  ∃ vl, v = .agg #[.bool k.ok, .int .i64 k.sec, vl] ∧ LnsAt w vl k.lns bs

theorem cell_keep {w w' : World} {b o : Nat} (h : w'.heap[b]? = w.heap[b]?) : w'.cell? ⟨b, o, none⟩ = w.cell? ⟨b, o, none⟩ := World.cell?_of_block (w := w) (a := ⟨b, o, none⟩) h
theorem size_keep {w w' : World} {b : Nat} (h : w'.heap[b]? = w.heap[b]?) (hb : b < w.heap.size) : b < w'.heap.size := by
  rw [Array.getElem?_eq_getElem hb] at h
  exact (Array.getElem?_eq_some_iff.1 h).1

theorem IntsAt.lt {w : World} {v : Value} {xs : List Int} {bs : List Nat} (h : IntsAt w v xs bs) : ∀ b ∈ bs, b < w.heap.size := by
  obtain ⟨a, cap, _, _, _, ⟨_, rfl⟩ | ⟨b, o, _, rfl, hb, _⟩⟩ := h
  · simp
  · simpa using hb
theorem GrsAt.lt {w : World} {v : Value} {xs : List Gr} {bs : List Nat} (h : GrsAt w v xs bs) : ∀ b ∈ bs, b < w.heap.size := by
  obtain ⟨a, cap, _, _, _, ⟨_, rfl⟩ | ⟨b, o, _, rfl, hb, _⟩⟩ := h
  · simp
  · simpa using hb
theorem IntsAt.keep {w w' : World} {v : Value} {xs : List Int} {bs : List Nat} (h : IntsAt w v xs bs) (hk : ∀ b ∈ bs, w'.heap[b]? = w.heap[b]?) : IntsAt w' v xs bs := by
  obtain ⟨a, cap, h1, h2, h3, h⟩ := h
  refine ⟨a, cap, h1, h2, h3, ?_⟩
  rcases h with h | ⟨b, o, h4, rfl, hb, hc⟩
  · exact Or.inl h
  · have e := hk b (by simp)
    exact Or.inr ⟨b, o, h4, rfl, size_keep e hb, fun i hi => by rw [cell_keep e]; exact hc i hi⟩
theorem GrsAt.keep {w w' : World} {v : Value} {xs : List Gr} {bs : List Nat} (h : GrsAt w v xs bs) (hk : ∀ b ∈ bs, w'.heap[b]? = w.heap[b]?) : GrsAt w' v xs bs := by
  obtain ⟨a, cap, h1, h2, h3, h⟩ := h
  refine ⟨a, cap, h1, h2, h3, ?_⟩
  rcases h with h | ⟨b, o, h4, rfl, hb, hc⟩
  · exact Or.inl h
  · have e := hk b (by simp)
    exact Or.inr ⟨b, o, h4, rfl, size_keep e hb, fun i hi => by rw [cell_keep e, cell_keep e]; exact hc i hi⟩
theorem LnCells.lt {w : World} {b o : Nat} {l : Ln} {bs : List Nat} (h : LnCells w b o l bs) : ∀ b ∈ bs, b < w.heap.size := by
  obtain ⟨vw, vg, b1, b2, _, _, _, _, rfl, hw, hg⟩ := h
  intro x hx
  rcases List.mem_append.1 hx with h | h
  · exact hw.lt _ h
  · exact hg.lt _ h
theorem LnCells.keep {w w' : World} {b o : Nat} {l : Ln} {bs : List Nat} (h : LnCells w b o l bs) (he : w'.heap[b]? = w.heap[b]?) (hk : ∀ b ∈ bs, w'.heap[b]? = w.heap[b]?) : LnCells w' b o l bs := by
  obtain ⟨vw, vg, b1, b2, h1, h2, h3, h4, rfl, hw, hg⟩ := h
  exact ⟨vw, vg, b1, b2, by rw [cell_keep he]; exact h1, by rw [cell_keep he]; exact h2, by rw [cell_keep he]; exact h3, by rw [cell_keep he]; exact h4, rfl,
    hw.keep fun x hx => hk x (List.mem_append_left _ hx), hg.keep fun x hx => hk x (List.mem_append_right _ hx)⟩
theorem LnAt.lt {w : World} {v : Value} {l : Ln} {bs : List Nat} (h : LnAt w v l bs) : ∀ b ∈ bs, b < w.heap.size := by
  obtain ⟨vw, vg, b1, b2, _, rfl, hw, hg⟩ := h
  intro x hx
  rcases List.mem_append.1 hx with h | h
  · exact hw.lt _ h
  · exact hg.lt _ h
theorem LnAt.keep {w w' : World} {v : Value} {l : Ln} {bs : List Nat} (h : LnAt w v l bs) (hk : ∀ b ∈ bs, w'.heap[b]? = w.heap[b]?) : LnAt w' v l bs := by
  obtain ⟨vw, vg, b1, b2, h1, rfl, hw, hg⟩ := h
  exact ⟨vw, vg, b1, b2, h1, rfl, hw.keep fun x hx => hk x (List.mem_append_left _ hx), hg.keep fun x hx => hk x (List.mem_append_right _ hx)⟩
theorem LnsAt.lt {w : World} {v : Value} {xs : List Ln} {bs : List Nat} (h : LnsAt w v xs bs) : ∀ b ∈ bs, b < w.heap.size := by
  obtain ⟨a, cap, _, _, _, ⟨_, rfl⟩ | ⟨b, o, D, _, rfl, hb, hc⟩⟩ := h
  · simp
  · intro x hx
    rcases List.mem_cons.1 hx with rfl | h
    · exact hb
    · obtain ⟨i, hi, hx⟩ := List.mem_flatMap.1 h
      exact (hc i (List.mem_range.1 hi)).lt _ hx
theorem LnsAt.keep {w w' : World} {v : Value} {xs : List Ln} {bs : List Nat} (h : LnsAt w v xs bs) (hk : ∀ b ∈ bs, w'.heap[b]? = w.heap[b]?) : LnsAt w' v xs bs := by
  obtain ⟨a, cap, h1, h2, h3, h⟩ := h
  refine ⟨a, cap, h1, h2, h3, ?_⟩
  rcases h with h | ⟨b, o, D, h4, rfl, hb, hc⟩
  · exact Or.inl h
  · have e := hk b (by simp)
    exact Or.inr ⟨b, o, D, h4, rfl, size_keep e hb, fun i hi => (hc i hi).keep e fun x hx => hk x (List.mem_cons_of_mem _ (List.mem_flatMap.2 ⟨i, List.mem_range.2 hi, hx⟩))⟩
theorem BkAt.lt {w : World} {v : Value} {k : Bk} {bs : List Nat} (h : BkAt w v k bs) : ∀ b ∈ bs, b < w.heap.size := by
  obtain ⟨vl, _, h⟩ := h
  exact h.lt
theorem BkAt.keep {w w' : World} {v : Value} {k : Bk} {bs : List Nat} (h : BkAt w v k bs) (hk : ∀ b ∈ bs, w'.heap[b]? = w.heap[b]?) : BkAt w' v k bs := by
  obtain ⟨vl, h1, h⟩ := h
  exact ⟨vl, h1, h.keep hk⟩
theorem IntsAt.below {w w' : World} {v : Value} {xs : List Int} {bs : List Nat} {B : Nat} (h : IntsAt w v xs bs) (hb : Below B w w') (hB : ∀ b ∈ bs, b < B) : IntsAt w' v xs bs := h.keep fun b hm => hb.block b (hB b hm)
theorem GrsAt.below {w w' : World} {v : Value} {xs : List Gr} {bs : List Nat} {B : Nat} (h : GrsAt w v xs bs) (hb : Below B w w') (hB : ∀ b ∈ bs, b < B) : GrsAt w' v xs bs := h.keep fun b hm => hb.block b (hB b hm)
theorem LnAt.below {w w' : World} {v : Value} {xs : Ln} {bs : List Nat} {B : Nat} (h : LnAt w v xs bs) (hb : Below B w w') (hB : ∀ b ∈ bs, b < B) : LnAt w' v xs bs := h.keep fun b hm => hb.block b (hB b hm)
theorem LnsAt.below {w w' : World} {v : Value} {xs : List Ln} {bs : List Nat} {B : Nat} (h : LnsAt w v xs bs) (hb : Below B w w') (hB : ∀ b ∈ bs, b < B) : LnsAt w' v xs bs := h.keep fun b hm => hb.block b (hB b hm)
theorem BkAt.below {w w' : World} {v : Value} {xs : Bk} {bs : List Nat} {B : Nat} (h : BkAt w v xs bs) (hb : Below B w w') (hB : ∀ b ∈ bs, b < B) : BkAt w' v xs bs := h.keep fun b hm => hb.block b (hB b hm)
/-- A line's cells are a line's value. -/
theorem LnCells.at {w : World} {b o : Nat} {l : Ln} {bs : List Nat} (h : LnCells w b o l bs) : ∃ vw vg, w.cell? ⟨b, o, none⟩ = some (.int .i64 l.gone) ∧ w.cell? ⟨b, o + 1, none⟩ = some vw ∧ w.cell? ⟨b, o + 2, none⟩ = some vg ∧ w.cell? ⟨b, o + 3, none⟩ = some (.int .i64 l.drop) ∧
    LnAt w (.agg #[.int .i64 l.gone, vw, vg, .int .i64 l.drop]) l bs := by
  obtain ⟨vw, vg, b1, b2, h1, h2, h3, h4, rfl, hw, hg⟩ := h
  exact ⟨vw, vg, h1, h2, h3, h4, vw, vg, b1, b2, rfl, rfl, hw, hg⟩

/-- A world that keeps another below B. -/
structure Ext (B : Nat) (w : World) where
  val : World
  prop : Below B w val

theorem Ext.cell {B : Nat} {w : World} {b o : Nat} {v : Value} (hb : b < B) (h : w.cell? ⟨b, o, none⟩ = some v) : ∀ x : Ext B w, x.val.cell? ⟨b, o, none⟩ = some v :=
  fun x => by rw [(bcell x.prop).1 _ _ hb]; exact h

/-- A region that draws its order, whose operations only read and whose callees keep what is below B: one walk, in the text's order. -/
theorem wp_region_ext {P : Program} {id : Nat} {Q : Exit → Act → World → Prop} {a : Act} {w : World} {l : List Oper} (B : Nat) (hm : P.follows .mixedOrders = true) (hB : Region.lexB .any l.toArray = true)
    (h : wpQuiet P l.toArray (fun w' => ∃ x : Ext B w, w' = x.val) (fun a' => ∀ w', (∃ x : Ext B w, w' = x.val) → Q .normal a' w') l a) : (Code.region id l.toArray true).wp P Q a w :=
  wp_region_quiet (C := fun w' => ∃ x : Ext B w, w' = x.val) hm hB ⟨⟨_, (Below.refl _ _).drew⟩, rfl⟩ (by simpa using h)

theorem ext_of {P : Program} {f : FuncId} {args : Array Value} {B : Nat} {w : World} {v : Value} (hB : B ≤ w.heap.size) (x : Ext B w)
    (h : Calls P f args x.val fun e w' => e = .returned v ∧ Below x.val.heap.size x.val w') : Calls P f args x.val fun e w'' => e = .returned v ∧ ∃ y : Ext B w, w'' = y.val :=
  h.mono fun _ w'' ⟨he, hb⟩ => ⟨he, ⟨w'', x.prop.trans (hb.mono (Nat.le_trans hB x.prop.size))⟩, rfl⟩

theorem ext_of_same {P : Program} {f : FuncId} {args : Array Value} {B : Nat} {w : World} {v : Value} (x : Ext B w)
    (h : Calls P f args x.val fun e w' => e = .returned v ∧ w' = x.val) : Calls P f args x.val fun e w'' => e = .returned v ∧ ∃ y : Ext B w, w'' = y.val :=
  h.mono fun _ _ ⟨he, hb⟩ => ⟨he, x, hb⟩

end Go.Proofs.YtnaaheddhgpnoaaDoor
