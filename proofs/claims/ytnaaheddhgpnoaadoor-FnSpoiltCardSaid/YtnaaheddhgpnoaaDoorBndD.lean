/-
  A COPY THAT IS BENT: one line of it turns. No function of the program is named here but the kinds.
-/
import Derived.Test.YtnaaheddhgpnoaaDoorSpDoW
import Derived.Test.YtnaaheddhgpnoaaDoorOdd
namespace Go.Proofs.YtnaaheddhgpnoaaDoor
open Go.ChangeShapes Go.WideShapes Go.ChangeAt Go.RowKit

structure BdSt (C : Nat) (w W : World) (lb cap t : Nat) (k : Bk) (l : Ln) (vw vg : Value) (d1 d2 : List Nat) (D : Nat → List Nat) : Prop where
  chg : Chg [C] w W
  out : BlkIs W w.heap.size [.bool k.ok, .int .i64 k.sec, .slice (some ⟨lb, 0, none⟩) k.lns.length cap] 32
  res : BlkIs W (w.heap.size + 1) [.bool false, .int .i64 0, .slice none 0 0] 32
  lo : w.heap.size + 2 ≤ lb
  free : ∀ x, W.frozen? ⟨lb, x, none⟩ = false
  cap0 : k.lns.length ≤ cap
  cap1 : cap ≤ maxLen
  tn : t < k.lns.length
  others : ∀ j, j < k.lns.length → j ≠ t → LnCells W lb (j * 4) (lnOf k.lns j) (D j)
  far : ∀ j, j < k.lns.length → j ≠ t → ∀ x ∈ D j, x ≠ lb ∧ w.heap.size + 2 ≤ x
  c0 : W.cell? ⟨lb, t * 4, none⟩ = some (.int .i64 l.gone)
  c1 : W.cell? ⟨lb, t * 4 + 1, none⟩ = some vw
  c2 : W.cell? ⟨lb, t * 4 + 2, none⟩ = some vg
  c3 : W.cell? ⟨lb, t * 4 + 3, none⟩ = some (.int .i64 l.drop)
  ints : IntsAt W vw l.way d1
  grs : GrsAt W vg l.grs d2
  dd : ∀ x ∈ d1 ++ d2, x ≠ lb ∧ w.heap.size + 2 ≤ x

theorem BdSt.lt {C : Nat} {w W : World} {lb cap t : Nat} {k : Bk} {l : Ln} {vw vg : Value} {d1 d2 : List Nat} {D : Nat → List Nat} (h : BdSt C w W lb cap t k l vw vg d1 d2 D) : lb < W.heap.size := World.block_lt_of_cell? W ⟨lb, t * 4, none⟩ h.c0

/-- What turns: line t's cells, and one block g. -/
theorem BdSt.step {C : Nat} {w W W' : World} {lb cap t g : Nat} {k : Bk} {l l' : Ln} {vw vg vw' vg' : Value} {d1 d2 d1' d2' : List Nat} {D : Nat → List Nat} (h : BdSt C w W lb cap t k l vw vg d1 d2 D)
    (chg : Chg [C] w W') (hblk : ∀ x, w.heap.size ≤ x → x < W.heap.size → x ≠ lb → x ≠ g → W'.heap[x]? = W.heap[x]?) (g3 : w.heap.size + 2 ≤ g) (g4 : ∀ j, j < k.lns.length → j ≠ t → g ∉ D j)
    (hcell : ∀ q, q < t * 4 ∨ t * 4 + 4 ≤ q → W'.cell? ⟨lb, q, none⟩ = W.cell? ⟨lb, q, none⟩) (free : ∀ x, W'.frozen? ⟨lb, x, none⟩ = false)
    (c0 : W'.cell? ⟨lb, t * 4, none⟩ = some (.int .i64 l'.gone)) (c1 : W'.cell? ⟨lb, t * 4 + 1, none⟩ = some vw') (c2 : W'.cell? ⟨lb, t * 4 + 2, none⟩ = some vg') (c3 : W'.cell? ⟨lb, t * 4 + 3, none⟩ = some (.int .i64 l'.drop))
    (ints : IntsAt W' vw' l'.way d1') (grs : GrsAt W' vg' l'.grs d2') (dd : ∀ x ∈ d1' ++ d2', x ≠ lb ∧ w.heap.size + 2 ≤ x) :
    BdSt C w W' lb cap t k l' vw' vg' d1' d2' D where
  chg := chg
  out := h.out.keep (hblk _ (Nat.le_refl _) h.out.lt (by have := h.lo; omega) (by omega))
  res := h.res.keep (hblk _ (by omega) h.res.lt (by have := h.lo; omega) (by omega))
  lo := h.lo
  free := free
  cap0 := h.cap0
  cap1 := h.cap1
  tn := h.tn
  others := fun j hj hn => (h.others j hj hn).keep4 (hcell _ (by omega)) (hcell _ (by omega)) (hcell _ (by omega)) (hcell _ (by omega)) fun x hx => hblk x (by have := (h.far j hj hn x hx).2; omega) ((h.others j hj hn).lt x hx) (h.far j hj hn x hx).1 fun e => g4 j hj hn (e ▸ hx)
  far := h.far
  c0 := c0
  c1 := c1
  c2 := c2
  c3 := c3
  ints := ints
  grs := grs
  dd := dd

/-- Nothing of it turns. -/
theorem BdSt.keep {C : Nat} {w W W' : World} {lb cap t : Nat} {k : Bk} {l : Ln} {vw vg : Value} {d1 d2 : List Nat} {D : Nat → List Nat} (h : BdSt C w W lb cap t k l vw vg d1 d2 D)
    (chg : Chg [C] w W') (hblk : ∀ x, w.heap.size ≤ x → x < W.heap.size → W'.heap[x]? = W.heap[x]?) : BdSt C w W' lb cap t k l vw vg d1 d2 D := by
  have hr := h.res.lt
  have e := hblk lb (by have := h.lo; omega) h.lt
  refine h.step (g := W.heap.size) chg (fun x h1 h2 _ _ => hblk x h1 h2) (by omega) (fun j hj hn hm => by have := (h.others j hj hn).lt _ hm; omega) (fun q _ => cell_keep e) (fun x => (World.frozen?_of_block (a := ⟨lb, x, none⟩) e).trans (h.free x)) ((cell_keep e).trans h.c0) ((cell_keep e).trans h.c1) ((cell_keep e).trans h.c2) ((cell_keep e).trans h.c3) (h.ints.keep fun x hx => hblk x (by have := (h.dd x (List.mem_append_left _ hx)).2; omega) (h.ints.lt x hx)) (h.grs.keep fun x hx => hblk x (by have := (h.dd x (List.mem_append_right _ hx)).2; omega) (h.grs.lt x hx)) h.dd
theorem BdSt.chg1 {C : Nat} {w W W' : World} {lb cap t : Nat} {k : Bk} {l : Ln} {vw vg : Value} {d1 d2 : List Nat} {D : Nat → List Nat} (h : BdSt C w W lb cap t k l vw vg d1 d2 D) (hc : Chg [C] W W') (hC : C < w.heap.size) : BdSt C w W' lb cap t k l vw vg d1 d2 D :=
  h.keep (h.chg.trans hc) fun x h1 h2 => hc.block x h2 (by simp; omega)
theorem BdSt.alloc {C : Nat} {w W : World} {lb cap t : Nat} {k : Bk} {l : Ln} {vw vg : Value} {d1 d2 : List Nat} {D : Nat → List Nat} (h : BdSt C w W lb cap t k l vw vg d1 d2 D) (c : Array Value) (ty : TypeId) : BdSt C w (W.alloc (.cells c ty)) lb cap t k l vw vg d1 d2 D :=
  h.keep (h.chg.alloc _ _) fun _ _ h2 => Below.heap_alloc _ _ _ h2
theorem BdSt.drew {C : Nat} {w W : World} {lb cap t : Nat} {k : Bk} {l : Ln} {vw vg : Value} {d1 d2 : List Nat} {D : Nat → List Nat} (h : BdSt C w W lb cap t k l vw vg d1 d2 D) : BdSt C w W.drew lb cap t k l vw vg d1 d2 D :=
  h.keep h.chg.drew fun _ _ _ => rfl

/-- A store into one of the line's own cells. -/
theorem BdSt.turn {C : Nat} {w W : World} {lb cap t r : Nat} {k : Bk} {l l' : Ln} {vw vg vw' vg' u : Value} {d1 d2 d1' d2' : List Nat} {D : Nat → List Nat} (h : BdSt C w W lb cap t k l vw vg d1 d2 D) (hr : r < 4)
    (e0 : (if r = 0 then u else .int .i64 l.gone) = .int .i64 l'.gone) (e1 : (if r = 1 then u else vw) = vw') (e2 : (if r = 2 then u else vg) = vg') (e3 : (if r = 3 then u else .int .i64 l.drop) = .int .i64 l'.drop)
    (hi : IntsAt W vw' l'.way d1') (hg : GrsAt W vg' l'.grs d2') (hdd : ∀ x ∈ d1' ++ d2', x ≠ lb ∧ w.heap.size + 2 ≤ x) :
    BdSt C w (W.setCell ⟨lb, t * 4 + r, none⟩ u) lb cap t k l' vw' vg' d1' d2' D := by
  have cell : ∀ q y, q < 4 → W.cell? ⟨lb, t * 4 + q, none⟩ = some y → (W.setCell ⟨lb, t * 4 + r, none⟩ u).cell? ⟨lb, t * 4 + q, none⟩ = some (if r = q then u else y) := fun q y hq hy => by
    by_cases e : r = q
    · subst e; rw [if_pos rfl]; exact World.cell?_setCell_same _ _ _ hy
    · rw [if_neg e, cell_set_ne (by omega)]; exact hy
  have hr := h.res.lt
  have hlo := h.lo
  refine h.step (g := W.heap.size) (h.chg.setNew (by omega) _) (fun x _ _ hx _ => Below.heap_setCell _ _ _ _ hx) (by omega) (fun j hj hn hm => by have := (h.others j hj hn).lt _ hm; omega) (fun q hq => cell_set_ne (by omega)) (fun x => by rw [World.frozen?_setCell]; exact h.free x) ?_ ?_ ?_ ?_ (hi.keep fun x hx => Below.heap_setCell _ _ _ _ (hdd x (List.mem_append_left _ hx)).1) (hg.keep fun x hx => Below.heap_setCell _ _ _ _ (hdd x (List.mem_append_right _ hx)).1) hdd
  · rw [← e0]; exact cell 0 _ (by omega) h.c0
  · rw [← e1]; exact cell 1 _ (by omega) h.c1
  · rw [← e2]; exact cell 2 _ (by omega) h.c2
  · rw [← e3]; exact cell 3 _ (by omega) h.c3

theorem Chg.grown {bs : List Nat} {a w w' : World} {g : Nat} (h : Chg bs a w) (hg : w.grownBy w' (some g)) (hb : a.heap.size ≤ g) : Chg bs a w' where
  os := hg.os.trans h.os
  tape := hg.tape.trans h.tape
  output := hg.output.trans h.output
  size := Nat.le_trans h.size hg.size
  block := fun x hx hn => (hg.block x (Nat.lt_of_lt_of_le hx h.size) fun e => by have := Option.some.inj e; omega).trans (h.block x hx hn)
  frozen := fun b o hb' => (World.frozen?_of_block (a := ⟨b, o, none⟩) (hg.block b (Nat.lt_of_lt_of_le hb' h.size) fun e => by have := Option.some.inj e; omega)).trans (h.frozen b o hb')

/-- A row of the line has grown, and the line holds it. -/
theorem BdSt.after {C : Nat} {w W W' : World} {lb cap t r g : Nat} {k : Bk} {l l' : Ln} {vw vg vw' vg' u : Value} {d1 d2 d1' d2' : List Nat} {D : Nat → List Nat} (h : BdSt C w W lb cap t k l vw vg d1 d2 D) (hgr : W.grownBy W' (some g)) (g1 : g ≠ lb) (g3 : w.heap.size + 2 ≤ g) (g4 : ∀ j, j < k.lns.length → j ≠ t → g ∉ D j) (hr : r < 4)
    (e0 : (if r = 0 then u else .int .i64 l.gone) = .int .i64 l'.gone) (e1 : (if r = 1 then u else vw) = vw') (e2 : (if r = 2 then u else vg) = vg') (e3 : (if r = 3 then u else .int .i64 l.drop) = .int .i64 l'.drop)
    (hi : IntsAt W' vw' l'.way d1') (hg : GrsAt W' vg' l'.grs d2') (hdd : ∀ x ∈ d1' ++ d2', x ≠ lb ∧ w.heap.size + 2 ≤ x) :
    BdSt C w (W'.setCell ⟨lb, t * 4 + r, none⟩ u) lb cap t k l' vw' vg' d1' d2' D := by
  have hlb : W'.heap[lb]? = W.heap[lb]? := hgr.block lb h.lt fun e => g1 (Option.some.inj e).symm
  have kc : ∀ {o y}, W.cell? ⟨lb, o, none⟩ = some y → W'.cell? ⟨lb, o, none⟩ = some y := fun hy => (World.cell?_of_block (a := ⟨lb, _, none⟩) hlb).trans hy
  have cell : ∀ q y, q < 4 → W.cell? ⟨lb, t * 4 + q, none⟩ = some y → (W'.setCell ⟨lb, t * 4 + r, none⟩ u).cell? ⟨lb, t * 4 + q, none⟩ = some (if r = q then u else y) := fun q y hq hy => by
    by_cases e : r = q
    · subst e; rw [if_pos rfl]; exact World.cell?_setCell_same _ _ _ (kc hy)
    · rw [if_neg e, cell_set_ne (by omega)]; exact kc hy
  refine h.step (g := g) ((h.chg.grown hgr (by omega)).setNew (by have := h.lo; omega) _) (fun x _ hx hx1 hx2 => (Below.heap_setCell _ _ _ _ hx1).trans (hgr.block x hx fun e => hx2 (Option.some.inj e))) g3 g4 (fun q hq => (cell_set_ne (by omega)).trans (cell_keep hlb)) (fun x => by rw [World.frozen?_setCell]; exact (World.frozen?_of_block (a := ⟨lb, x, none⟩) hlb).trans (h.free x)) ?_ ?_ ?_ ?_ (hi.keep fun x hx => Below.heap_setCell _ _ _ _ (hdd x (List.mem_append_left _ hx)).1) (hg.keep fun x hx => Below.heap_setCell _ _ _ _ (hdd x (List.mem_append_right _ hx)).1) hdd
  · rw [← e0]; exact cell 0 _ (by omega) h.c0
  · rw [← e1]; exact cell 1 _ (by omega) h.c1
  · rw [← e2]; exact cell 2 _ (by omega) h.c2
  · rw [← e3]; exact cell 3 _ (by omega) h.c3

theorem GrsAt.new1 (w : World) (x y : Int) (t : TypeId) : GrsAt (w.alloc (.cells #[.int .i64 x, .int .i64 y] t)) (.slice (some ⟨w.heap.size, 0, none⟩) 1 1) [⟨x, y⟩] [w.heap.size] := by
  have hB : BlkIs (w.alloc (.cells #[.int .i64 x, .int .i64 y] t)) w.heap.size [.int .i64 x, .int .i64 y] t := BlkIs.new _ _ _
  refine ⟨_, 1, rfl, Nat.le_refl _, by unfold maxLen; omega, Or.inr ⟨_, 0, rfl, rfl, hB.lt, fun i hi => ?_⟩⟩
  obtain rfl : i = 0 := by simpa using hi
  exact ⟨hB.cell 0, hB.cell 1⟩
def setGr (gs : List Gr) (q s : Nat) (z : Int) : List Gr := gs.set q (if s = 0 then ⟨z, (gs[q]?.getD gr0).cel⟩ else ⟨(gs[q]?.getD gr0).ver, z⟩)
theorem setGr_len (gs : List Gr) (q s : Nat) (z : Int) : (setGr gs q s z).length = gs.length := by simp [setGr]
theorem GrsAt.cells {w : World} {gb n c q : Nat} {gs : List Gr} {bs : List Nat} (h : GrsAt w (.slice (some ⟨gb, 0, none⟩) n c) gs bs) (hq : q < gs.length) : ∃ x y : Int, w.cell? ⟨gb, q * 2, none⟩ = some (.int .i64 x) ∧ w.cell? ⟨gb, q * 2 + 1, none⟩ = some (.int .i64 y) := by
  obtain ⟨a, cap, hv, h1, h2, h3⟩ := h
  simp only [Value.slice.injEq] at hv
  obtain ⟨rfl, rfl, rfl⟩ := hv
  rcases h3 with ⟨h0, _⟩ | ⟨b, o, ha, hb, hlt, hc⟩
  · omega
  simp only [Option.some.injEq, Addr.mk.injEq, and_true] at ha
  obtain ⟨rfl, rfl⟩ := ha
  obtain ⟨p1, p2⟩ := hc q hq
  rw [Nat.zero_add] at p1 p2
  exact ⟨_, _, p1, p2⟩
theorem RoomAt.free {W : World} {gb n c sz B : Nat} {ty : TypeId} (h : RoomAt W (.slice (some ⟨gb, 0, none⟩) n c) sz ty B) (x : Nat) : W.frozen? ⟨gb, x, none⟩ = false := by
  obtain ⟨b, hb, hk, _⟩ := h.own
  obtain rfl : gb = b := Option.some.inj hb
  exact hk.free x
theorem RoomAt.setFar {W : World} {gb n c sz B lb o : Nat} {ty : TypeId} {u : Value} (h : RoomAt W (.slice (some ⟨gb, 0, none⟩) n c) sz ty B) (hne : gb ≠ lb) : RoomAt (W.setCell ⟨lb, o, none⟩ u) (.slice (some ⟨gb, 0, none⟩) n c) sz ty B := by
  obtain ⟨b, n', c', cur, hv, h1, h2, h3⟩ := h
  obtain rfl : gb = b := by simp only [Value.slice.injEq, Option.some.injEq, Addr.mk.injEq, and_true] at hv; exact hv.1
  exact ⟨gb, n', c', cur, hv, (Below.heap_setCell _ _ _ _ hne).trans h1, h2, h3⟩
/-- A store into a leash. -/
theorem GrsAt.set1 {w : World} {gb n c q s : Nat} {gs : List Gr} {bs : List Nat} (h : GrsAt w (.slice (some ⟨gb, 0, none⟩) n c) gs bs) (hq : q < gs.length) (hs : s < 2) (z : Int) :
    GrsAt (w.setCell ⟨gb, q * 2 + s, none⟩ (.int .i64 z)) (.slice (some ⟨gb, 0, none⟩) n c) (setGr gs q s z) bs := by
  unfold setGr
  obtain ⟨a, cap, hv, h1, h2, h3⟩ := h
  simp only [Value.slice.injEq] at hv
  obtain ⟨rfl, rfl, rfl⟩ := hv
  rcases h3 with ⟨h0, _⟩ | ⟨b, o, ha, hb, hlt, hc⟩
  · omega
  simp only [Option.some.injEq, Addr.mk.injEq, and_true] at ha
  obtain ⟨rfl, rfl⟩ := ha
  refine ⟨_, _, by rw [List.length_set], by rw [List.length_set]; exact h1, h2, Or.inr ⟨gb, 0, rfl, hb, by simpa using hlt, fun i hi => ?_⟩⟩
  rw [List.length_set] at hi
  obtain ⟨p1, p2⟩ := hc i hi
  have ea : (0 + i * 2) = i * 2 := Nat.zero_add _
  rw [ea] at p1 p2 ⊢
  by_cases e : i = q
  · subst e
    have es : s = 0 ∨ s = 1 := by omega
    rcases es with rfl | rfl
    · simp only [List.getElem?_set_self hi, Option.getD_some, if_true]
      refine ⟨World.cell?_setCell_same _ _ _ p1, (cell_set_ne (by omega)).trans p2⟩
    · simp only [List.getElem?_set_self hi, Option.getD_some, Nat.one_ne_zero, if_false]
      refine ⟨(cell_set_ne (by omega)).trans p1, World.cell?_setCell_same _ _ _ p2⟩
  · rw [List.getElem?_set_ne (Ne.symm e)]
    exact ⟨(cell_set_ne (by omega)).trans p1, (cell_set_ne (by omega)).trans p2⟩

theorem BdSt.leash {C : Nat} {w W : World} {lb cap t gb n c q s : Nat} {k : Bk} {l : Ln} {vw : Value} {d1 d2 : List Nat} {D : Nat → List Nat} (h : BdSt C w W lb cap t k l vw (.slice (some ⟨gb, 0, none⟩) n c) d1 d2 D) (g1 : gb ≠ lb) (g3 : w.heap.size + 2 ≤ gb) (g4 : ∀ j, j < k.lns.length → j ≠ t → gb ∉ D j) (g5 : gb ∉ d1)
    (hq : q < l.grs.length) (hs : s < 2) (z : Int) : BdSt C w (W.setCell ⟨gb, q * 2 + s, none⟩ (.int .i64 z)) lb cap t k { l with grs := setGr l.grs q s z } vw (.slice (some ⟨gb, 0, none⟩) n c) d1 d2 D := by
  have hg := h.grs.set1 hq hs z
  have hlb : ∀ x, (W.setCell ⟨gb, q * 2 + s, none⟩ (.int .i64 z)).cell? ⟨lb, x, none⟩ = W.cell? ⟨lb, x, none⟩ := fun x => cell_keep (Below.heap_setCell _ _ _ _ g1.symm)
  exact h.step (g := gb) (h.chg.setNew (by omega) _) (fun x _ _ _ hx => Below.heap_setCell _ _ _ _ hx) g3 g4 (fun x _ => hlb x) (fun x => by rw [World.frozen?_setCell]; exact h.free x) ((hlb _).trans h.c0) ((hlb _).trans h.c1) ((hlb _).trans h.c2) ((hlb _).trans h.c3) (h.ints.keep fun x hx => Below.heap_setCell _ _ _ _ fun (e : x = gb) => g5 (e ▸ hx)) hg h.dd

/-- The book's own box turns. -/
theorem BdSt.box {C : Nat} {w W : World} {lb cap t o : Nat} {k : Bk} {l : Ln} {vw vg u : Value} {d1 d2 : List Nat} {D : Nat → List Nat} (h : BdSt C w W lb cap t k l vw vg d1 d2 D) (b : Bool) (s : Int)
    (e : ([.bool k.ok, .int .i64 k.sec, .slice (some ⟨lb, 0, none⟩) k.lns.length cap] : List Value).set o u = [.bool b, .int .i64 s, .slice (some ⟨lb, 0, none⟩) k.lns.length cap]) :
    BdSt C w (W.setCell ⟨w.heap.size, o, none⟩ u) lb cap t { k with ok := b, sec := s } l vw vg d1 d2 D := by
  have hlo := h.lo
  have e' : ∀ x, x ≠ w.heap.size → (W.setCell ⟨w.heap.size, o, none⟩ u).heap[x]? = W.heap[x]? := fun x hx => Below.heap_setCell _ _ _ _ hx
  have hlb := e' lb (by omega)
  exact {
    chg := h.chg.setNew (Nat.le_refl _) _
    out := by have := h.out.set o u; rw [e] at this; exact this
    res := h.res.other (by omega) _ _
    lo := h.lo
    free := fun x => by rw [World.frozen?_setCell]; exact h.free x
    cap0 := h.cap0
    cap1 := h.cap1
    tn := h.tn
    others := fun j hj hn => (h.others j hj hn).keep hlb fun x hx => e' x (by have := (h.far j hj hn x hx).2; omega)
    far := h.far
    c0 := (cell_keep hlb).trans h.c0
    c1 := (cell_keep hlb).trans h.c1
    c2 := (cell_keep hlb).trans h.c2
    c3 := (cell_keep hlb).trans h.c3
    ints := h.ints.keep fun x hx => e' x (by have := (h.dd x (List.mem_append_left _ hx)).2; omega)
    grs := h.grs.keep fun x hx => e' x (by have := (h.dd x (List.mem_append_right _ hx)).2; omega)
    dd := h.dd }

/-- The copy, as the state in which a line is bent. -/
theorem CpInv.toBd {C : Nat} {w W2 : World} {B cap lb t : Nat} {k : Bk} {VW VG : Nat → Value} {DW DG : Nat → List Nat} (h : CpInv W2 B 38 3 40 (.slice (some ⟨lb, 0, none⟩) k.lns.length cap) k.lns.length (lnOf k.lns) VW VG DW DG)
    (hB : w.heap.size + 2 ≤ B) (hn : k.lns.length ≤ cap) (hcm : cap ≤ maxLen) (ht : t < k.lns.length) (hkd : KindAt W2 lb 38) (hlb : B ≤ lb)
    (hc : ∀ j, j < k.lns.length → W2.cell? ⟨lb, j * 4, none⟩ = some (.int .i64 (lnOf k.lns j).gone) ∧ W2.cell? ⟨lb, j * 4 + 1, none⟩ = some (VW j) ∧ W2.cell? ⟨lb, j * 4 + 2, none⟩ = some (VG j) ∧ W2.cell? ⟨lb, j * 4 + 3, none⟩ = some (.int .i64 (lnOf k.lns j).drop))
    (chg : Chg [C] w W2) (out : BlkIs W2 w.heap.size [.bool k.ok, .int .i64 k.sec, .slice (some ⟨lb, 0, none⟩) k.lns.length cap] 32) (res : BlkIs W2 (w.heap.size + 1) [.bool false, .int .i64 0, .slice none 0 0] 32) : BdSt C w W2 lb cap t k (lnOf k.lns t) (VW t) (VG t) (DW t) (DG t) (fun j => DW j ++ DG j) where
  chg := chg
  out := out
  res := res
  lo := by omega
  free := fun x => hkd.free x
  cap0 := hn
  cap1 := hcm
  tn := ht
  others := fun j hj _ => ⟨_, _, DW j, DG j, (hc j hj).1, (hc j hj).2.1, (hc j hj).2.2.1, (hc j hj).2.2.2, rfl, (h.ints j hj).1, (h.grs j hj).1⟩
  far := fun j hj _ x hx => by
    rcases List.mem_append.1 hx with hx | hx
    · have := (h.kind j hj).1 x hx; exact ⟨this.1.ne hkd (by decide), by omega⟩
    · have := (h.kind j hj).2 x hx; exact ⟨this.1.ne hkd (by decide), by omega⟩
  c0 := (hc t ht).1
  c1 := (hc t ht).2.1
  c2 := (hc t ht).2.2.1
  c3 := (hc t ht).2.2.2
  ints := (h.ints t ht).1
  grs := (h.grs t ht).1
  dd := fun x hx => by
    rcases List.mem_append.1 hx with hx | hx
    · have := (h.kind t ht).1 x hx; exact ⟨this.1.ne hkd (by decide), by omega⟩
    · have := (h.kind t ht).2 x hx; exact ⟨this.1.ne hkd (by decide), by omega⟩

/-- What a book must have so that it can be bent. -/
structure BendOk (m : Nat) (k : Bk) : Prop where
  few : k.lns.length ≤ 20
  lo : 0 ≤ k.sec
  sec : k.sec ≤ 1000
  way : ∀ i, i < k.lns.length → (k.lns[i]?.getD ln0).way.length ≤ m
  grs : ∀ i, i < k.lns.length → (k.lns[i]?.getD ln0).grs.length ≤ m

/-- Behind the bending: the book as it lies. -/
theorem BdSt.done {C m : Nat} {w W : World} {lb cap t : Nat} {k : Bk} {l : Ln} {vw vg : Value} {d1 d2 : List Nat} {D : Nat → List Nat} (h : BdSt C w W lb cap t k l vw vg d1 d2 D)
    (hf : k.lns.length ≤ 20) (h0 : 0 ≤ k.sec) (h1 : k.sec ≤ 1000) (hw : ∀ i, i < k.lns.length → (k.lns[i]?.getD ln0).way.length ≤ m) (hg : ∀ i, i < k.lns.length → (k.lns[i]?.getD ln0).grs.length ≤ m) (hlw : l.way.length ≤ m) (hlg : l.grs.length ≤ m) :
    ∃ k' bs, BkAt W (.agg #[.bool k.ok, .int .i64 k.sec, .slice (some ⟨lb, 0, none⟩) k.lns.length cap]) k' bs ∧ BendOk m k' ∧ ∀ x ∈ bs, w.heap.size + 2 ≤ x := by
  have hat : ∀ i, i < k.lns.length → (k.lns.set t l)[i]?.getD ln0 = if i = t then l else lnOf k.lns i := fun i _ => set_at k.lns t l h.tn i
  refine ⟨{ k with lns := k.lns.set t l }, lb :: (List.range k.lns.length).flatMap fun j => if j = t then d1 ++ d2 else D j, ⟨_, rfl, ⟨_, cap, by rw [List.length_set], by rw [List.length_set]; exact h.cap0, h.cap1, Or.inr ⟨lb, 0, fun j => if j = t then d1 ++ d2 else D j, rfl, by rw [List.length_set], h.lt, fun j hj => ?_⟩⟩⟩, ⟨by simpa using hf, h0, h1, fun i hi => ?_, fun i hi => ?_⟩, fun x hx => ?_⟩
  · rw [List.length_set] at hj
    show LnCells W lb (0 + j * 4) ((k.lns.set t l)[j]?.getD ln0) _
    rw [hat j hj, Nat.zero_add]
    by_cases e : j = t
    · subst e; simp only [if_true]; exact ⟨vw, vg, d1, d2, h.c0, h.c1, h.c2, h.c3, rfl, h.ints, h.grs⟩
    · simp only [if_neg e]; exact h.others j hj e
  · simp only [List.length_set] at hi
    show ((k.lns.set t l)[i]?.getD ln0).way.length ≤ m
    rw [hat i hi]
    split
    · exact hlw
    · exact hw i hi
  · simp only [List.length_set] at hi
    show ((k.lns.set t l)[i]?.getD ln0).grs.length ≤ m
    rw [hat i hi]
    split
    · exact hlg
    · exact hg i hi
  · rcases List.mem_cons.1 hx with rfl | hx
    · exact h.lo
    · obtain ⟨j, hj, hx⟩ := List.mem_flatMap.1 hx
      by_cases e : j = t
      · rw [if_pos e] at hx; exact (h.dd x hx).2
      · rw [if_neg e] at hx; exact (h.far j (List.mem_range.1 hj) e x hx).2

end Go.Proofs.YtnaaheddhgpnoaaDoor
