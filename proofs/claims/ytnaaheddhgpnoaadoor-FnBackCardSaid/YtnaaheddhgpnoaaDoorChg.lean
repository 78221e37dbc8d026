import Derived.Test.YtnaaheddhgpnoaaDoorSetI
import Derived.Test.YtnaaheddhgpnoaaDoorSince
import Derived.Defers
import Derived.Deep.RegionHeld3
import Derived.Test.YtnaaheddhgpnoaaDoorSpDoW
import Derived.Deep.RegionLaw
import Derived.Deep.AppendLies
namespace Go.Proofs.YtnaaheddhgpnoaaDoor
open Go.ChangeShapes Go.WideShapes Go.ChangeAt Go.RowKit

set_option maxHeartbeats 2000000 in
set_option maxRecDepth 100000 in
theorem change5 (l : Ln) (n : Int) (b o : Nat) (d : List Nat) (w : World) (h : LnCells w b o l d) (hf : ∀ x, w.frozen? ⟨b, x, none⟩ = false) (hbd : b ∉ d) (g0 : 0 ≤ l.gone) (g1 : l.gone ≤ 1000000) (hl : l.way.length ≤ 100) (hd : l.gone ≤ n) :
    Calls Tryd.prog 72 #[.pointer (some ⟨b, o, none⟩), .iface 153 (.agg #[.int .i64 n])] w fun e w' => e = .returned (.tuple #[]) ∧ (∃ d', LnCells w' b o (settleD { l with drop := n }) d' ∧ ∀ x ∈ d', x ∈ d) ∧ LnTurn b o w w' := by
  have hb : b < w.heap.size := by obtain ⟨_, _, _, _, hc, _⟩ := h; exact World.block_lt_of_cell? w _ hc
  obtain ⟨vw, vg, p0, p1, p2, p3, hL⟩ := h.at
  obtain ⟨_, _, d1, d2, hv, hdd, hiw, hgw⟩ := hL
  obtain ⟨aw, nw, cw, rfl⟩ := hiw.slice
  obtain ⟨ag, ng, cg, rfl⟩ := hgw.slice
  simp only [Value.agg.injEq, Array.mk.injEq, List.cons.injEq, and_true, true_and] at hv
  obtain ⟨rfl, rfl⟩ := hv
  have hA0 : ∀ x : World, (Instr.typeAssert (.iface 153 (.agg #[.int .i64 n])) 119 146 true).run Tryd.prog x = .ok (.tuple #[.agg #[.int .i64 0], .bool false]) x := fun _ => by kernel_rfl
  have hA1 : ∀ x : World, (Instr.typeAssert (.iface 153 (.agg #[.int .i64 n])) 119 148 true).run Tryd.prog x = .ok (.tuple #[.agg #[.int .i64 0], .bool false]) x := fun _ => by kernel_rfl
  have hA2 : ∀ x : World, (Instr.typeAssert (.iface 153 (.agg #[.int .i64 n])) 119 150 true).run Tryd.prog x = .ok (.tuple #[.agg #[.int .i64 0], .bool false]) x := fun _ => by kernel_rfl
  have hA3 : ∀ x : World, (Instr.typeAssert (.iface 153 (.agg #[.int .i64 n])) 119 152 true).run Tryd.prog x = .ok (.tuple #[.agg #[.int .i64 0], .bool false]) x := fun _ => by kernel_rfl
  have hA4 : ∀ x : World, (Instr.typeAssert (.iface 153 (.agg #[.int .i64 n])) 119 153 true).run Tryd.prog x = .ok (.tuple #[.agg #[.int .i64 n], .bool true]) x := fun _ => by kernel_rfl
  have f3 := hf (o + 3)
  go_enter_defers Tryd.func72, Tryd.ntmps72
  go_wp2_with fail
  have tS : LnTurn b o w (w.setCell ⟨b, o + 3, none⟩ (.int .i64 n)) := (LnTurn.set (r := 3) w _ (by omega))
  have sz : b < (w.setCell ⟨b, o + 3, none⟩ (.int .i64 n)).heap.size := Nat.lt_of_lt_of_le hb tS.size
  have kS : ∀ x, x ∈ d → (w.setCell ⟨b, o + 3, none⟩ (.int .i64 n)).heap[x]? = w.heap[x]? := fun x hx => tS.block x (h.lt x hx) (fun e => hbd (e ▸ hx))
  have fS : ∀ x, (w.setCell ⟨b, o + 3, none⟩ (.int .i64 n)).frozen? ⟨b, x, none⟩ = false := fun x => (tS.frozen x).trans (hf x)
  have q0 : (w.setCell ⟨b, o + 3, none⟩ (.int .i64 n)).cell? ⟨b, o, none⟩ = some (.int .i64 ({ l with drop := n } : Ln).gone) := (cell_set_ne (by omega)).trans p0
  have q1 : (w.setCell ⟨b, o + 3, none⟩ (.int .i64 n)).cell? ⟨b, o + 1, none⟩ = some _ := (cell_set_ne (by omega)).trans p1
  have q2 : (w.setCell ⟨b, o + 3, none⟩ (.int .i64 n)).cell? ⟨b, o + 2, none⟩ = some _ := (cell_set_ne (by omega)).trans p2
  have q3 : (w.setCell ⟨b, o + 3, none⟩ (.int .i64 n)).cell? ⟨b, o + 3, none⟩ = some (.int .i64 ({ l with drop := n } : Ln).drop) := World.cell?_setCell_same _ _ _ p3
  have hS : LnCells (w.setCell ⟨b, o + 3, none⟩ (.int .i64 n)) b o ({ l with drop := n } : Ln) (d1 ++ d2) := ⟨_, _, d1, d2, q0, q1, q2, q3, rfl, hiw.keep fun x hx => kS x (by rw [hdd]; exact List.mem_append_left _ hx), hgw.keep fun x hx => kS x (by rw [hdd]; exact List.mem_append_right _ hx)⟩
  clear q0 q1 q2 q3
  have bU : Below (w.setCell ⟨b, o + 3, none⟩ (.int .i64 n)).heap.size (w.setCell ⟨b, o + 3, none⟩ (.int .i64 n)) ((w.setCell ⟨b, o + 3, none⟩ (.int .i64 n)).alloc (.cells #[.int .i64 n] 153)) := (Below.refl _ _).alloc (Nat.le_refl _) _
  have tU : LnTurn b o w ((w.setCell ⟨b, o + 3, none⟩ (.int .i64 n)).alloc (.cells #[.int .i64 n] 153)) := tS.trans (LnTurn.of_below bU sz)
  have hU : LnCells ((w.setCell ⟨b, o + 3, none⟩ (.int .i64 n)).alloc (.cells #[.int .i64 n] 153)) b o ({ l with drop := n } : Ln) (d1 ++ d2) := hS.keep (bU.block _ sz) fun x hx => bU.block x (hS.lt x hx)
  have fU : ∀ x, ((w.setCell ⟨b, o + 3, none⟩ (.int .i64 n)).alloc (.cells #[.int .i64 n] 153)).frozen? ⟨b, x, none⟩ = false := fun x => ((bcell bU).2 _ _ sz).trans (fS x)
  clear tS kS fS hS
  generalize ((w.setCell ⟨b, o + 3, none⟩ (.int .i64 n)).alloc (.cells #[.int .i64 n] 153)) = U at *
  refine leaves_cons (f := 95) (args := #[.pointer (some ⟨b, o, none⟩)]) (by simp) (by simp [go_sem]) ?_
  refine (settle_d .returning ({ l with drop := n } : Ln) b o _ U hU fU (by rw [← hdd]; exact hbd) g0 g1 hl (Or.inr hd)).mono ?_
  rintro e u' w9 ⟨rfl, rfl, ⟨d9, hl9, hs9⟩, ht9⟩
  exact ⟨_, results_none rfl _ _ _, rfl, ⟨d9, hl9, fun x hx => by rw [hdd]; exact hs9 x hx⟩, tU.trans ht9⟩

theorem since_val {l : Ln} {n : Int} {gb go cg m : Nat} {v : Value} (h : SinceIs l n (some ⟨gb, go, none⟩) cg v) (hm : n - firstVer l = m) (hml : m < l.grs.length) : v = .slice (some ⟨gb, go + m * 2, none⟩) (l.grs.length - m) (cg - m) := by
  rcases h with ⟨h, _⟩ | ⟨m', b, o, h1, _, h3, h4⟩
  · exact absurd ⟨by omega, by omega⟩ h
  · obtain rfl : m' = m := by omega
    simp only [Option.some.injEq, Addr.mk.injEq, and_true] at h3
    obtain ⟨rfl, rfl⟩ := h3
    exact h4

set_option maxHeartbeats 2000000 in
set_option maxRecDepth 100000 in
theorem change3 (l : Ln) (n : Int) (b o : Nat) (d : List Nat) (w : World) (h : LnCells w b o l d) (hf : ∀ x, w.frozen? ⟨b, x, none⟩ = false) (hbd : b ∉ d) (g0 : 0 ≤ l.gone) (g1 : l.gone ≤ 1000000) (hl : l.way.length ≤ 100) (hG : GrsOk l) (m : Nat) (hm : n - firstVer l = m) (hml : m < l.grs.length) (hd : l.drop = -1 ∨ l.gone ≤ l.drop) :
    Calls Tryd.prog 72 #[.pointer (some ⟨b, o, none⟩), .iface 150 (.agg #[.int .i64 n])] w fun e w' => e = .returned (.tuple #[]) ∧ (∃ d', LnCells w' b o (settleD { l with grs := l.grs.drop m }) d' ∧ ∀ x ∈ d', x ∈ d) ∧ LnTurn b o w w' := by
  have hb : b < w.heap.size := by obtain ⟨_, _, _, _, hc, _⟩ := h; exact World.block_lt_of_cell? w _ hc
  obtain ⟨vw, vg, p0, p1, p2, p3, hL⟩ := h.at
  obtain ⟨_, _, d1, d2, hv, hdd, hiw, hgw⟩ := hL
  obtain ⟨aw, nw, cw, rfl⟩ := hiw.slice
  obtain ⟨ag, ng, cg, rfl⟩ := hgw.slice
  simp only [Value.agg.injEq, Array.mk.injEq, List.cons.injEq, and_true, true_and] at hv
  obtain ⟨rfl, rfl⟩ := hv
  have hA0 : ∀ x : World, (Instr.typeAssert (.iface 150 (.agg #[.int .i64 n])) 119 146 true).run Tryd.prog x = .ok (.tuple #[.agg #[.int .i64 0], .bool false]) x := fun _ => by kernel_rfl
  have hA1 : ∀ x : World, (Instr.typeAssert (.iface 150 (.agg #[.int .i64 n])) 119 148 true).run Tryd.prog x = .ok (.tuple #[.agg #[.int .i64 0], .bool false]) x := fun _ => by kernel_rfl
  have hA2 : ∀ x : World, (Instr.typeAssert (.iface 150 (.agg #[.int .i64 n])) 119 150 true).run Tryd.prog x = .ok (.tuple #[.agg #[.int .i64 n], .bool true]) x := fun _ => by kernel_rfl
  have f2 := hf (o + 2)
  have hng : ng = l.grs.length := by obtain ⟨a', c', hv, _⟩ := hgw; simp at hv; exact hv.2.1
  subst hng
  have hnw : nw = l.way.length := by obtain ⟨a', c', hv, _⟩ := hiw; simp at hv; exact hv.2.1
  subst hnw
  obtain ⟨_, _, hvv, hlc, hcm, hgg⟩ := id hgw
  simp only [Value.slice.injEq, true_and] at hvv
  obtain ⟨rfl, rfl⟩ := hvv
  rcases hgg with ⟨h00, _⟩ | ⟨gb, go, rfl, _, _, _⟩
  · omega
  have HG : Hid (GrsOk l) := hG
  have HM : Hid (n - firstVer l = m) := hm
  have HGW : Hid (GrsAt w (.slice (some ⟨gb, go, none⟩) l.grs.length cg) l.grs d2) := hgw
  have HIW : Hid (IntsAt w (.slice aw l.way.length cw) l.way d1) := hiw
  have HL0 : Hid (LnAt w (.agg #[.int .i64 l.gone, .slice aw l.way.length cw, .slice (some ⟨gb, go, none⟩) l.grs.length cg, .int .i64 l.drop]) l (d1 ++ d2)) := ⟨_, _, d1, d2, rfl, rfl, hiw, hgw⟩
  have bA : Below w.heap.size w (w.alloc (.cells #[.int .i64 n] 150)) := (Below.refl _ _).alloc (Nat.le_refl _) _
  have eH : BlkIs (w.alloc (.cells #[.int .i64 n] 150)) w.heap.size [.int .i64 n] 150 := BlkIs.new _ _ _
  clear hG hm
  go_enter_defers Tryd.func72, Tryd.ntmps72
  go_wp2_with fail
  have r0 := ((bcell bA).1 _ _ hb).trans p0
  have r1 := ((bcell bA).1 _ _ hb).trans p1
  have r2 := ((bcell bA).1 _ _ hb).trans p2
  have r3 := ((bcell bA).1 _ _ hb).trans p3
  have x0 := eH.cell 0
  simp only [List.getElem?_cons_zero] at x0
  have HLA : Hid (LnAt (w.alloc (.cells #[.int .i64 n] 150)).drew (.agg #[.int .i64 l.gone, .slice aw l.way.length cw, .slice (some ⟨gb, go, none⟩) l.grs.length cg, .int .i64 l.drop]) l (d1 ++ d2)) := HL0.out.below (bA.drew) HL0.out.lt
  have HTA : Hid (∀ W, Below (w.alloc (.cells #[.int .i64 n] 150)).drew.heap.size (w.alloc (.cells #[.int .i64 n] 150)).drew W → Below w.heap.size w W) := fun W hW => bA.drew.trans (hW.mono bA.size)
  generalize w.alloc (.cells #[.int .i64 n] 150) = A at *
  refine wp_region_noPanic ?_
  go_region_with (first
    | (go_at_call 96; refine (since_any l n _ (some ⟨gb, go, none⟩) cg (d1 ++ d2) _ ?_ HG.out).mono ?_; exact HLA.out; rintro _ w1 ⟨⟨v1, rfl, hv1⟩, hb1⟩; obtain rfl := since_val hv1 HM.out hml; have t1 := HTA.out _ hb1; have c2 := ((bcell t1).1 _ _ hb).trans p2; have f21 : w1.frozen? ⟨b, o + 2, none⟩ = false := ((bcell t1).2 _ _ hb).trans f2))
  all_goals (
    refine NoPanic.normal ?_
    go_wp2_with fail
    have tS : LnTurn b o w (w1.setCell ⟨b, o + 2, none⟩ (.slice (some ⟨gb, go + m * 2, none⟩) (l.grs.length - m) (cg - m))) := ((LnTurn.of_below t1 hb).trans (LnTurn.set (r := 2) w1 _ (by omega)))
    have sz : b < (w1.setCell ⟨b, o + 2, none⟩ (.slice (some ⟨gb, go + m * 2, none⟩) (l.grs.length - m) (cg - m))).heap.size := Nat.lt_of_lt_of_le hb tS.size
    have kS : ∀ x, x ∈ d → (w1.setCell ⟨b, o + 2, none⟩ (.slice (some ⟨gb, go + m * 2, none⟩) (l.grs.length - m) (cg - m))).heap[x]? = w.heap[x]? := fun x hx => tS.block x (h.lt x hx) (fun e => hbd (e ▸ hx))
    have fS : ∀ x, (w1.setCell ⟨b, o + 2, none⟩ (.slice (some ⟨gb, go + m * 2, none⟩) (l.grs.length - m) (cg - m))).frozen? ⟨b, x, none⟩ = false := fun x => (tS.frozen x).trans (hf x)
    have q0 : (w1.setCell ⟨b, o + 2, none⟩ (.slice (some ⟨gb, go + m * 2, none⟩) (l.grs.length - m) (cg - m))).cell? ⟨b, o, none⟩ = some (.int .i64 ({ l with grs := l.grs.drop m } : Ln).gone) := (cell_set_ne (by omega)).trans (((bcell t1).1 _ _ hb).trans p0)
    have q1 : (w1.setCell ⟨b, o + 2, none⟩ (.slice (some ⟨gb, go + m * 2, none⟩) (l.grs.length - m) (cg - m))).cell? ⟨b, o + 1, none⟩ = some _ := (cell_set_ne (by omega)).trans (((bcell t1).1 _ _ hb).trans p1)
    have q2 : (w1.setCell ⟨b, o + 2, none⟩ (.slice (some ⟨gb, go + m * 2, none⟩) (l.grs.length - m) (cg - m))).cell? ⟨b, o + 2, none⟩ = some _ := World.cell?_setCell_same _ _ _ c2
    have q3 : (w1.setCell ⟨b, o + 2, none⟩ (.slice (some ⟨gb, go + m * 2, none⟩) (l.grs.length - m) (cg - m))).cell? ⟨b, o + 3, none⟩ = some (.int .i64 ({ l with grs := l.grs.drop m } : Ln).drop) := (cell_set_ne (by omega)).trans (((bcell t1).1 _ _ hb).trans p3)
    have hS : LnCells (w1.setCell ⟨b, o + 2, none⟩ (.slice (some ⟨gb, go + m * 2, none⟩) (l.grs.length - m) (cg - m))) b o ({ l with grs := l.grs.drop m } : Ln) (d1 ++ d2) := ⟨_, _, d1, d2, q0, q1, q2, q3, rfl, HIW.out.keep fun x hx => kS x (by rw [hdd]; exact List.mem_append_left _ hx), (GrsAt.drop HGW.out hml).keep fun x hx => kS x (by rw [hdd]; exact List.mem_append_right _ hx)⟩
    clear q0 q1 q2 q3
    have tU := tS
    have hU := hS
    have fU := fS
    clear tS kS fS hS
    generalize (w1.setCell ⟨b, o + 2, none⟩ (.slice (some ⟨gb, go + m * 2, none⟩) (l.grs.length - m) (cg - m))) = U at *
    refine leaves_cons (f := 95) (args := #[.pointer (some ⟨b, o, none⟩)]) (by simp) (by simp [go_sem]) ?_
    refine (settle_d .returning ({ l with grs := l.grs.drop m } : Ln) b o _ U hU fU (by rw [← hdd]; exact hbd) g0 g1 hl hd).mono ?_
    rintro e u' w9 ⟨rfl, rfl, ⟨d9, hl9, hs9⟩, ht9⟩
    exact ⟨_, results_none rfl _ _ _, rfl, ⟨d9, hl9, fun x hx => by rw [hdd]; exact hs9 x hx⟩, tU.trans ht9⟩)

/-- What has turned of a line at ⟨b, o⟩ and of a row of its own. -/
structure LnGrow (b o : Nat) (g : Option Nat) (w w' : World) : Prop where
  os : w'.os = w.os
  tape : w'.tape = w.tape
  output : w'.output = w.output
  size : w.heap.size ≤ w'.heap.size
  block : ∀ k, k < w.heap.size → k ≠ b → some k ≠ g → w'.heap[k]? = w.heap[k]?
  cell : ∀ x, (x < o ∨ o + 4 ≤ x) → w'.cell? ⟨b, x, none⟩ = w.cell? ⟨b, x, none⟩
  frozen : ∀ x, w'.frozen? ⟨b, x, none⟩ = w.frozen? ⟨b, x, none⟩
theorem LnTurn.grow {b o : Nat} {w w' : World} (h : LnTurn b o w w') (g : Option Nat) : LnGrow b o g w w' := ⟨h.os, h.tape, h.output, h.size, fun k hk hn _ => h.block k hk hn, h.cell, h.frozen⟩
theorem LnGrow.turn {b o : Nat} {g : Option Nat} {w w1 w2 : World} (h : LnGrow b o g w w1) (t : LnTurn b o w1 w2) : LnGrow b o g w w2 :=
  ⟨t.os.trans h.os, t.tape.trans h.tape, t.output.trans h.output, Nat.le_trans h.size t.size, fun k hk hn hg => (t.block k (Nat.lt_of_lt_of_le hk h.size) hn).trans (h.block k hk hn hg), fun x hx => (t.cell x hx).trans (h.cell x hx), fun x => (t.frozen x).trans (h.frozen x)⟩
theorem LnGrow.of_grown {b o : Nat} {g : Option Nat} {w w' : World} (h : w.grownBy w' g) (hb : b < w.heap.size) (hg : some b ≠ g) : LnGrow b o g w w' :=
  ⟨h.os, h.tape, h.output, h.size, fun k hk _ hn => h.block k hk hn, fun _ _ => cell_keep (h.block b hb hg), fun x => World.frozen?_of_block (w := w) (a := ⟨b, x, none⟩) (h.block b hb hg)⟩
theorem LnTurn.grows {b o : Nat} {g : Option Nat} {w w1 w2 : World} (h : LnTurn b o w w1) (t : LnGrow b o g w1 w2) : LnGrow b o g w w2 :=
  ⟨t.os.trans h.os, t.tape.trans h.tape, t.output.trans h.output, Nat.le_trans h.size t.size, fun k hk hn hg => (t.block k (Nat.lt_of_lt_of_le hk h.size) hn hg).trans (h.block k hk hn), fun x hx => (t.cell x hx).trans (h.cell x hx), fun x => (t.frozen x).trans (h.frozen x)⟩

set_option maxHeartbeats 4000000 in
set_option maxRecDepth 100000 in
theorem change1 (l : Ln) (n : Int) (b o Bs cw : Nat) (aw : Option Addr) (vg : Value) (d2 : List Nat) (w : World) (p0 : w.cell? ⟨b, o, none⟩ = some (.int .i64 l.gone)) (p1 : w.cell? ⟨b, o + 1, none⟩ = some (.slice aw l.way.length cw)) (p2 : w.cell? ⟨b, o + 2, none⟩ = some vg) (p3 : w.cell? ⟨b, o + 3, none⟩ = some (.int .i64 l.drop))
    (hgw : GrsAt w vg l.grs d2) (hrow : w.ownsRow Bs 3 1 (.slice aw l.way.length cw) l.way.length (l.way.map fun x => Value.int .i64 x)) (hBs : Bs ≤ w.heap.size) (hf : ∀ x, w.frozen? ⟨b, x, none⟩ = false) (hbd : b ∉ d2) (hob : some b ≠ (Value.slice aw l.way.length cw).ownBlock) (hog : ∀ x ∈ d2, some x ≠ (Value.slice aw l.way.length cw).ownBlock) (g0 : 0 ≤ l.gone) (g1 : l.gone ≤ 1000000) (hl : l.way.length < 100) (hd : l.drop = -1) (hlo2 : ∀ x ∈ d2, Bs ≤ x) :
    Calls Tryd.prog 72 #[.pointer (some ⟨b, o, none⟩), .iface 146 (.agg #[.int .i64 n])] w fun e w' => e = .returned (.tuple #[]) ∧ (∃ d', LnCells w' b o (settleD { l with way := l.way ++ [n] }) d' ∧ ∀ x ∈ d', Bs ≤ x) ∧ LnGrow b o (Value.slice aw l.way.length cw).ownBlock w w' := by
  have hb : b < w.heap.size := World.block_lt_of_cell? w _ p0
  have hA0 : ∀ x : World, (Instr.typeAssert (.iface 146 (.agg #[.int .i64 n])) 119 146 true).run Tryd.prog x = .ok (.tuple #[.agg #[.int .i64 n], .bool true]) x := fun _ => by kernel_rfl
  obtain ⟨iW, hiW, hzW0, hzW1, hzW2⟩ := info_parts Tryd.infoInt
  obtain ⟨ag, ng, cg, rfl⟩ := hgw.slice
  have f1 := hf (o + 1)
  have bA : Below w.heap.size w (w.alloc (.cells #[.int .i64 n] 146)) := (Below.refl _ _).alloc (Nat.le_refl _) _
  have eH : BlkIs (w.alloc (.cells #[.int .i64 n] 146)) w.heap.size [.int .i64 n] 146 := BlkIs.new _ _ _
  have hRow := hrow.alloc (.cells #[.int .i64 n] 146)
  have HP : Hid (w.cell? ⟨b, o, none⟩ = some (.int .i64 l.gone) ∧ w.cell? ⟨b, o + 2, none⟩ = some (.slice ag ng cg) ∧ w.cell? ⟨b, o + 3, none⟩ = some (.int .i64 l.drop)) := ⟨p0, p2, p3⟩
  have HGW : Hid (GrsAt w (.slice ag ng cg) l.grs d2) := hgw
  have HOG : Hid (∀ x ∈ d2, some x ≠ (Value.slice aw l.way.length cw).ownBlock) := hog
  have HOB : Hid (some b ≠ (Value.slice aw l.way.length cw).ownBlock) := hob
  have HOL : Hid (∀ x, (Value.slice aw l.way.length cw).ownBlock = some x → x < w.heap.size) := fun x hx => (hrow.lt x hx).2
  clear hgw hog hob hrow
  go_enter_defers Tryd.func72, Tryd.ntmps72
  go_wp2_with fail
  have r1 := ((bcell bA).1 _ _ hb).trans p1
  have fr1 : (w.alloc (.cells #[.int .i64 n] 146)).frozen? ⟨b, o + 1, none⟩ = false := ((bcell bA).2 _ _ hb).trans f1
  have x0 := eH.cell 0
  simp only [List.getElem?_cons_zero] at x0
  have hAz : w.heap.size + 1 = (w.alloc (.cells #[.int .i64 n] 146)).heap.size := by simp
  clear p0 p1 p2 p3 f1
  have HA : Hid (Below w.heap.size w (w.alloc (.cells #[.int .i64 n] 146))) := bA
  have hAb : b < (w.alloc (.cells #[.int .i64 n] 146)).heap.size := by simp; omega
  have hAx : w.heap.size < (w.alloc (.cells #[.int .i64 n] 146)).heap.size := by simp
  have hBA : Bs ≤ (w.alloc (.cells #[.int .i64 n] 146)).heap.size := by simp; omega
  clear bA eH
  generalize (w.alloc (.cells #[.int .i64 n] 146)) = A at *
  have hca : (A.alloc (.cells #[.int .i64 n] 3)).drew.cell? ⟨b, o + 1, none⟩ = some (.slice aw l.way.length cw) := (World.cell?_of_block (a := ⟨b, o + 1, none⟩) (Below.heap_alloc _ _ _ hAb)).trans r1
  have hfa : (A.alloc (.cells #[.int .i64 n] 3)).drew.frozen? ⟨b, o + 1, none⟩ = false := (World.frozen?_of_block (a := ⟨b, o + 1, none⟩) (Below.heap_alloc _ _ _ hAb)).trans fr1
  refine wp_region_noPanic ?_
  go_region_law
    ((refine step_append_lies _ (by rfl) _ _ _ (by rfl) Bs 3 iW _ 1 8 Tryd.underlying35 hiW hzW0 hzW1 hzW2 rfl (by omega) (.slice aw l.way.length cw) l.way.length (l.way.map fun x => Value.int .i64 x) (by rfl) (by first | exact hRow.alloc _ | exact (hRow.alloc _).drew)
        ⟨A.heap.size, 0, none⟩ 1 1 [.int .i64 n] (by rfl) (by rfl) (World.news_of_block (cs := #[.int .i64 n]) (t := 3) (fr := (0, 0)) (heap_alloc_new A _)) (by simp [Value.oneCell'])
        (by omega) (by unfold maxLen; omega) (by omega) (by simp; omega) (A.heap.size + 1) (by simp) ?_; intro gg cap2 w5 hown1 hgrow hat hlt; have k5 : w5.heap[b]? = A.heap[b]? := (hgrow.block b (by simp; omega) HOB.out).trans (Below.heap_alloc _ _ _ hAb); have f5 : w5.frozen? ⟨b, o + 1, none⟩ = false := (World.frozen?_of_block (a := ⟨b, o + 1, none⟩) k5).trans fr1; have c5 : w5.cell? ⟨b, o + 1, none⟩ = some (.slice aw l.way.length cw) := (cell_keep k5).trans r1))
  all_goals (
    refine NoPanic.normal ?_
    have G5 : A.grownBy w5 (Value.slice aw l.way.length cw).ownBlock := ⟨hgrow.os, hgrow.tape, hgrow.output, Nat.le_trans (by simp) hgrow.size, fun q hq hne => (hgrow.block q (by simp; omega) hne).trans (Below.heap_alloc _ _ _ hq)⟩
    have hgb : gg ≠ b := by
      rintro rfl
      rcases hat with hat | hat
      · exact HOB.out hat.symm
      · omega
    have hi5 := (own_ints (xs := l.way ++ [n]) (v := .slice (some ⟨gg, 0, none⟩) (l.way.length + 1) cap2) (T := 3) (B := Bs) (w := w5) (by simpa using hown1) (by simp)).1
    have g5 : LnGrow b o (Value.slice aw l.way.length cw).ownBlock w w5 := (LnTurn.of_below HA.out hb).grows (LnGrow.of_grown G5 hAb HOB.out)
    have hg5 : GrsAt w5 (.slice ag ng cg) l.grs d2 := HGW.out.keep fun x hx => g5.block x (HGW.out.lt x hx) (fun e => hbd (e ▸ hx)) (HOG.out x hx)
    have k5 : w5.heap[b]? = w.heap[b]? := (G5.block b hAb HOB.out).trans (HA.out.block b hb)
    obtain ⟨p0, p2, p3⟩ := HP.out
    have hS : LnCells (w5.setCell ⟨b, o + 1, none⟩ (.slice (some ⟨gg, 0, none⟩) (l.way.length + 1) cap2)) b o ({ l with way := l.way ++ [n] } : Ln) (ownBs (.slice (some ⟨gg, 0, none⟩) (l.way.length + 1) cap2) (l.way ++ [n]).length ++ d2) := ⟨_, _, _, d2, (cell_set_ne (by omega)).trans ((cell_keep k5).trans p0), World.cell?_setCell_same _ _ _ c5, (cell_set_ne (by omega)).trans ((cell_keep k5).trans p2), (cell_set_ne (by omega)).trans ((cell_keep k5).trans p3), rfl,
      hi5.keep fun x hx => Below.heap_setCell _ _ _ _ (by have : x = gg := by simpa [ownBs] using hx
                                                          rw [this]; exact hgb), hg5.keep fun x hx => Below.heap_setCell _ _ _ _ (show x ≠ b from fun e => hbd (e ▸ hx))⟩
    have hbn : b ∉ ownBs (.slice (some ⟨gg, 0, none⟩) (l.way.length + 1) cap2) (l.way ++ [n]).length ++ d2 := fun hx => by
      rcases List.mem_append.1 hx with hx | hx
      · have : b = gg := by simpa [ownBs] using hx
        exact hgb this.symm
      · exact hbd hx
    have gS : LnGrow b o (Value.slice aw l.way.length cw).ownBlock w (w5.setCell ⟨b, o + 1, none⟩ (.slice (some ⟨gg, 0, none⟩) (l.way.length + 1) cap2)) := g5.turn (LnTurn.set (r := 1) w5 _ (by omega))
    have fS : ∀ x, (w5.setCell ⟨b, o + 1, none⟩ (.slice (some ⟨gg, 0, none⟩) (l.way.length + 1) cap2)).frozen? ⟨b, x, none⟩ = false := fun x => (gS.frozen x).trans (hf x)
    have hgB : Bs ≤ gg := (hown1.lt gg rfl).1
    clear hown1 hgrow hat hi5 hg5 g5 G5 p0 p2 p3 c5 f5 hca hfa
    go_wp2_with fail
    generalize w5.setCell ⟨b, o + 1, none⟩ (.slice (some ⟨gg, 0, none⟩) (l.way.length + 1) cap2) = U at *
    refine leaves_cons (f := 95) (args := #[.pointer (some ⟨b, o, none⟩)]) (by simp) (by simp [go_sem]) ?_
    refine (settle_d .returning ({ l with way := l.way ++ [n] } : Ln) b o _ U hS fS hbn g0 g1 (by show (l.way ++ [n]).length ≤ 100; simp; omega) (Or.inl hd)).mono ?_
    rintro e u' w9 ⟨rfl, rfl, ⟨d9, hl9, hs9⟩, ht9⟩
    exact ⟨_, results_none rfl _ _ _, rfl, ⟨d9, hl9, fun x hx => by
      rcases List.mem_append.1 (hs9 x hx) with hx | hx
      · rw [show x = gg by simpa [ownBs] using hx]; exact hgB
      · exact hlo2 x hx⟩, gS.turn ht9⟩)

end Go.Proofs.YtnaaheddhgpnoaaDoor
