import Derived.Test.YtnaaheddhgpnoabRows
import Derived.Test.YtnaaheddhgpnoabBegD
import Derived.Deep.Slices
import Derived.Deep.SlicePairs
import Derived.Lib.SmallJoins
namespace Go.Proofs.Ytnaaheddhgpnoab
open Go.ChangeShapes Go.WideShapes Go.ChangeAt Go.RowKit Go.Deep Go.Joins

section
variable {H : Type} {enc : TypeId × Value → H} {w : World} {held : Bool}

theorem add_none {a : Addr} {i : Nat} {v : Value} (h : w.cell? (a.add i) = some v) (hs : a.spot = none) : w.cell? ⟨a.block, a.off + i, none⟩ = some v := by
  obtain ⟨b, o, s⟩ := a
  simp only at hs
  subst hs
  rw [Addr.add_lit] at h
  exact h

set_option maxRecDepth 100000 in
theorem read_ints {fuel : Nat} {v : Value} {y : DataW H × List MemPlace} (h : DataW.trod enc Try.prog w 0 (fun _ => true) held fuel 22 [v] = some y) : ∃ xs bs, IntsAt w v xs bs := by
  rcases open_slice1 Try.underlying22 (by kernel_rfl) h with ⟨hcs, _⟩ | ⟨a, len, cap, m, n, V, D, Pl, hcs, _, hlc, hcm, hm, _, hx⟩
  · simp only [List.cons.injEq, and_true] at hcs
    subst hcs
    exact ⟨[], [], intsAt_nil _⟩
  · simp only [List.cons.injEq, and_true] at hcs
    subst hcs
    simp only [if_true] at hm
    subst hm
    have hint : ∀ i, i < len → V i = .int .i64 (intOf (V i)) := fun i hi => by
      obtain ⟨q, hq, _, _⟩ := DataW.trod_int Try.underlying3 (hx i (by omega)).2
      simp only [List.cons.injEq, and_true] at hq
      rw [hq]; rfl
    refine ⟨(List.range len).map fun i => intOf (V i), if len = 0 then [] else [a.block], a, m, by simp, by simpa using hlc, hcm, ?_⟩
    by_cases e : len = 0
    · exact Or.inl ⟨by simpa using e, by rw [if_pos e]⟩
    · have h0 := (hx 0 (by omega)).1
      have hs : a.spot = none := by
        have := World.cell?_spot h0
        simpa [Addr.add] using this
      refine Or.inr ⟨a.block, a.off, by obtain ⟨b, o, s⟩ := a; simp only at hs; rw [hs], by rw [if_neg e], ?_, fun i hi => ?_⟩
      · have := World.block_lt_of_cell? w _ (add_none h0 hs)
        exact this
      · have hi' : i < len := by simpa using hi
        rw [add_none (hx i (by omega)).1 hs, hint i hi']
        simp [hi', intOf]

set_option maxRecDepth 100000 in
theorem read_grs {fuel : Nat} {v : Value} {y : DataW H × List MemPlace} (h : DataW.trod enc Try.prog w 0 (fun _ => true) held fuel 89 [v] = some y) : ∃ xs bs, GrsAt w v xs bs := by
  rcases open_slice_pairs Try.underlying89 Try.underlying103 (by kernel_rfl) rfl rfl (by kernel_rfl) (by kernel_rfl) h with ⟨hcs, _⟩ | ⟨a, len, cap, m, n, V0, V1, D0, D1, P0, P1, hcs, _, hlc, hcm, hm, _, hx⟩
  · simp only [List.cons.injEq, and_true] at hcs
    subst hcs
    exact ⟨[], [], grsAt_nil _⟩
  · simp only [List.cons.injEq, and_true] at hcs
    subst hcs
    simp only [if_true] at hm
    subst hm
    have hint : ∀ i, i < len → V0 i = .int .i64 (intOf (V0 i)) ∧ V1 i = .int .i64 (intOf (V1 i)) := fun i hi => by
      obtain ⟨q, hq, _, _⟩ := DataW.trod_int Try.underlying3 (hx i (by omega)).2.2.1
      obtain ⟨q', hq', _, _⟩ := DataW.trod_int Try.underlying3 (hx i (by omega)).2.2.2
      simp only [List.cons.injEq, and_true] at hq hq'
      rw [hq, hq']; exact ⟨rfl, rfl⟩
    refine ⟨(List.range len).map fun i => ⟨intOf (V0 i), intOf (V1 i)⟩, if len = 0 then [] else [a.block], a, m, by simp, by simpa using hlc, hcm, ?_⟩
    by_cases e : len = 0
    · exact Or.inl ⟨by simpa using e, by rw [if_pos e]⟩
    · have h0 := (hx 0 (by omega)).1
      have hs : a.spot = none := by
        have := World.cell?_spot h0
        simpa [Addr.add] using this
      refine Or.inr ⟨a.block, a.off, by obtain ⟨b, o, s⟩ := a; simp only at hs; rw [hs], by rw [if_neg e], ?_, fun i hi => ?_⟩
      · have := World.block_lt_of_cell? w _ (add_none h0 hs)
        exact this
      · have hi' : i < len := by simpa using hi
        rw [add_none (hx i (by omega)).1 hs, Nat.add_assoc, add_none (hx i (by omega)).2.1 hs, (hint i hi').1, (hint i hi').2]
        simp [hi', intOf]

set_option maxRecDepth 100000 in
theorem read_ln {fuel : Nat} {b o : Nat} {cs : List Value} {y : DataW H × List MemPlace} (h : DataW.trod enc Try.prog w 0 (fun _ => true) held fuel 91 cs = some y) (hc : ∀ i, i < 4 → w.cell? ⟨b, o + i, none⟩ = cs[i]?) : ∃ x : Ln × List Nat, LnCells w b o x.1 x.2 := by
  obtain ⟨y0, y1, y2, y3, n, _, hl, h0, h1, h2, h3⟩ := trod_struct4 Try.underlying91 h
  rw [show Try.prog.cellsOf 91 = 4 by kernel_rfl] at hl
  match cs, hl with
  | [c0, c1, c2, c3], _ =>
    simp only [show Try.prog.cellsOf 3 = 1 by kernel_rfl, show Try.prog.cellsOf 22 = 1 by kernel_rfl, show Try.prog.cellsOf 89 = 1 by kernel_rfl, List.drop_zero, List.drop_succ_cons, List.take_succ_cons, List.take_zero] at h0 h1 h2 h3
    obtain ⟨q0, e0, _, _⟩ := DataW.trod_int Try.underlying3 h0
    obtain ⟨q3, e3, _, _⟩ := DataW.trod_int Try.underlying3 h3
    simp only [List.cons.injEq, and_true] at e0 e3
    subst e0 e3
    obtain ⟨xs, b1, hi⟩ := read_ints h1
    obtain ⟨gs, b2, hg⟩ := read_grs h2
    exact ⟨(⟨q0, xs, gs, q3⟩, b1 ++ b2), c1, c2, b1, b2, hc 0 (by omega), hc 1 (by omega), hc 2 (by omega), hc 3 (by omega), rfl, hi, hg⟩

set_option maxRecDepth 100000 in
theorem read_lns {fuel : Nat} {v : Value} {y : DataW H × List MemPlace} (h : DataW.trod enc Try.prog w 0 (fun _ => true) held fuel 36 [v] = some y) : ∃ xs bs, LnsAt w v xs bs := by
  rcases open_slice Try.underlying36 h with ⟨hcs, _⟩ | ⟨a, len, cap, m, n, D, Pl, hcs, _, hlc, hcm, hm, _, hx⟩
  · simp only [List.cons.injEq, and_true] at hcs
    subst hcs
    exact ⟨[], [], lnsAt_nil _⟩
  · simp only [List.cons.injEq, and_true] at hcs
    subst hcs
    simp only [if_true] at hm
    subst hm
    rw [show Try.prog.cellsOf 91 = 4 by kernel_rfl] at hx
    by_cases e : len = 0
    · subst e
      exact ⟨[], [], a, m, rfl, Nat.zero_le _, hcm, Or.inl ⟨rfl, rfl⟩⟩
    · obtain ⟨cs0, h00, _⟩ := hx 0 (by omega)
      obtain ⟨_, hl0, hc0⟩ := World.cells?_some h00
      have hs : a.spot = none := by
        have e1 := hc0 0 (by omega)
        match cs0, hl0 with
        | [c0, c1, c2, c3], _ =>
          have := World.cell?_spot e1
          simpa [Addr.add] using this
      have each : ∀ i, i < len → ∃ x : Ln × List Nat, LnCells w a.block (a.off + i * 4) x.1 x.2 := fun i hi => by
        obtain ⟨cs, hcs, ht⟩ := hx i (by omega)
        obtain ⟨_, _, hcell⟩ := World.cells?_some hcs
        refine read_ln ht fun r hr => ?_
        rw [← hcell r hr]
        obtain ⟨b, o, s⟩ := a
        simp only at hs
        subst hs
        rw [Addr.add_lit, Addr.add_lit]
      have inh : Inhabited (Ln × List Nat) := ⟨(ln0, [])⟩
      obtain ⟨F, hF⟩ := choose_lt (p := fun i (x : Ln × List Nat) => LnCells w a.block (a.off + i * 4) x.1 x.2) each
      refine ⟨(List.range len).map fun i => (F i).1, a.block :: (List.range len).flatMap fun i => (F i).2, a, m, by simp, by simpa using hlc, hcm, Or.inr ⟨a.block, a.off, fun i => (F i).2, by obtain ⟨b, o, s⟩ := a; simp only at hs; rw [hs], by simp, ?_, fun i hi => ?_⟩⟩
      · obtain ⟨_, _, _, _, hc, _⟩ := hF 0 (by omega)
        exact World.block_lt_of_cell? w ⟨a.block, a.off + 0 * 4, none⟩ hc
      · have hi' : i < len := by simpa using hi
        have := hF i hi'
        simpa [hi'] using this

set_option maxRecDepth 100000 in
theorem read_book {r : Reach} {b0 : Nat} {v : Value} {d : DataW H} {p : List MemPlace} (hv : Value.okWide Try.prog w r b0 38 v) (h : DataW.Trod enc Try.prog w 0 (fun _ => true) held 38 v d p) : ∃ k bs, BkAt w v k bs := by
  obtain ⟨v0, v1, v2, y0, y1, y2, n, rfl, _, _, h0, h1, h2⟩ := open_agg3 Try.underlying38 (by kernel_rfl) (by kernel_rfl) hv h
  obtain ⟨q0, e0, _⟩ := DataW.trod_bool Try.underlying4 h0
  obtain ⟨q1, e1, _, _⟩ := DataW.trod_int Try.underlying3 h1
  simp only [List.cons.injEq, and_true] at e0 e1
  subst e0 e1
  obtain ⟨xs, bs, hl⟩ := read_lns h2
  exact ⟨⟨q0, q1, xs⟩, bs, v2, rfl, hl⟩

end
end Go.Proofs.Ytnaaheddhgpnoab
