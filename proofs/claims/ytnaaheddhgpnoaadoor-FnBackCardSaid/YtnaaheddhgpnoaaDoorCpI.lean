/-
  A BOOK THAT IS COPIED (impl's copied): its lines in a row of their own, each list a row of its own or nil.
-/
import Derived.Test.YtnaaheddhgpnoaaDoorClone
import Derived.Deep.Slices
import Derived.Deep.RegionHeld3
namespace Go.Proofs.YtnaaheddhgpnoaaDoor
open Go.ChangeShapes Go.WideShapes Go.ChangeAt Go.RowKit

def lnRow (L : Nat → Ln) (VW VG : Nat → Value) (n : Nat) : List Value := (List.range n).flatMap fun j => lnVals (L j) (VW j) (VG j)
theorem lnRow_at (L : Nat → Ln) (VW VG : Nat → Value) (n : Nat) : (lnRow L VW VG n).length = n * 4 ∧ ∀ i r, i < n → r < 4 → (lnRow L VW VG n)[i * 4 + r]? = (lnVals (L i) (VW i) (VG i))[r]? := flat4 _ (fun _ => rfl) n

theorem lns_src {w : World} {v : Value} {ls : List Ln} {bs : List Nat} (h : LnsAt w v ls bs) (hn : 0 < ls.length) : ∃ (ad : Addr) (c : Nat) (VW VG : Nat → Value) (D1 D2 : Nat → List Nat), v = .slice (some ad) ls.length c ∧
    (∀ q u, (lnRow (lnOf ls) VW VG ls.length)[q]? = some u → w.cell? (ad.add q) = some u) ∧ ∀ j, j < ls.length → IntsAt w (VW j) (lnOf ls j).way (D1 j) ∧ GrsAt w (VG j) (lnOf ls j).grs (D2 j) ∧ (∀ x ∈ D1 j, x ∈ bs) ∧ ∀ x ∈ D2 j, x ∈ bs := by
  obtain ⟨a, c, rfl, _, _, h⟩ := h
  rcases h with ⟨h0, _⟩ | ⟨b, o, D, rfl, hbs, hb, hc⟩
  · omega
  have inh : Inhabited (Value × Value × List Nat × List Nat) := ⟨(.slice none 0 0, .slice none 0 0, [], [])⟩
  obtain ⟨F, hF⟩ := Deep.choose_lt (n := ls.length) (p := fun j (x : Value × Value × List Nat × List Nat) => w.cell? ⟨b, o + j * 4, none⟩ = some (.int .i64 (lnOf ls j).gone) ∧ w.cell? ⟨b, o + j * 4 + 1, none⟩ = some x.1 ∧ w.cell? ⟨b, o + j * 4 + 2, none⟩ = some x.2.1 ∧ w.cell? ⟨b, o + j * 4 + 3, none⟩ = some (.int .i64 (lnOf ls j).drop) ∧ IntsAt w x.1 (lnOf ls j).way x.2.2.1 ∧ GrsAt w x.2.1 (lnOf ls j).grs x.2.2.2 ∧ (∀ y ∈ x.2.2.1, y ∈ bs) ∧ ∀ y ∈ x.2.2.2, y ∈ bs) (fun j hj => by
    obtain ⟨vw, vg, b1, b2, h0, h1, h2, h3, hD, hw, hg⟩ := hc j hj
    have hin : ∀ y ∈ D j, y ∈ bs := fun y hy => by rw [hbs]; exact List.mem_cons_of_mem _ (List.mem_flatMap.2 ⟨j, List.mem_range.2 hj, hy⟩)
    rw [hD] at hin
    exact ⟨(vw, vg, b1, b2), h0, h1, h2, h3, hw, hg, fun y hy => hin y (List.mem_append_left _ hy), fun y hy => hin y (List.mem_append_right _ hy)⟩)
  refine ⟨⟨b, o, none⟩, c, fun j => (F j).1, fun j => (F j).2.1, fun j => (F j).2.2.1, fun j => (F j).2.2.2, rfl, fun q u hq => ?_, fun j hj => (hF j hj).2.2.2.2⟩
  obtain ⟨hl, hat⟩ := lnRow_at (lnOf ls) (fun j => (F j).1) (fun j => (F j).2.1) ls.length
  have hlt : q < ls.length * 4 := by rw [← hl]; exact (List.getElem?_eq_some_iff.1 hq).1
  have hj : q / 4 < ls.length := by omega
  have hr : q % 4 < 4 := Nat.mod_lt _ (by omega)
  have e : q = q / 4 * 4 + q % 4 := by omega
  rw [e, hat _ _ hj hr] at hq
  rw [Addr.add_lit, e, show o + (q / 4 * 4 + q % 4) = o + q / 4 * 4 + q % 4 by omega]
  obtain ⟨f0, f1, f2, f3, _⟩ := hF (q / 4) hj
  have : q % 4 = 0 ∨ q % 4 = 1 ∨ q % 4 = 2 ∨ q % 4 = 3 := by omega
  rcases this with h | h | h | h <;> rw [h] at hq ⊢ <;> simp only [lnVals, List.getElem?_cons_zero, List.getElem?_cons_succ, Option.some.injEq] at hq <;> subst hq
  · simpa using f0
  · exact f1
  · exact f2
  · exact f3

set_option maxHeartbeats 1000000 in
set_option maxRecDepth 100000 in
theorem cloneLns_any (ls : List Ln) (v : Value) (bs : List Nat) (w : World) (h : LnsAt w v ls bs) (hn0 : 0 < ls.length) (hn : ls.length ≤ 1048576) :
    Calls Tryd.prog 75 #[v] w fun e w' => ∃ (g cap : Nat) (VW VG : Nat → Value) (D1 D2 : Nat → List Nat), e = .returned (.slice (some ⟨g, 0, none⟩) ls.length cap) ∧ w'.ownsRow w.heap.size 38 4 (.slice (some ⟨g, 0, none⟩) ls.length cap) ls.length (lnRow (lnOf ls) VW VG ls.length) ∧ Below w.heap.size w w' ∧ ∀ j, j < ls.length → IntsAt w (VW j) (lnOf ls j).way (D1 j) ∧ GrsAt w (VG j) (lnOf ls j).grs (D2 j) ∧ (∀ x ∈ D1 j, x ∈ bs) ∧ ∀ x ∈ D2 j, x ∈ bs := by
  obtain ⟨iL, hiL, hzL0, hzL1, hzL2⟩ := info_parts Tryd.infoLn
  obtain ⟨ad, cw, VW, VG, D1, D2, rfl, hsw, hrest⟩ := lns_src h hn0
  have HR : Hid (∀ j, j < ls.length → IntsAt w (VW j) (lnOf ls j).way (D1 j) ∧ GrsAt w (VG j) (lnOf ls j).grs (D2 j) ∧ (∀ x ∈ D1 j, x ∈ bs) ∧ ∀ x ∈ D2 j, x ∈ bs) := hrest
  have h1c : ∀ u ∈ lnRow (lnOf ls) VW VG ls.length, u.oneCell' = true := fun u hu => by
    obtain ⟨j, hj, hm⟩ := List.mem_flatMap.1 hu
    have hj' := List.mem_range.1 hj
    obtain ⟨a1, n1, c1, e1⟩ := (hrest j hj').1.slice
    obtain ⟨a2, n2, c2, e2⟩ := (hrest j hj').2.1.slice
    rw [e1, e2] at hm
    exact lnVals_one _ _ _ _ _ _ _ u hm
  have hlen := (lnRow_at (lnOf ls) VW VG ls.length).1
  have HS : Hid (∀ q u, (lnRow (lnOf ls) VW VG ls.length)[q]? = some u → w.cell? (ad.add q) = some u) := hsw
  have H1 : Hid (∀ u ∈ lnRow (lnOf ls) VW VG ls.length, u.oneCell' = true) := h1c
  have HLen : Hid ((lnRow (lnOf ls) VW VG ls.length).length = ls.length * 4) := hlen
  have hq : ∀ (a : Option Addr) (n c : Nat) (x : World), (binOp .eql 30 (.slice a n c) (.slice none 0 0)).run Tryd.prog x = .ok (.bool a.isNone) x := fun a n c x => Lib.run_eql_slice_nil x _ _ a n c 0 0 Tryd.underlying30
  clear h hsw hrest h1c hlen
  generalize hre : lnRow (lnOf ls) VW VG ls.length = row at *
  have HRE : Hid (lnRow (lnOf ls) VW VG ls.length = row) := hre
  clear hre
  go_enter Tryd.func75, Tryd.ntmps75
  go_wp2_with (first
    | (at_builtin; refine wpList_append_copy _ rfl _ _ 30 rfl w.heap.size 38 iL _ 4 64 Tryd.underlying30 hiL hzL0 hzL1 hzL2 rfl (by decide) _ rfl (BlkIs.new w [] _) (by omega) (some ad) ls.length cw row rfl (fun e => by cases e) HLen.out (fun ad' e q u hu => by cases e; exact src_keep (HS.out q u hu) ((Below.refl _ _).alloc (Nat.le_refl _) _)) H1.out (by unfold maxLen; omega) (by omega) (by simp) ?_
       intro v1 w1 hown1 hgrow1 hne1
       obtain ⟨g1, cap1, hv1, _⟩ := own_facts hown1 hne1
       subst hv1
       have T1 : Below w.heap.size w w1 := ((Below.refl _ _).alloc (Nat.le_refl _) _).trans (grew_below hgrow1 (by omega) (by simp))))
  exact bodyPost_ret (v := .slice (some ⟨g1, 0, none⟩) ls.length cap1) (by simp [results, Tryd.results75, go_sem]) rfl ⟨g1, cap1, VW, VG, D1, D2, rfl, by rw [HRE.out]; exact hown1, T1, HR.out⟩

end Go.Proofs.YtnaaheddhgpnoaaDoor
