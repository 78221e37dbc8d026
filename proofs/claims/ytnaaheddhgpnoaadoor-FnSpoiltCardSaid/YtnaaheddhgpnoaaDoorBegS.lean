/-
  spec.Begin once more: its lines are new and may be written.
-/
import Derived.Test.YtnaaheddhgpnoaaDoorBegin
namespace Go.Proofs.YtnaaheddhgpnoaaDoor
open Go.ChangeShapes Go.WideShapes Go.ChangeAt Go.RowKit

theorem sp_end2 {wr : World} {B T TG k : Nat} {vl : Value} {G : Nat → Nat} (h : SpInv wr B T TG vl k G) (hk : k ≤ 20) : ∃ bs, LnsAt wr vl (List.replicate k lnB) bs ∧ (∀ b ∈ bs, B ≤ b) ∧ Free wr bs := by
  have fz : ∀ {b : Nat} {c : Array Value} {t : TypeId}, wr.heap[b]? = some (.cells c t (0, 0)) → ∀ o, wr.frozen? ⟨b, o, none⟩ = false := fun hb o => by
    unfold World.frozen?
    rw [hb]
    simp
  rcases h.own.2 with ⟨rfl, rfl⟩ | ⟨b, cap, cur, rfl, hB, hb, hkc, hcm, _, _⟩
  · exact ⟨[], lnsAt_nil _, fun b hb => by simp at hb, fun b hb => by simp at hb⟩
  · by_cases hk0 : k = 0
    · subst hk0
      exact ⟨[], ⟨_, cap, rfl, hkc, hcm, Or.inl ⟨rfl, rfl⟩⟩, fun b hb => by simp at hb, fun b hb => by simp at hb⟩
    refine ⟨b :: (List.range k).flatMap fun j => [G j], ⟨_, cap, by rw [List.length_replicate], by rw [List.length_replicate]; exact hkc, hcm, Or.inr ⟨b, 0, fun j => [G j], rfl, by rw [List.length_replicate], (Array.getElem?_eq_some_iff.1 hb).1, fun i hi => ?_⟩⟩, fun x hx => ?_, fun x hx => ?_⟩
    · rw [List.length_replicate] at hi
      have hc := h.own.cells (g := b) rfl
      have h4 := (flat4 (fun j => lnCellsB (G j)) (fun _ => rfl) k).2 i
      rw [List.getElem?_replicate, if_pos hi]
      have hcell : ∀ r u, r < 4 → (lnCellsB (G i))[r]? = some u → wr.cell? ⟨b, 0 + i * 4 + r, none⟩ = some u := fun r u hr hu => by
        have := hc (i * 4 + r) u (by rw [h4 r hi hr]; exact hu)
        rw [Addr.add_lit] at this
        rw [Nat.add_assoc]; exact this
      obtain ⟨_, hgb⟩ := h.gr i hi
      refine ⟨_, _, [], [G i], hcell 0 _ (by omega) rfl, hcell 1 _ (by omega) rfl, hcell 2 _ (by omega) rfl, hcell 3 _ (by omega) rfl, rfl, intsAt_nil _, ?_⟩
      refine ⟨_, 1, rfl, Nat.le_refl _, by simp [maxLen], Or.inr ⟨_, 0, rfl, rfl, (Array.getElem?_eq_some_iff.1 hgb).1, fun m hm => ?_⟩⟩
      have : m = 0 := by simp [lnB] at hm; omega
      subst this
      unfold World.cell?
      simp only [hgb]
      exact ⟨rfl, rfl⟩
    · rcases List.mem_cons.1 hx with rfl | hx
      · exact hB
      · obtain ⟨j, hj, hx⟩ := List.mem_flatMap.1 hx
        have : x = G j := by simpa using hx
        subst this
        exact (h.gr j (List.mem_range.1 hj)).1
    · rcases List.mem_cons.1 hx with rfl | hx
      · exact fz hb
      · obtain ⟨j, hj, hx⟩ := List.mem_flatMap.1 hx
        have : x = G j := by simpa using hx
        subst this
        exact fz (h.gr j (List.mem_range.1 hj)).2

set_option maxHeartbeats 400000 in
theorem specBegin_new (s t : Int) (w : World) (hs1 : 1 ≤ s) (hs2 : s ≤ 200) (ht1 : 0 ≤ t) (ht2 : t ≤ 20) :
    Calls Tryd.prog 35 #[.int .i64 s, .int .i64 t] w fun e w' => ∃ v bs, e = .returned v ∧ BkAt w' v (begD s t) bs ∧ (∀ b ∈ bs, w.heap.size < b) ∧ Free w' bs ∧ Below w.heap.size w w' := by
  obtain ⟨n, rfl⟩ := Int.eq_ofNat_of_zero_le ht1
  obtain ⟨i, hi, hz0, hz1, hz2⟩ := info_parts Tryd.infoLine
  go_enter Tryd.func35, Tryd.ntmps35
  go_wp2_with fail
  refine (l1in_yes s 1 200 _ hs1 hs2).mono ?_
  rintro e w' ⟨rfl, rfl⟩
  go_wp2_with fail
  refine (l1in_yes n 0 20 _ ht1 ht2).mono ?_
  rintro e w' ⟨rfl, rfl⟩
  go_wp2
  go_loopw [6] (fun i wr => ∃ (k : Nat) (vl : Value) (G : Nat → Nat), k ≤ n ∧ i = .int .i64 k ∧ SpInv wr (w.heap.size + 2) 38 40 vl k G ∧ w.heap.size + 2 ≤ wr.heap.size ∧ BlkIs wr w.heap.size [.bool false, .int .i64 0, .slice none 0 0] 32 ∧ BlkIs wr (w.heap.size + 1) [.bool true, .int .i64 s, vl] 32 ∧ Below w.heap.size w wr) (fun i _ => n - (intOf i).toNat)
  case atStart =>
    refine ⟨0, .slice none 0 0, fun _ => 0, Nat.zero_le _, rfl, ⟨World.ownsRow_nil _ _ _ _, fun j hj => by omega⟩, by simp, ?_, ?_, ?_⟩
    · exact (BlkIs.new w [.bool false, .int .i64 0, .slice none 0 0] 32).alloc _
    · have := BlkIs.new (w.alloc (.cells #[.bool false, .int .i64 0, .slice none 0 0] 32)) [.bool true, .int .i64 s, .slice none 0 0] 32
      simpa using this
    · exact ((Below.refl _ _).alloc (Nat.le_refl _) _).alloc (by simp) _
  case round =>
    obtain ⟨k, vl, G, hk, rfl, hI, hsz, hb0, hb1, hbw⟩ := hrel
    by_cases hlt : k < n
    · have c2 : wr.cell? ⟨w.heap.size + 1, 2, none⟩ = some vl := hb1.cell 2
      have hnew := lnB_cells (wr.alloc (.cells #[.int .i64 0, .int .i64 0] 40)) wr.heap.size 38
      rw [show (wr.alloc (.cells #[.int .i64 0, .int .i64 0] 40)).heap.size = wr.heap.size + 1 by simp] at hnew
      have Hnew : Hid (∀ (j : Nat) (u : Value), (lnCellsB wr.heap.size)[j]? = some u → ((wr.alloc (.cells #[.int .i64 0, .int .i64 0] 40)).alloc (.cells #[.int .i64 0, .slice none 0 0, .slice (some ⟨wr.heap.size, 0, none⟩) 1 1, .int .i64 (-1)] 38)).cell? ((⟨wr.heap.size + 1, 0, none⟩ : Addr).add j) = some u) := hnew
      clear hnew
      go_wp2_with (first | (at_builtin; refine wpList_append_own _ rfl _ _ 30 rfl (w.heap.size + 2) 38 i _ 4 64 Tryd.underlying30 hi hz0 hz1 hz2 rfl (by decide) _ _ _ rfl ((hI.own.alloc _).alloc _) ⟨wr.heap.size + 1, 0, none⟩ 1 1 (lnCellsB wr.heap.size) rfl rfl Hnew.out (lnB_one _) (by unfold maxLen; omega) (by omega) (by simp; omega) ?_; intro v' w3 hown' hgrow3 hnil3; obtain ⟨a', c', rfl⟩ := own_slice hown'; have hb1' := ((hb1.alloc _).alloc _).grown ((hI.own.alloc _).alloc _) hgrow3 (by omega); have hb0' := ((hb0.alloc _).alloc _).grown ((hI.own.alloc _).alloc _) hgrow3 (by omega); have d2 := hb1'.cell 2; have g2 := hb1'.frozen 2))
      have hst := sp_step (u := .slice a' (k + 1) c') hI (by decide) hsz (show w.heap.size + 1 < w.heap.size + 2 by omega) hown' hgrow3 2
      have hs3 := hgrow3.size
      simp only [World.size_alloc] at hs3
      refine ⟨⟨k + 1, _, _, by omega, by go_num, hst, by rw [World.size_setCell]; omega, hb0'.other (by omega) _ _, hb1'.set 2 _, ?_⟩, by simp [intOf]; omega⟩
      exact (((hbw.alloc (by omega) _).alloc (by simp; omega) _).grown hgrow3 (by simp; omega) (fun x hx => by have := hI.own.lt x hx; omega)).setCell (by simp) _
    · obtain rfl : k = n := by omega
      obtain ⟨bs, hE, hmem, hfree⟩ := sp_end2 hI (by omega)
      obtain ⟨a', c', rfl⟩ := own_slice hI.own
      have c0 := hb1.cell 0
      have c1 := hb1.cell 1
      have c2 := hb1.cell 2
      have d0 := hb0.cell 0
      have d1 := hb0.cell 1
      have d2 := hb0.cell 2
      have f0 : ∀ o, wr.frozen? ⟨w.heap.size, o, none⟩ = false := fun o => hb0.frozen o
      have Hd : Hid (begD s k = ⟨true, s, List.replicate k lnB⟩) := by
        show begD s k = _
        unfold begD
        rw [if_pos ⟨⟨hs1, hs2⟩, ht1, ht2⟩, Int.toNat_natCast]
      simp only [List.getElem?_cons_zero, List.getElem?_cons_succ] at c0 c1 c2 d0 d1 d2
      go_wp2
      refine bodyPost_ret (v := .agg #[.bool true, .int .i64 s, .slice a' k c']) (by simp [results, Tryd.results35, go_sem, d0, d1, d2]) rfl ⟨_, bs, rfl, ?_, fun b hb => by have := hmem b hb; omega, fun b hb o => by simp only [World.frozen?_setCell]; exact hfree b hb o, ?_⟩
      · rw [Hd.out]
        refine ⟨_, rfl, hE.keep fun b hb => ?_⟩
        have := hmem b hb
        have ne : b ≠ w.heap.size := by omega
        rw [Below.heap_setCell _ _ _ _ ne, Below.heap_setCell _ _ _ _ ne, Below.heap_setCell _ _ _ _ ne]
      · exact ((hbw.setCell (Nat.le_refl _) _).setCell (Nat.le_refl _) _).setCell (Nat.le_refl _) _

end Go.Proofs.YtnaaheddhgpnoaaDoor
