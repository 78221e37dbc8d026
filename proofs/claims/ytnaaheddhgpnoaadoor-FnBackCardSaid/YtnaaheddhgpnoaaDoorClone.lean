/-
  slices.Clone, a contract an instance.
-/
import Derived.Test.YtnaaheddhgpnoaaDoorCopy
namespace Go.Proofs.YtnaaheddhgpnoaaDoor
open Go.ChangeShapes Go.WideShapes Go.ChangeAt Go.RowKit

set_option maxHeartbeats 1000000 in
set_option maxRecDepth 100000 in
theorem cloneInts_any (xs : List Int) (v : Value) (bs : List Nat) (w : World) (h : IntsAt w v xs bs) (hn : xs.length ≤ 1048576) :
    Calls Tryd.prog 76 #[v] w fun e w' => ∃ v', e = .returned v' ∧ w'.ownsRow w.heap.size 3 1 v' xs.length (xs.map fun x => Value.int .i64 x) ∧ Below w.heap.size w w' := by
  obtain ⟨iW, hiW, hzW0, hzW1, hzW2⟩ := info_parts Tryd.infoInt
  obtain ⟨aw, cw, rfl, hnw, hsw⟩ := ints_src h
  rcases aw with _ | ad
  · have hz := hnw rfl
    have hx : xs = [] := List.length_eq_zero_iff.1 hz
    subst hx
    clear hnw hsw hz h
    have hq : ∀ (a : Option Addr) (n c : Nat) (x : World), (binOp .eql 35 (.slice a n c) (.slice none 0 0)).run Tryd.prog x = .ok (.bool a.isNone) x := fun a n c x => Lib.run_eql_slice_nil x _ _ a n c 0 0 Tryd.underlying35
    go_enter Tryd.func76, Tryd.ntmps76
    go_wp2
    exact bodyPost_ret (v := .slice none 0 0) (by simp [results, Tryd.results76, go_sem]) rfl ⟨_, rfl, World.ownsRow_nil _ _ _ _, Below.refl _ _⟩
  · clear hnw h
    have hq : ∀ (a : Option Addr) (n c : Nat) (x : World), (binOp .eql 35 (.slice a n c) (.slice none 0 0)).run Tryd.prog x = .ok (.bool a.isNone) x := fun a n c x => Lib.run_eql_slice_nil x _ _ a n c 0 0 Tryd.underlying35
    go_enter Tryd.func76, Tryd.ntmps76
    go_wp2_with (first
      | (at_builtin; refine wpList_append_copy _ rfl _ _ 35 rfl w.heap.size 3 iW _ 1 8 Tryd.underlying35 hiW hzW0 hzW1 hzW2 rfl (by decide) _ rfl (BlkIs.new w [] _) (by omega) (some ad) xs.length cw (xs.map fun x => Value.int .i64 x) rfl (fun e => by cases e) (by simp) (fun ad' e q u hu => src_keep (hsw ad' e q u hu) ((Below.refl _ _).alloc (Nat.le_refl _) _)) (ints_one _) (by unfold maxLen; omega) (by omega) (by simp) ?_
         intro v1 w1 hown1 hgrow1 hne1
         obtain ⟨g1, cap1, hv1, _⟩ := own_facts hown1 hne1
         subst hv1
         have T1 : Below w.heap.size w w1 := ((Below.refl _ _).alloc (Nat.le_refl _) _).trans (grew_below hgrow1 (by omega) (by simp))))
    exact bodyPost_ret (v := .slice (some ⟨g1, 0, none⟩) xs.length cap1) (by simp [results, Tryd.results76, go_sem]) rfl ⟨_, rfl, hown1, T1⟩

set_option maxHeartbeats 1000000 in
set_option maxRecDepth 100000 in
theorem cloneGrs_any (xs : List Gr) (v : Value) (bs : List Nat) (w : World) (h : GrsAt w v xs bs) (hn : xs.length ≤ 1048576) :
    Calls Tryd.prog 77 #[v] w fun e w' => ∃ v', e = .returned v' ∧ w'.ownsRow w.heap.size 40 2 v' xs.length (grCells xs) ∧ Below w.heap.size w w' := by
  obtain ⟨iW, hiW, hzW0, hzW1, hzW2⟩ := info_parts Tryd.infoGrant
  obtain ⟨aw, cw, rfl, hnw, hsw⟩ := grs_src h
  rcases aw with _ | ad
  · have hz := hnw rfl
    have hx : xs = [] := List.length_eq_zero_iff.1 hz
    subst hx
    clear hnw hsw hz h
    have hq : ∀ (a : Option Addr) (n c : Nat) (x : World), (binOp .eql 36 (.slice a n c) (.slice none 0 0)).run Tryd.prog x = .ok (.bool a.isNone) x := fun a n c x => Lib.run_eql_slice_nil x _ _ a n c 0 0 Tryd.underlying36
    go_enter Tryd.func77, Tryd.ntmps77
    go_wp2
    exact bodyPost_ret (v := .slice none 0 0) (by simp [results, Tryd.results77, go_sem]) rfl ⟨_, rfl, World.ownsRow_nil _ _ _ _, Below.refl _ _⟩
  · clear hnw h
    have hq : ∀ (a : Option Addr) (n c : Nat) (x : World), (binOp .eql 36 (.slice a n c) (.slice none 0 0)).run Tryd.prog x = .ok (.bool a.isNone) x := fun a n c x => Lib.run_eql_slice_nil x _ _ a n c 0 0 Tryd.underlying36
    go_enter Tryd.func77, Tryd.ntmps77
    go_wp2_with (first
      | (at_builtin; refine wpList_append_copy _ rfl _ _ 36 rfl w.heap.size 40 iW _ 2 16 Tryd.underlying36 hiW hzW0 hzW1 hzW2 rfl (by decide) _ rfl (BlkIs.new w [] _) (by omega) (some ad) xs.length cw (grCells xs) rfl (fun e => by cases e) (grCells_len _) (fun ad' e q u hu => src_keep (hsw ad' e q u hu) ((Below.refl _ _).alloc (Nat.le_refl _) _)) (grs_one _) (by unfold maxLen; omega) (by omega) (by simp) ?_
         intro v1 w1 hown1 hgrow1 hne1
         obtain ⟨g1, cap1, hv1, _⟩ := own_facts hown1 hne1
         subst hv1
         have T1 : Below w.heap.size w w1 := ((Below.refl _ _).alloc (Nat.le_refl _) _).trans (grew_below hgrow1 (by omega) (by simp))))
    exact bodyPost_ret (v := .slice (some ⟨g1, 0, none⟩) xs.length cap1) (by simp [results, Tryd.results77, go_sem]) rfl ⟨_, rfl, hown1, T1⟩

end Go.Proofs.YtnaaheddhgpnoaaDoor
