import Derived.Test.YtnaaheddhgpnoaaDoorOk1
import Derived.Test.YtnaaheddhgpnoaaDoorOwnD
namespace Go.Proofs.YtnaaheddhgpnoaaDoor
open Go.ChangeShapes Go.WideShapes Go.ChangeAt Go.RowKit Go.Maps

theorem keyLaw : Keyed Tryd.prog 3 := int_keyed Tryd.underlying3
theorem zeroInt (w : World) : (zeroValue 3).run Tryd.prog w = .ok (.int .i64 0) w := by kernel_rfl

/-- What 'owners' hands back. -/
def OwnersRet (w : World) (ls : List Ln) (e : Ending) (w' : World) : Prop :=
  Below w.heap.size w w' ∧ ((∃ D m bm, e = .returned (.tuple #[.map (some bm), .bool true]) ∧ Once ls ∧ OwnersD ls D ∧ w'.ownsMap (H := Unit) Tryd.prog 3 (plainElem Tryd.prog 3) bm m D) ∨ (e = .returned (.tuple #[.map none, .bool false]) ∧ ¬ Once ls))

set_option maxHeartbeats 1000000 in
theorem owners_any (ls : List Ln) (v : Value) (bs : List Nat) (w : World) (h : LnsAt w v ls bs) (hn : ls.length ≤ 20) (hw : ∀ i, i < ls.length → wlen ls i ≤ 100 ∧ ∀ c, c < wlen ls i → 0 ≤ sect ls i c ∧ sect ls i c ≤ 1000000) :
    Calls Tryd.prog 46 #[v] w fun e w' => OwnersRet w ls e w' := by
  obtain ⟨a, ca, rfl, hca, hcm, h⟩ := h
  unfold maxLen at hcm
  have HDone : Hid (∀ D, OwnInv ls ls.length 0 D → Once ls ∧ OwnersD ls D) := fun D h => ⟨h.once, h.done⟩
  have HTw : Hid (∀ k a D, OwnInv ls k a D → k < ls.length → a < wlen ls k → Maps.has D (.int .i64 (sect ls k a)) = true → ¬ Once ls) := fun k a D h h1 h2 h3 => h.twice h1 h2 h3
  have HStep : Hid (∀ k a D, OwnInv ls k a D → k < ls.length → a < wlen ls k → Maps.has D (.int .i64 (sect ls k a)) = false → OwnInv ls k (a + 1) (D.put (.int .i64 (sect ls k a)) (.lit (.int .i64 k)))) := fun k a D h h1 h2 h3 => h.step h1 h2 h3
  have HW : Hid (∀ i, i < ls.length → wlen ls i ≤ 100 ∧ ∀ c, c < wlen ls i → 0 ≤ sect ls i c ∧ sect ls i c ≤ 1000000) := hw
  clear hw
  generalize ls.length = n at *
  have hmm := @run_makeMap Tryd.prog
  go_enter Tryd.func46, Tryd.ntmps46
  go_wp2
  go_loopw [14] (fun i wr => ∃ (k m : Nat) (D : DataW Unit), k ≤ n ∧ i = .int .i64 k ∧ OwnInv ls k 0 D ∧ wr.ownsMap (H := Unit) Tryd.prog 3 (plainElem Tryd.prog 3) w.heap.size m D ∧ m ≤ k * 100 ∧ w.heap.size + 1 ≤ wr.heap.size ∧ Below w.heap.size w wr) (fun i _ => n - (intOf i).toNat)
  case atStart => exact ⟨0, 0, .map [], Nat.zero_le _, rfl, OwnInv.start ls, World.ownsMap_made _ _ _ _, by omega, by simp, (Below.refl _ _).alloc (Nat.le_refl _) _⟩
  case round =>
    clear hmm
    obtain ⟨k, m, D, hk, rfl, hI, hown, hm, hsz, hbw⟩ := hrel
    by_cases hlt : k < n
    · rcases h with ⟨h00, _⟩ | ⟨b, o, E, rfl, _, hs, hc⟩
      · omega
      obtain ⟨vw, vg, p0, p1, p2, p3, hl⟩ := (hc k hlt).at
      obtain ⟨vw', vg', b1, b2, hv, _, ⟨aw, cw, rfl, hwl, hwc, hwi⟩, hgi⟩ := hl
      obtain ⟨ga, gn, gc, rfl⟩ := hgi.slice
      simp only [Value.agg.injEq, Array.mk.injEq, List.cons.injEq, and_true, true_and] at hv
      obtain ⟨rfl, rfl⟩ := hv
      have c0 := ((bcell hbw).1 _ _ hs).trans p0
      have c1 := ((bcell hbw).1 _ _ hs).trans p1
      have c2 := ((bcell hbw).1 _ _ hs).trans p2
      have c3 := ((bcell hbw).1 _ _ hs).trans p3
      obtain ⟨hw1, hw2⟩ := HW.out k hlt
      have hwi' : (wlen ls k = 0 ∧ b1 = []) ∨ ∃ b o, aw = some ⟨b, o, none⟩ ∧ b1 = [b] ∧ b < w.heap.size ∧ ∀ i, i < wlen ls k → w.cell? ⟨b, o + i, none⟩ = some (.int .i64 (sect ls k i)) := hwi
      rw [show (ls[k]?.getD ln0).way.length = wlen ls k from rfl] at c1 hwl
      have HN : Hid (∀ D, OwnInv ls k (wlen ls k) D → OwnInv ls (k + 1) 0 D) := fun D h => h.next
      have HTk : Hid (∀ a D, OwnInv ls k a D → a < wlen ls k → Maps.has D (.int .i64 (sect ls k a)) = true → ¬ Once ls) := fun a D h h2 h3 => HTw.out k a D h hlt h2 h3
      have HSk : Hid (∀ a D, OwnInv ls k a D → a < wlen ls k → Maps.has D (.int .i64 (sect ls k a)) = false → OwnInv ls k (a + 1) (D.put (.int .i64 (sect ls k a)) (.lit (.int .i64 k)))) := fun a D h h2 h3 => HStep.out k a D h hlt h2 h3
      have HW2 : Hid (∀ c, c < wlen ls k → 0 ≤ sect ls k c ∧ sect ls k c ≤ 1000000) := hw2
      clear hc p0 p1 p2 p3 hwi hw2 HTw HStep hgi
      unfold maxLen at hwc
      generalize wlen ls k = len at *
      go_wp2
      go_loopw [22] (fun i wi => ∃ (c m : Nat) (D : DataW Unit), c ≤ len ∧ i = .int .i64 c ∧ OwnInv ls k c D ∧ wi.ownsMap (H := Unit) Tryd.prog 3 (plainElem Tryd.prog 3) w.heap.size m D ∧ m ≤ k * 100 + c ∧ w.heap.size + 1 ≤ wi.heap.size ∧ Below w.heap.size w wi) (fun i _ => len - (intOf i).toNat)
      case atStart => exact ⟨0, m, D, Nat.zero_le _, rfl, hI, hown.alloc _, by omega, by simp; omega, hbw.alloc (by omega) _⟩
      case round =>
        clear hown hI hbw hsz hm c0 c1 c2 c3 m D
        obtain ⟨c, m, D, hc, rfl, hI, hown, hm, hsz, hbw⟩ := hrel
        by_cases hclt : c < len
        · rcases hwi' with ⟨h00, _⟩ | ⟨bw, ow, rfl, _, hsw, hcw⟩
          · omega
          have x0 := ((bcell hbw).1 _ _ hsw).trans (hcw c hclt)
          obtain ⟨hx1, hx2⟩ := HW2.out c hclt
          have hT := HTk.out c D hI hclt
          have hS := HSk.out c D hI hclt
          clear hcw HTk HSk
          generalize sect ls k c = x at *
          have hkey := keyOf_int_mk (q := .i64) Tryd.underlying3 (WalkArith.wf_i64 (n := x) (by omega))
          have HKey : Hid (keyOf Tryd.prog 3 (.int .i64 x) = some (.int .i64 x)) := hkey
          clear hkey
          cases hh : Maps.has D (.int .i64 x) with
          | true =>
            have HF : Hid (¬ Once ls) := hT hh
            clear hT hS
            go_wp2_with (first | (at_lookup; refine wpList_lookup_own_ok_int _ rfl _ _ 91 rfl 3 3 .i64 keyLaw Tryd.underlying91 Tryd.underlying3 (zeroInt _) w.heap.size m D rfl hown _ _ rfl HKey.out ?_; intro c' hat hwc))
            go_ret2
            exact ⟨hbw, Or.inr ⟨rfl, HF.out⟩⟩
          | false =>
            have HF : Hid (OwnInv ls k (c + 1) (D.put (.int .i64 x) (.lit (.int .i64 k)))) := hS hh
            clear hT hS
            go_wp2_with (first | (at_lookup; refine wpList_lookup_own_ok_int _ rfl _ _ 91 rfl 3 3 .i64 keyLaw Tryd.underlying91 Tryd.underlying3 (zeroInt _) w.heap.size m D rfl hown _ _ rfl HKey.out ?_; intro c' hat hwc) | (at_mapUpdate; refine wpList_mapUpdate_own _ rfl _ _ _ 91 rfl 3 3 keyLaw Tryd.underlying91 _ w.heap.size m D rfl hown (by unfold maxLen; omega) _ _ _ rfl rfl HKey.out _ [] (plainElem_int Tryd.underlying3 (WalkArith.wf_i64 (by omega))) ?_; intro w1 hown1 hgrow1))
            refine ⟨⟨c + 1, m + 1, _, by omega, by go_num, HF.out, hown1, by omega, Nat.le_trans hsz hgrow1.size, hbw.grown hgrow1 (by omega) (fun j hj => by cases hj; exact Nat.le_refl _)⟩, by simp [intOf]; omega⟩
        · obtain rfl : c = len := by omega
          have hnext := HN.out D hI
          go_wp2
          go_roundw
          case rel => exact ⟨k + 1, m, D, by omega, by go_num, hnext, hown, by omega, hsz, hbw⟩
          case measure => simp [intOf]; omega
    · obtain rfl : k = n := by omega
      have hfin := HDone.out D hI
      have HF : Hid (Once ls ∧ OwnersD ls D) := hfin
      clear hfin
      go_wp2
      go_ret2
      exact ⟨hbw, Or.inl ⟨D, m, _, rfl, HF.out.1, HF.out.2, hown⟩⟩

end Go.Proofs.YtnaaheddhgpnoaaDoor
