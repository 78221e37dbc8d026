import Derived.Test.YtnaaheddhgpnoaaDoorBookOk
import Derived.Test.YtnaaheddhgpnoaaDoorBookSp
namespace Go.Proofs.YtnaaheddhgpnoaaDoor
open Go.ChangeShapes Go.WideShapes Go.ChangeAt Go.RowKit Go.Maps

set_option maxHeartbeats 1000000 in
theorem implOwner_any (k : Bk) (v : Value) (bs : List Nat) (s : Int) (w : World) (h : BkAt w v k bs) (hs1 : -9223372036854775808 ≤ s) (hs2 : s ≤ 9223372036854775807) :
    Calls Tryd.prog 16 #[v, .int .i64 s] w fun e w' => RetOwner e k s ∧ Below w.heap.size w w' := by
  have hK := h
  obtain ⟨vl, rfl, hLs⟩ := h
  obtain ⟨a, n, ca, rfl⟩ := hLs.slice
  have a1 : ∀ o, Below w.heap.size w (w.alloc o) := fun o => (Below.refl _ _).alloc (Nat.le_refl _) _
  have B0 := BlkIs.new w [.bool k.ok, .int .i64 k.sec, .slice a n ca] 32
  have HO : Hid (∀ W, LnsAt W (.slice a n ca) k.lns bs → Right k → Calls Tryd.prog 46 #[.slice a n ca] W fun e w' => OwnersRet W k.lns e w') := fun W hl hr =>
    owners_any k.lns (.slice a n ca) bs W hl hr.frame.few (fun i hi => ⟨(hr.way i hi).head.len, fun c hc => ⟨((hr.way i hi).each c hc).1, by have := ((hr.way i hi).each c hc).2; have := hr.frame.hi; show sect k.lns i c ≤ 1000000; unfold sect; omega⟩⟩)
  have HKey : Hid (keyOf Tryd.prog 3 (.int .i64 s) = some (.int .i64 s)) := keyOf_int_mk (q := .i64) Tryd.underlying3 (WalkArith.wf_i64 ⟨hs1, hs2⟩)
  go_enter Tryd.func16, Tryd.ntmps16
  go_wp2_with fail
  refine (implBookOk_any k _ bs _ (hK.below (a1 _) hK.lt)).mono ?_
  rintro e w1 ⟨⟨c, rfl, hc⟩, hb1⟩
  have hz := hc.zero
  have B1 := B0.below hb1 B0.lt
  have T1 := (a1 _).trans (hb1.mono (by simp))
  clear B0 hb1 hc a1
  obtain ⟨x0, x1, x2⟩ := B1.three
  by_cases hc0 : c = 0
  · have HRt : Hid (Right k) := hz.1 hc0
    subst hc0
    clear hz
    go_wp2_with fail
    refine (HO.out _ (hLs.below T1 hLs.lt) HRt.out).mono ?_
    rintro e w3 ⟨hb3, ⟨D, m, bm, rfl, ho, hod, hom⟩ | ⟨rfl, hno⟩⟩
    · have T3 := T1.trans (hb3.mono T1.size)
      clear x0 x1 x2 ho
      cases hh : Maps.has D (.int .i64 s) with
      | true =>
        obtain ⟨i, cc, hi1, hi2, hi3⟩ := (hod.mem s).1 hh
        have hval := hod.val i cc hi1 hi2
        rw [hi3] at hval
        have HF : Hid _ := RetOwner.is HRt.out hi1 hi2 hi3
        have HV : Hid (∀ z, D.atKey (.int .i64 s) z = .lit (.int .i64 i)) := hval
        clear hval hod hi3
        go_wp2_with (first | (at_lookup; refine wpList_lookup_own_ok_int _ rfl _ _ 91 rfl 3 3 .i64 keyLaw Tryd.underlying91 Tryd.underlying3 (zeroInt _) bm m D rfl hom _ _ rfl HKey.out ?_; intro c' hat hwc))
        go_ret
        have e1 : c' = (i : Int) := by
          have := hat.symm.trans (HV.out _)
          simpa using this
        rw [e1]
        exact ⟨HF.out, T3⟩
      | false =>
        have HF : Hid (RetOwner (.returned (.int .i64 (-1))) k s) := RetOwner.none HRt.out (fun i cc h1 h2 h3 => by
          have := (hod.mem s).2 ⟨i, cc, h1, h2, h3⟩
          rw [this] at hh
          exact Bool.noConfusion hh)
        clear hod
        go_wp2_with (first | (at_lookup; refine wpList_lookup_own_ok_int _ rfl _ _ 91 rfl 3 3 .i64 keyLaw Tryd.underlying91 Tryd.underlying3 (zeroInt _) bm m D rfl hom _ _ rfl HKey.out ?_; intro c' hat hwc))
        go_ret
        exact ⟨HF.out, T3⟩
    · exact absurd HRt.out.once hno
  · have HF : Hid (RetOwner (.returned (.int .i64 (-1))) k s) := RetOwner.wrong (fun h => hc0 (hz.2 h))
    have hc0' : (c != 0) = true := by simp [hc0]
    clear hz hc0
    go_wp2
    go_ret
    exact ⟨HF.out, T1⟩

set_option maxHeartbeats 1000000 in
theorem specOwner_any (k : Bk) (v : Value) (bs : List Nat) (s : Int) (w : World) (h : BkAt w v k bs) :
    Calls Tryd.prog 60 #[v, .int .i64 s] w fun e w' => RetOwner e k s ∧ Below w.heap.size w w' := by
  have hK := h
  obtain ⟨vl, rfl, hLs⟩ := h
  obtain ⟨a, ca, rfl, hca, hcm, h⟩ := hLs
  unfold maxLen at hcm
  have a1 : ∀ o, Below w.heap.size w (w.alloc o) := fun o => (Below.refl _ _).alloc (Nat.le_refl _) _
  have B0 := BlkIs.new w [.bool k.ok, .int .i64 k.sec, .slice a k.lns.length ca] 32
  have hBO := fun W h => specBookOk_any k (.agg #[.bool k.ok, .int .i64 k.sec, .slice a k.lns.length ca]) bs W h
  have HIs : Hid (∀ i c, Right k → i < k.lns.length → c < wlen k.lns i → sect k.lns i c = s → RetOwner (.returned (.int .i64 (i : Int))) k s) := fun i c h h1 h2 h3 => RetOwner.is h h1 h2 h3
  have HNone : Hid (Right k → (∀ i c, i < k.lns.length → c < wlen k.lns i → sect k.lns i c ≠ s) → RetOwner (.returned (.int .i64 (-1))) k s) := fun h h1 => RetOwner.none h h1
  generalize k.lns.length = n at *
  go_enter Tryd.func60, Tryd.ntmps60
  go_wp2_with fail
  refine (hBO _ (hK.below (a1 _) hK.lt)).mono ?_
  rintro e w1 ⟨⟨c, rfl, hc⟩, hb1⟩
  have hz := hc.zero
  have B1 := B0.below hb1 B0.lt
  have T1 := (a1 _).trans (hb1.mono (by simp))
  clear hBO B0 hb1 hc a1
  obtain ⟨x0, x1, x2⟩ := B1.three
  by_cases hc0 : c = 0
  · have HRt : Hid (Right k) := hz.1 hc0
    subst hc0
    clear hz
    go_wp2
    clear x0 x1 x2
    go_loopw [15] (fun i wr => ∃ j : Nat, j ≤ n ∧ i = .int .i64 j ∧ (∀ i c, i < j → c < wlen k.lns i → sect k.lns i c ≠ s) ∧ Below w.heap.size w wr) (fun i _ => n - (intOf i).toNat)
    case atStart => exact ⟨0, Nat.zero_le _, rfl, fun i c hi => by omega, T1⟩
    case round =>
      clear T1 B1
      obtain ⟨j, hj, rfl, hall, hbw⟩ := hrel
      have HA : Hid (∀ i c, i < j → c < wlen k.lns i → sect k.lns i c ≠ s) := hall
      clear hall
      by_cases hlt : j < n
      · rcases h with ⟨h00, _⟩ | ⟨b, o, E, rfl, _, hs, hc⟩
        · omega
        obtain ⟨vw, vg, p0, p1, p2, p3, hl⟩ := (hc j hlt).at
        obtain ⟨vw', vg', b1, b2, hv, _, ⟨aw, cw, rfl, hwl, hwc, hwi⟩, hgi⟩ := hl
        obtain ⟨ga, gn, gc, rfl⟩ := hgi.slice
        simp only [Value.agg.injEq, Array.mk.injEq, List.cons.injEq, and_true, true_and] at hv
        obtain ⟨rfl, rfl⟩ := hv
        have c0 := ((bcell hbw).1 _ _ hs).trans p0
        have c1 := ((bcell hbw).1 _ _ hs).trans p1
        have c2 := ((bcell hbw).1 _ _ hs).trans p2
        have c3 := ((bcell hbw).1 _ _ hs).trans p3
        have hwi' : (wlen k.lns j = 0 ∧ b1 = []) ∨ ∃ b o, aw = some ⟨b, o, none⟩ ∧ b1 = [b] ∧ b < w.heap.size ∧ ∀ i, i < wlen k.lns j → w.cell? ⟨b, o + i, none⟩ = some (.int .i64 (sect k.lns j i)) := hwi
        rw [show (k.lns[j]?.getD ln0).way.length = wlen k.lns j from rfl] at c1 hwl
        have HIj : Hid (∀ c, c < wlen k.lns j → sect k.lns j c = s → RetOwner (.returned (.int .i64 (j : Int))) k s) := fun c h1 h2 => HIs.out j c HRt.out hlt h1 h2
        have HAj : Hid ((∀ c, c < wlen k.lns j → sect k.lns j c ≠ s) → ∀ i c, i < j + 1 → c < wlen k.lns i → sect k.lns i c ≠ s) := fun h i c hi hc => by
          by_cases e : i = j
          · subst e; exact h c hc
          · exact HA.out i c (by omega) hc
        clear hc p0 p1 p2 p3 hwi hgi
        unfold maxLen at hwc
        generalize wlen k.lns j = len at *
        have hba := hbw.alloc hbw.size
        go_wp2
        go_loopw [23] (fun i wi => ∃ c : Nat, c ≤ len ∧ i = .int .i64 c ∧ (∀ d, d < c → sect k.lns j d ≠ s) ∧ Below w.heap.size w wi) (fun i _ => len - (intOf i).toNat)
        case atStart => exact ⟨0, Nat.zero_le _, rfl, fun d hd => by omega, hba _⟩
        case round =>
          clear hba hbw c0 c1 c2 c3
          obtain ⟨c, hc, rfl, hall, hbw⟩ := hrel
          have HC : Hid (∀ d, d < c → sect k.lns j d ≠ s) := hall
          clear hall
          by_cases hclt : c < len
          · rcases hwi' with ⟨h00, _⟩ | ⟨bw, ow, rfl, _, hsw, hcw⟩
            · omega
            have x0 := ((bcell hbw).1 _ _ hsw).trans (hcw c hclt)
            have HIc : Hid (sect k.lns j c = s → RetOwner (.returned (.int .i64 (j : Int))) k s) := HIj.out c hclt
            have HCc : Hid (sect k.lns j c ≠ s → ∀ d, d < c + 1 → sect k.lns j d ≠ s) := fun h => all_step (P := fun d => sect k.lns j d ≠ s) HC.out h
            clear hcw
            generalize sect k.lns j c = x at *
            by_cases hx : x = s
            · have HF : Hid _ := HIc.out hx
              subst hx
              go_wp2
              go_ret
              exact ⟨HF.out, hbw⟩
            · have hx' : (x == s) = false := by simp [hx]
              have HF : Hid _ := HCc.out hx
              clear hx
              go_wp2
              go_roundw
              case rel => exact ⟨c + 1, by omega, by go_num, HF.out, hbw⟩
              case measure => simp [intOf]; omega
          · obtain rfl : len = c := by omega
            have HF : Hid _ := HAj.out HC.out
            go_wp2
            go_roundw
            case rel => exact ⟨j + 1, by omega, by go_num, HF.out, hbw⟩
            case measure => simp [intOf]; omega
      · obtain rfl : n = j := by omega
        have HF : Hid _ := HNone.out HRt.out HA.out
        go_wp2
        go_ret
        exact ⟨HF.out, hbw⟩
  · have HF : Hid (RetOwner (.returned (.int .i64 (-1))) k s) := RetOwner.wrong (fun h => hc0 (hz.2 h))
    have hc0' : (c != 0) = true := by simp [hc0]
    clear hz hc0
    go_wp2
    go_ret
    exact ⟨HF.out, T1⟩

end Go.Proofs.YtnaaheddhgpnoaaDoor
