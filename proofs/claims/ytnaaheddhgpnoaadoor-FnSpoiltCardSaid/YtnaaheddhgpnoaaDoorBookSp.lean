import Derived.Test.YtnaaheddhgpnoaaDoorLine
import Derived.Test.YtnaaheddhgpnoaaDoorBookD
namespace Go.Proofs.YtnaaheddhgpnoaaDoor
open Go.ChangeShapes Go.WideShapes Go.ChangeAt Go.RowKit

theorem Tryd.infoBool : (Tryd.prog.info? 4).map (fun i => (i.zero, i.size, i.bytes)) = some (some (.bool false), 1, 1) := by kernel_rfl

set_option maxHeartbeats 2000000 in
theorem specBookOk_any (k : Bk) (v : Value) (bs : List Nat) (w : World) (h : BkAt w v k bs) :
    Calls Tryd.prog 23 #[v] w fun e w' => RetCode e k ∧ Below w.heap.size w w' := by
  have hK := h
  obtain ⟨vl, rfl, hLs⟩ := h
  obtain ⟨a, ca, rfl, hca, hcm, h⟩ := hLs
  unfold maxLen at hcm
  have a1 : ∀ o, Below w.heap.size w (w.alloc o) := fun o => (Below.refl _ _).alloc (Nat.le_refl _) _
  by_cases hF : FrameOk k
  · have hok := hF.ok
    have hsec := hF.lo
    have hsec2 := hF.hi
    have hfew : ¬ (20 : Int) < (k.lns.length : Int) := by have := hF.few; omega
    have hfew2 := hF.few
    rw [hok] at hK
    rw [hok]
    have HFr : Hid (FrameOk k) := hF
    have HN0 : Hid (NoneBelow k 0) := none_zero k
    have HNS : Hid (∀ q, NoneBelow k q → (∀ i, i < k.lns.length → ¬ LineCode k.sec (k.lns[i]?.getD ln0) (2 + (q : Int))) → NoneBelow k (q + 1)) := fun q h1 h2 => none_step h1 h2
    have HCF : Hid (∀ q i, NoneBelow k q → q < 3 → i < k.lns.length → LineCode k.sec (k.lns[i]?.getD ln0) (2 + (q : Int)) → RetCode (.returned (.int .i64 (2 + (q : Int)))) k) := fun q i h1 h2 h3 h4 => code_found HFr.out h1 h2 h3 h4
    have HS : Hid (∀ f, SeenInv k.lns k.lns.length 0 f → Once k.lns) := fun f h => h.once
    have HST : Hid (∀ (i a x : Nat) (f : Nat → Bool), SeenInv k.lns i a f → i < k.lns.length → a < wlen k.lns i → sect k.lns i a = x → f x = true → ¬ Once k.lns) := fun i a x f h h1 h2 h3 h4 => h.twice h1 h2 h3 h4
    have HSS : Hid (∀ (i a x : Nat) (f : Nat → Bool), SeenInv k.lns i a f → i < k.lns.length → a < wlen k.lns i → sect k.lns i a = x → f x = false → SeenInv k.lns i (a + 1) (fun y => if y = x then true else f y)) := fun i a x f h h1 h2 h3 h4 => h.step h1 h2 h3 h4
    have HAW : Hid (AllWay k → ∀ i, i < k.lns.length → wlen k.lns i ≤ 100 ∧ ∀ c, c < wlen k.lns i → 0 ≤ sect k.lns i c ∧ sect k.lns i c ≤ k.sec - 1) := fun h i hi => ⟨(h i hi).head.len, fun c hc => (h i hi).each c hc⟩
    have B0 := BlkIs.new w [.bool true, .int .i64 k.sec, .slice a k.lns.length ca] 32
    have hKok : BkAt w (.agg #[.bool k.ok, .int .i64 k.sec, .slice a k.lns.length ca]) k bs := by rw [hok]; exact hK
    clear hF hok hKok
    generalize k.lns.length = n at *
    go_enter Tryd.func23, Tryd.ntmps23
    go_wp2_with fail
    refine (l1in_yes k.sec 1 200 _ hsec hsec2).mono ?_
    rintro e w1 ⟨rfl, rfl⟩
    go_wp2
    go_loopw [3] (fun i wr => ∃ q : Nat, q ≤ 3 ∧ i = .int .i64 (2 + (q : Int)) ∧ NoneBelow k q ∧ BlkIs wr w.heap.size [.bool true, .int .i64 k.sec, .slice a n ca] 32 ∧ Below w.heap.size w wr) (fun i _ => (5 - intOf i).toNat)
    case atStart => exact ⟨0, by omega, by simp, HN0.out, B0, a1 _⟩
    case round =>
      clear B0 a1 HN0
      obtain ⟨q, hq, rfl, hnone, hB, hbw⟩ := hrel
      have HNq : Hid (NoneBelow k q) := hnone
      clear hnone
      obtain ⟨x0, x1, x2⟩ := hB.three
      by_cases hq3 : q < 3
      · have hq4 : (2 : Int) + (q : Int) ≤ 4 := by omega
        go_wp2
        go_loopw [33] (fun i wi => ∃ j : Nat, j ≤ n ∧ i = .int .i64 j ∧ (∀ i, i < j → ¬ LineCode k.sec (k.lns[i]?.getD ln0) (2 + (q : Int))) ∧ BlkIs wi w.heap.size [.bool true, .int .i64 k.sec, .slice a n ca] 32 ∧ Below w.heap.size w wi) (fun i _ => n - (intOf i).toNat)
        case atStart => exact ⟨0, Nat.zero_le _, rfl, fun i hi => by omega, hB, hbw⟩
        case round =>
          clear hB hbw x0 x1 x2
          obtain ⟨j, hj, rfl, hall, hB, hbw⟩ := hrel
          have HA : Hid (∀ i, i < j → ¬ LineCode k.sec (k.lns[i]?.getD ln0) (2 + (q : Int))) := hall
          clear hall
          obtain ⟨x0, x1, x2⟩ := hB.three
          by_cases hlt : j < n
          · rcases h with ⟨h00, _⟩ | ⟨b, o, E, rfl, _, hs, hc⟩
            · omega
            obtain ⟨vw, vg, p0, p1, p2, p3, hl⟩ := (hc j hlt).at
            have hl' := hl.below hbw hl.lt
            obtain ⟨_, _, _, _, hv, _, hiw, hgw⟩ := hl
            obtain ⟨sa1, sn1, sc1, rfl⟩ := hiw.slice
            obtain ⟨sa2, sn2, sc2, rfl⟩ := hgw.slice
            simp only [Value.agg.injEq, Array.mk.injEq, List.cons.injEq, and_true, true_and] at hv
            obtain ⟨rfl, rfl⟩ := hv
            have c0 := ((bcell hbw).1 _ _ hs).trans p0
            have c1 := ((bcell hbw).1 _ _ hs).trans p1
            have c2 := ((bcell hbw).1 _ _ hs).trans p2
            have c3 := ((bcell hbw).1 _ _ hs).trans p3
            have HFj : Hid _ := HCF.out q j HNq.out hq3 hlt
            have HYj : Hid (¬ LineCode k.sec (k.lns[j]?.getD ln0) (2 + (q : Int)) → ∀ i, i < j + 1 → ¬ LineCode k.sec (k.lns[i]?.getD ln0) (2 + (q : Int))) := fun h => all_step (P := fun i => ¬ LineCode k.sec (k.lns[i]?.getD ln0) (2 + (q : Int))) HA.out h
            have hb' : ∀ o, Below wr.heap.size wr (wr.alloc o) := fun o => (Below.refl _ _).alloc (Nat.le_refl _) _
            have hK' := hK.below hbw hK.lt
            have kb : ∀ ob r, (wr.alloc ob).cell? ⟨w.heap.size, r, none⟩ = wr.cell? ⟨w.heap.size, r, none⟩ := fun ob r => cell_keep (Below.heap_alloc _ _ _ hB.lt)
            clear hc p0 p1 p2 p3 hiw hgw
            generalize k.lns[j]?.getD ln0 = l at *
            go_wp2_with fail
            refine (l1line_any k l _ _ _ _ _ (hK'.below (hb' _) hK'.lt) (hl'.below (hb' _) hl'.lt) hsec hsec2).mono ?_
            rintro e w2 ⟨⟨cd, rfl, hcd⟩, hbb⟩
            have B2 := (hB.alloc (.cells #[.int .i64 l.gone, .slice sa1 sn1 sc1, .slice sa2 sn2 sc2, .int .i64 l.drop] 38)).below hbb (by simp; exact Nat.lt_succ_of_lt hB.lt)
            have T2 := (hbw.alloc hbw.size _).trans (hbb.mono (by have := hbw.size; simp; omega))
            clear c0 c1 c2 c3 x0 x1 x2 kb hb'
            by_cases hce : cd = 2 + (q : Int)
            · have hce' : (cd == 2 + (q : Int)) = true := by simp [hce]
              have HF : Hid _ := HFj.out (hce ▸ hcd)
              clear hce hcd
              go_wp2
              go_ret
              exact ⟨HF.out, T2⟩
            · have hce' : (cd == 2 + (q : Int)) = false := by simp [hce]
              have HF : Hid _ := HYj.out (fun h => hce (hcd.one h))
              clear hce hcd
              go_wp2
              go_roundw
              case rel => exact ⟨j + 1, by omega, by go_num, HF.out, B2, T2⟩
              case measure => simp [intOf]; omega
          · obtain rfl : n = j := by omega
            have HF : Hid (NoneBelow k (q + 1)) := HNS.out q HNq.out HA.out
            clear HA
            go_wp2
            go_roundw
            case rel => exact ⟨q + 1, by omega, by exact congrArg (Value.int .i64) (by omega), HF.out, hB, hbw⟩
            case measure => simp [intOf]; omega
      · rename World => W0
        obtain rfl : q = 3 := by omega
        have HWy : Hid (AllWay k) := none_way HNq.out (by omega)
        have HGr : Hid (AllGrs k) := none_grs HNq.out (by omega)
        have HDr : Hid (AllDrop k) := none_drop HNq.out (by omega)
        have HWL : Hid _ := HAW.out HWy.out
        obtain ⟨sn, hsn⟩ := Int.eq_ofNat_of_zero_le (show 0 ≤ k.sec by omega)
        rw [hsn] at x1 hsec hsec2 HWL
        have HSN : Hid (k.sec = sn) := hsn
        obtain ⟨i, hi, hz0, hz1, hz2⟩ := info_parts Tryd.infoBool
        have hmk := fun W : World => run_make (P := Tryd.prog) W 107 4 i _ Tryd.underlying107 hi hz0 .i64 .i64 (sn : Int) (sn : Int) (by omega) (Int.le_refl _) (by rw [hz2]; omega) (by omega)
        rw [hz1] at hmk
        clear hi hz0 hz1 hz2 hsn HNS HCF HNq HAW
        have R0 := FlagRow.start W0 sn 4
        have hlw := hB.lt
        have kb : ∀ ob r, (W0.alloc ob).cell? ⟨w.heap.size, r, none⟩ = W0.cell? ⟨w.heap.size, r, none⟩ := fun ob r => cell_keep (Below.heap_alloc _ _ _ hlw)
        go_wp2
        clear kb x0 x1 x2 hmk
        go_loopw [50] (fun i wi => ∃ (j : Nat) (f : Nat → Bool), j ≤ n ∧ i = .int .i64 j ∧ SeenInv k.lns j 0 f ∧ FlagRow W0 wi W0.heap.size sn f) (fun i _ => n - (intOf i).toNat)
        case atStart => exact ⟨0, _, Nat.zero_le _, rfl, SeenInv.start _, R0⟩
        case round =>
          clear R0
          obtain ⟨j, f, hj, rfl, hSI, hFR⟩ := hrel
          have T3 := hbw.trans (hFR.below.mono hbw.size)
          by_cases hlt : j < n
          · rcases h with ⟨h00, _⟩ | ⟨b, o, E, rfl, _, hs, hc⟩
            · omega
            obtain ⟨vw, vg, p0, p1, p2, p3, hl⟩ := (hc j hlt).at
            obtain ⟨vw', vg', b1, b2, hv, _, ⟨aw, cw, rfl, hwl, hwc, hwi⟩, hgi⟩ := hl
            obtain ⟨ga, gn, gc, rfl⟩ := hgi.slice
            simp only [Value.agg.injEq, Array.mk.injEq, List.cons.injEq, and_true, true_and] at hv
            obtain ⟨rfl, rfl⟩ := hv
            have c0 := ((bcell T3).1 _ _ hs).trans p0
            have c1 := ((bcell T3).1 _ _ hs).trans p1
            have c2 := ((bcell T3).1 _ _ hs).trans p2
            have c3 := ((bcell T3).1 _ _ hs).trans p3
            obtain ⟨hw1, hw2⟩ := HWL.out j hlt
            have hwi' : (wlen k.lns j = 0 ∧ b1 = []) ∨ ∃ b o, aw = some ⟨b, o, none⟩ ∧ b1 = [b] ∧ b < w.heap.size ∧ ∀ i, i < wlen k.lns j → w.cell? ⟨b, o + i, none⟩ = some (.int .i64 (sect k.lns j i)) := hwi
            rw [show (k.lns[j]?.getD ln0).way.length = wlen k.lns j from rfl] at c1 hwl
            have HN : Hid (∀ f, SeenInv k.lns j (wlen k.lns j) f → SeenInv k.lns (j + 1) 0 f) := fun f h => h.next
            have HTk : Hid (∀ (a x : Nat) (f : Nat → Bool), SeenInv k.lns j a f → a < wlen k.lns j → sect k.lns j a = x → f x = true → ¬ Once k.lns) := fun a x f h h2 h3 h4 => HST.out j a x f h hlt h2 h3 h4
            have HSk : Hid (∀ (a x : Nat) (f : Nat → Bool), SeenInv k.lns j a f → a < wlen k.lns j → sect k.lns j a = x → f x = false → SeenInv k.lns j (a + 1) (fun y => if y = x then true else f y)) := fun a x f h h2 h3 h4 => HSS.out j a x f h hlt h2 h3 h4
            have HW2 : Hid (∀ c, c < wlen k.lns j → 0 ≤ sect k.lns j c ∧ sect k.lns j c ≤ (sn : Int) - 1) := hw2
            clear hc p0 p1 p2 p3 hwi hw2 hgi HST HSS
            unfold maxLen at hwc
            generalize wlen k.lns j = len at *
            have F0 : ∀ c t, FlagRow W0 (wr.alloc (.cells c t)) W0.heap.size sn f := fun c t => hFR.alloc c t
            go_wp2
            clear c0 c1 c2 c3 T3
            go_loopw [57] (fun i wi => ∃ (c : Nat) (f : Nat → Bool), c ≤ len ∧ i = .int .i64 c ∧ SeenInv k.lns j c f ∧ FlagRow W0 wi W0.heap.size sn f) (fun i _ => len - (intOf i).toNat)
            case atStart => exact ⟨0, f, Nat.zero_le _, rfl, hSI, F0 _ _⟩
            case round =>
              clear hSI hFR F0 f
              obtain ⟨c, f, hc, rfl, hSI, hFR⟩ := hrel
              have T3 := hbw.trans (hFR.below.mono hbw.size)
              by_cases hclt : c < len
              · rcases hwi' with ⟨h00, _⟩ | ⟨bw, ow, rfl, _, hsw, hcw⟩
                · omega
                have x0 := ((bcell T3).1 _ _ hsw).trans (hcw c hclt)
                obtain ⟨hx1, hx2⟩ := HW2.out c hclt
                obtain ⟨x, hx⟩ := Int.eq_ofNat_of_zero_le hx1
                have hT : Hid _ := HTk.out c x f hSI hclt hx
                have hS : Hid _ := HSk.out c x f hSI hclt hx
                clear hcw
                rw [hx] at x0 hx2
                clear hx hx1
                have hxs : x < sn := by omega
                have hxs' : (x : Int) < (sn : Int) := by omega
                have y0 := hFR.cell x hxs
                have z0 := hFR.free x
                cases hf : f x with
                | true =>
                  have HF : Hid (¬ Once k.lns) := hT.out hf
                  rw [hf] at y0
                  clear hf
                  go_wp2
                  go_ret
                  exact ⟨RetCode.c5 HFr.out HWy.out HGr.out HDr.out HF.out, T3⟩
                | false =>
                  have HF : Hid _ := hS.out hf
                  rw [hf] at y0
                  clear hf
                  have hset := hFR.set hxs
                  go_wp2
                  go_roundw
                  case rel => exact ⟨c + 1, _, by omega, by go_num, HF.out, hset⟩
                  case measure => simp [intOf]; omega
              · obtain rfl : len = c := by omega
                have hnext := HN.out f hSI
                go_wp2
                go_roundw
                case rel => exact ⟨j + 1, f, by omega, by go_num, hnext, hFR⟩
                case measure => simp [intOf]; omega
          · obtain rfl : n = j := by omega
            have HF : Hid (Once k.lns) := HS.out f hSI
            go_wp2
            go_ret
            exact ⟨RetCode.c0 HFr.out HWy.out HGr.out HDr.out HF.out, T3⟩
  · have HFr : Hid (¬ FrameOk k) := hF
    by_cases h0 : k.ok = true
    · rw [h0]
      by_cases h1 : 1 ≤ k.sec ∧ k.sec ≤ 200
      · have h3 : (20 : Int) < (k.lns.length : Int) := by
          by_cases h3 : k.lns.length ≤ 20
          · exact absurd ⟨h0, h1.1, h1.2, h3⟩ hF
          · omega
        clear h0 hF
        go_enter Tryd.func23, Tryd.ntmps23
        go_wp2_with fail
        refine (l1in_yes k.sec 1 200 _ h1.1 h1.2).mono ?_
        rintro e w1 ⟨rfl, rfl⟩
        go_wp2
        go_ret
        exact ⟨RetCode.c1 HFr.out, a1 _⟩
      · clear h0 hF
        go_enter Tryd.func23, Tryd.ntmps23
        go_wp2_with fail
        refine (l1in_no k.sec 1 200 _ h1).mono ?_
        rintro e w1 ⟨rfl, rfl⟩
        go_wp2
        go_ret
        exact ⟨RetCode.c1 HFr.out, a1 _⟩
    · have h0' : k.ok = false := by simpa using h0
      rw [h0']
      clear h0 h0' hF
      go_enter Tryd.func23, Tryd.ntmps23
      go_wp2
      go_ret
      exact ⟨RetCode.c1 HFr.out, a1 _⟩

end Go.Proofs.YtnaaheddhgpnoaaDoor
