import Derived.Test.YtnaaheddhgpnoabBookSp
import Derived.Test.YtnaaheddhgpnoabBegin
import Derived.Test.YtnaaheddhgpnoabOnD
import Derived.Deep.Cut
namespace Go.Proofs.Ytnaaheddhgpnoab
open Go.ChangeShapes Go.WideShapes Go.ChangeAt Go.RowKit

theorem GrsAt.at {w : World} {a : Option Addr} {n c : Nat} {gs : List Gr} {bs : List Nat} (h : GrsAt w (.slice a n c) gs bs) : n = gs.length := by
  obtain ⟨a', c', hv, _⟩ := h
  simp only [Value.slice.injEq] at hv
  exact hv.2.1

set_option maxHeartbeats 4000000 in
set_option maxRecDepth 100000 in
theorem l3ok_any (k : Wd) (v : Value) (bs : List Nat) (w : World) (h : WdAt w v k bs) (hwf : ∀ i : Nat, I64 (k.bds[i]?.getD bd0).ver) :
    Calls Try.prog 31 #[v] w fun e w' => RetB e (WdRight k) ∧ Below w.heap.size w w' := by
  obtain ⟨vl, vb, b1, b2, rfl, rfl, hl, hd⟩ := h
  have HLs : Hid (LnsAt w vl k.bk.lns b1) := hl
  have HWf : Hid (∀ i : Nat, I64 (k.bds[i]?.getD bd0).ver) := hwf
  clear hwf
  obtain ⟨al, cl, rfl, hl1, hl2, hl3⟩ := hl
  obtain ⟨ad, cd, rfl, hd1, hd2, hd3⟩ := hd
  unfold maxLen at hl2 hd2
  have HL3 : Hid _ := hl3
  have HD3 : Hid _ := hd3
  clear hl3 hd3
  generalize hn : k.bk.lns.length = n at *
  generalize hm : k.bds.length = m at *
  have Hn : Hid (k.bk.lns.length = n ∧ k.bds.length = m) := ⟨hn, hm⟩
  clear hn hm
  have B0 : Below w.heap.size w (w.alloc (.cells #[.bool k.ok, .bool k.bk.ok, .int .i64 k.bk.sec, .slice al n cl, .slice ad m cd] 28)) := (Below.refl _ _).alloc (Nat.le_refl _) _
  have X0 : BlkIs (w.alloc (.cells #[.bool k.ok, .bool k.bk.ok, .int .i64 k.bk.sec, .slice al n cl, .slice ad m cd] 28)) w.heap.size [.bool k.ok, .bool k.bk.ok, .int .i64 k.bk.sec, .slice al n cl, .slice ad m cd] 28 := BlkIs.new _ _ _
  by_cases hok : k.ok = true
  · rw [hok] at B0 X0 ⊢
    have Hok : Hid (k.ok = true) := hok
    clear hok
    go_enter Try.func31, Try.ntmps31
    go_wp2_with fail
    generalize (w.alloc (.cells #[.bool true, .bool k.bk.ok, .int .i64 k.bk.sec, .slice al n cl, .slice ad m cd] 28)) = V at *
    refine (specBookOk_any k.bk _ b1 _ ⟨_, rfl, HLs.out.below B0 HLs.out.lt⟩).mono ?_
    rintro e w1 ⟨⟨c, rfl, hc⟩, hb1⟩
    have X1 := X0.below hb1 X0.lt
    have B1 := B0.trans (hb1.mono B0.size)
    obtain ⟨x0, x1, x2, x3, x4⟩ := X1.five
    clear X0 B0 hb1
    by_cases hc0 : c = 0
    · subst hc0
      have HR : Hid (Right k.bk) := hc.zero.1 rfl
      clear hc
      by_cases hmn : m = n
      · subst hmn
        go_wp2_with fail
        go_loopw [29] (fun i wr => ∃ j : Nat, j ≤ m ∧ i = .int .i64 j ∧ (∀ i, i < j → BodyOk (k.bk.lns[i]?.getD ln0) (k.bds[i]?.getD bd0)) ∧ Below w.heap.size w wr ∧ BlkIs wr w.heap.size [.bool true, .bool k.bk.ok, .int .i64 k.bk.sec, .slice al m cl, .slice ad m cd] 28) (fun i _ => m - (intOf i).toNat)
        case atStart => exact ⟨0, Nat.zero_le _, rfl, fun i hi => absurd hi (by omega), B1, X1⟩
        case round =>
          clear x0 x1 x2 x3 x4 X1 B1
          obtain ⟨j, hj, rfl, hall, Bw, X⟩ := hrel
          have HA : Hid (∀ i, i < j → BodyOk (k.bk.lns[i]?.getD ln0) (k.bds[i]?.getD bd0)) := hall
          clear hall
          by_cases hlt : j < m
          · obtain ⟨L, o, D, rfl, _, hLs, hLc⟩ : ∃ L o D, al = some ⟨L, o, none⟩ ∧ True ∧ L < w.heap.size ∧ LnCells w L (o + j * 4) (k.bk.lns[j]?.getD ln0) D := by
              rcases HL3.out with ⟨h0, _⟩ | ⟨L, o, D, h1, _, h2, h3⟩
              · omega
              · exact ⟨L, o, D j, h1, trivial, h2, h3 j hlt⟩
            obtain ⟨N, q, rfl, hNs, hNc⟩ : ∃ N q, ad = some ⟨N, q, none⟩ ∧ N < w.heap.size ∧ BdCells w N (q + j * 4) (k.bds[j]?.getD bd0) := by
              rcases HD3.out with ⟨h0, _⟩ | ⟨N, q, h1, _, h2, h3⟩
              · omega
              · exact ⟨N, q, h1, h2, h3 j hlt⟩
            have HGs : Hid (GrsOk (k.bk.lns[j]?.getD ln0)) := HR.out.grs j (by rw [Hn.out.1]; exact hlt)
            have HI64 : Hid (I64 (k.bds[j]?.getD bd0).ver) := HWf.out j
            generalize hlj : k.bk.lns[j]?.getD ln0 = l at *
            generalize hbj : k.bds[j]?.getD bd0 = b at *
            have HJ : Hid (k.bk.lns[j]?.getD ln0 = l ∧ k.bds[j]?.getD bd0 = b) := ⟨hlj, hbj⟩
            clear hlj hbj
            obtain ⟨vw, vg, D1, D2, p0, p1, p2, p3, _, hiw, hig⟩ := hLc
            obtain ⟨aw, nw, cw, rfl⟩ := hiw.slice
            obtain ⟨ag, ng, cg, rfl⟩ := hig.slice
            have HNg : Hid (l.grs.length = ng) := hig.at.symm
            have hng1 : 1 ≤ ng := by have := HGs.out.some; rw [HNg.out] at this; exact this
            have hng20 : ng ≤ 20 := by have := HGs.out.few; rw [HNg.out] at this; exact this
            have HV : Hid (0 ≤ (l.grs[0]?.getD gr0).ver ∧ (l.grs[0]?.getD gr0).ver ≤ 1000000) := by
              have := HGs.out.each 0 (by rw [HNg.out]; exact hng1)
              exact ⟨this.v0, this.v1⟩
            have hngc : ng ≤ cg ∧ cg ≤ 9223372036854775807 := by
              obtain ⟨a', c', hv, h1, h2, _⟩ := hig
              simp only [Value.slice.injEq] at hv
              unfold maxLen at h2
              rw [← hv.2.1, ← hv.2.2] at h1
              rw [← hv.2.2] at h2
              exact ⟨h1, h2⟩
            obtain ⟨hng2, hng3⟩ := hngc
            have p0' := ((bcell Bw).1 _ _ hLs).trans p0
            have p1' := ((bcell Bw).1 _ _ hLs).trans p1
            have p2' := ((bcell Bw).1 _ _ hLs).trans p2
            have p3' := ((bcell Bw).1 _ _ hLs).trans p3
            have c0' := ((bcell Bw).1 _ _ hNs).trans hNc.1
            have c1' := ((bcell Bw).1 _ _ hNs).trans hNc.2.1
            have c2' := ((bcell Bw).1 _ _ hNs).trans hNc.2.2.1
            have c3' := ((bcell Bw).1 _ _ hNs).trans hNc.2.2.2
            have x3 : wr.cell? ⟨w.heap.size, 3, none⟩ = some (.slice (some ⟨L, o, none⟩) m cl) := X.cell 3
            have k1 : ∀ q x, (wr.alloc q).cell? ⟨w.heap.size, x, none⟩ = wr.cell? ⟨w.heap.size, x, none⟩ := fun q x => cell_keep (Below.heap_alloc _ _ _ X.lt)
            have k2 : ∀ q x, (wr.alloc q).cell? ⟨L, x, none⟩ = wr.cell? ⟨L, x, none⟩ := fun q x => cell_keep (Below.heap_alloc _ _ _ (Nat.lt_of_lt_of_le hLs Bw.size))
            have aU : Below wr.heap.size wr ((wr.alloc (.cells #[.int .i64 b.ver, .int .i64 b.cel, .int .i64 b.tail, .int .i64 b.front] 54)).alloc (.cells #[.int .i64 l.gone, .slice aw nw cw, .slice ag ng cg, .int .i64 l.drop] 50)) := ((Below.refl _ _).alloc (Nat.le_refl _) _).alloc (by simp) _
            have XU := X.below aU X.lt
            have BU := Bw.trans (aU.mono Bw.size)
            have HZ : Hid (((wr.alloc (.cells #[.int .i64 b.ver, .int .i64 b.cel, .int .i64 b.tail, .int .i64 b.front] 54)).alloc (.cells #[.int .i64 l.gone, .slice aw nw cw, .slice ag ng cg, .int .i64 l.drop] 50)).heap.size = wr.heap.size + 2) := by show _ = _; simp
            have HF : Hid (∀ W, Below ((wr.alloc (.cells #[.int .i64 b.ver, .int .i64 b.cel, .int .i64 b.tail, .int .i64 b.front] 54)).alloc (.cells #[.int .i64 l.gone, .slice aw nw cw, .slice ag ng cg, .int .i64 l.drop] 50)).heap.size ((wr.alloc (.cells #[.int .i64 b.ver, .int .i64 b.cel, .int .i64 b.tail, .int .i64 b.front] 54)).alloc (.cells #[.int .i64 l.gone, .slice aw nw cw, .slice ag ng cg, .int .i64 l.drop] 50)) W → (W.cell? ⟨wr.heap.size, 0, none⟩ = some (.int .i64 b.ver) ∧ W.cell? ⟨wr.heap.size, 1, none⟩ = some (.int .i64 b.cel) ∧ W.cell? ⟨wr.heap.size, 2, none⟩ = some (.int .i64 b.tail) ∧ W.cell? ⟨wr.heap.size, 3, none⟩ = some (.int .i64 b.front)) ∧ W.cell? ⟨wr.heap.size + 1, 0, none⟩ = some (.int .i64 l.gone) ∧ W.cell? ⟨wr.heap.size + 1, 1, none⟩ = some (.slice aw nw cw) ∧ W.cell? ⟨wr.heap.size + 1, 2, none⟩ = some (.slice ag ng cg) ∧ W.cell? ⟨wr.heap.size + 1, 3, none⟩ = some (.int .i64 l.drop)) := fun W hW => by
              have y : BlkIs ((wr.alloc (.cells #[.int .i64 b.ver, .int .i64 b.cel, .int .i64 b.tail, .int .i64 b.front] 54)).alloc (.cells #[.int .i64 l.gone, .slice aw nw cw, .slice ag ng cg, .int .i64 l.drop] 50)) wr.heap.size [.int .i64 b.ver, .int .i64 b.cel, .int .i64 b.tail, .int .i64 b.front] 54 := (BlkIs.new _ _ _).alloc _
              have z : BlkIs ((wr.alloc (.cells #[.int .i64 b.ver, .int .i64 b.cel, .int .i64 b.tail, .int .i64 b.front] 54)).alloc (.cells #[.int .i64 l.gone, .slice aw nw cw, .slice ag ng cg, .int .i64 l.drop] 50)) (wr.heap.size + 1) [.int .i64 l.gone, .slice aw nw cw, .slice ag ng cg, .int .i64 l.drop] 50 := by
                have := BlkIs.new (wr.alloc (.cells #[.int .i64 b.ver, .int .i64 b.cel, .int .i64 b.tail, .int .i64 b.front] 54)) [.int .i64 l.gone, .slice aw nw cw, .slice ag ng cg, .int .i64 l.drop] 50
                rwa [World.size_alloc] at this
              exact ⟨(y.below hW y.lt).four, (z.below hW z.lt).four⟩
            have HGr : Hid (∃ gb go, ag = some ⟨gb, go, none⟩ ∧ gb < wr.heap.size ∧ ∀ W, Below ((wr.alloc (.cells #[.int .i64 b.ver, .int .i64 b.cel, .int .i64 b.tail, .int .i64 b.front] 54)).alloc (.cells #[.int .i64 l.gone, .slice aw nw cw, .slice ag ng cg, .int .i64 l.drop] 50)).heap.size ((wr.alloc (.cells #[.int .i64 b.ver, .int .i64 b.cel, .int .i64 b.tail, .int .i64 b.front] 54)).alloc (.cells #[.int .i64 l.gone, .slice aw nw cw, .slice ag ng cg, .int .i64 l.drop] 50)) W → ∀ i, i < ng → W.cell? ⟨gb, go + i * 2, none⟩ = some (.int .i64 (l.grs[i]?.getD gr0).ver) ∧ W.cell? ⟨gb, go + i * 2 + 1, none⟩ = some (.int .i64 (l.grs[i]?.getD gr0).cel)) := by
              obtain ⟨a', c', hv, h1, h2, h | ⟨gb, go, ha, _, hgs, hgc⟩⟩ := hig
              · have := h.1
                rw [HNg.out] at this
                omega
              · simp only [Value.slice.injEq] at hv
                refine ⟨gb, go, hv.1.trans ha, Nat.lt_of_lt_of_le hgs Bw.size, fun W hW i hi => ?_⟩
                have hB : Below w.heap.size w W := BU.trans (hW.mono BU.size)
                have := hgc i (by rw [HNg.out]; exact hi)
                rw [(bcell hB).1 _ _ hgs, (bcell hB).1 _ _ hgs]
                exact this
            clear p0 p1 p2 p3 hNc hiw hig aU X
            go_upto_region 7 with fail
            clear p0' p1' p2' p3' c0' c1' c2' c3'
            generalize ((wr.alloc (.cells #[.int .i64 b.ver, .int .i64 b.cel, .int .i64 b.tail, .int .i64 b.front] 54)).alloc (.cells #[.int .i64 l.gone, .slice aw nw cw, .slice ag ng cg, .int .i64 l.drop] 50)) = U at *
            have ne : Nonempty (Ext U.heap.size U) := ext_some
            obtain ⟨⟨r0, r1, r2, r3⟩, s0, s1, s2, s3⟩ := HF.out U (Below.refl _ _)
            obtain ⟨gb, go, rfl, hgs, hgc⟩ := HGr.out
            have e0 := Ext.cell (B := U.heap.size) (w := U) (show wr.heap.size < U.heap.size by have := HZ.out; omega) r0
            have f2 := Ext.cell (B := U.heap.size) (w := U) (show wr.heap.size + 1 < U.heap.size by have := HZ.out; omega) s2
            have hgU : gb < U.heap.size := by have := HZ.out; omega
            have g0 := Ext.cell (B := U.heap.size) (w := U) hgU (hgc U (Below.refl _ _) 0 (by omega)).1
            rw [Nat.zero_mul, Nat.add_zero] at g0
            clear r0 r1 r2 r3 s0 s1 s2 s3
            generalize hv0 : (l.grs[0]?.getD gr0).ver = v0 at *
            have HV0 : Hid ((l.grs[0]?.getD gr0).ver = v0) := hv0
            clear hv0
            obtain ⟨hv1, hv2⟩ := HV.out
            obtain ⟨hi1, hi2⟩ := HI64.out
            have hng0 : (0 : Int) < (ng : Int) := by omega
            by_cases hwr : -9223372036854775808 ≤ b.ver - v0
            · have hwr2 : b.ver - v0 ≤ 9223372036854775807 := by omega
              refine wp_region_ext U.heap.size (by kernel_rfl) (by kernel_rfl) ?_
              repeat (go_big_quiet_step (fail))
              refine wpQuiet_nil ?_
              rintro W2 hx2
              have hb2 := ext_below hx2
              clear hx2
              have B2 := BU.trans (hb2.mono BU.size)
              have X2 := XU.below hb2 XU.lt
              clear e0 f2 g0 ne
              have ne : Nonempty (Ext W2.heap.size W2) := ext_some
              obtain ⟨⟨r0, r1, r2, r3⟩, s0, s1, s2, s3⟩ := HF.out W2 hb2
              have l0 : wr.heap.size < W2.heap.size := by have := hb2.size; have := HZ.out; omega
              have l1 : wr.heap.size + 1 < W2.heap.size := by have := hb2.size; have := HZ.out; omega
              have e0 := Ext.cell (B := W2.heap.size) (w := W2) l0 r0
              have e1 := Ext.cell (B := W2.heap.size) (w := W2) l0 r1
              have e2 := Ext.cell (B := W2.heap.size) (w := W2) l0 r2
              have e3 := Ext.cell (B := W2.heap.size) (w := W2) l0 r3
              have f0 := Ext.cell (B := W2.heap.size) (w := W2) l1 s0
              have f2 := Ext.cell (B := W2.heap.size) (w := W2) l1 s2
              clear r0 r1 r2 r3 s0 s1 s2 s3
              go_upto_region 8 with fail
              by_cases hneg : b.ver - v0 < 0
              · have HK : Hid (¬ HasG l.grs b.ver b.cel) := fun h => by
                  have := (has_iff HGs.out b.ver b.cel).1 h
                  rw [HV0.out] at this
                  omega
                have HNo : Hid (¬ WdRight k) := fun h => by
                  have hB := h.each j (by rw [Hn.out.2]; exact hlt)
                  rw [HJ.out.1, HJ.out.2] at hB
                  exact HK.out hB.has
                refine wp_region_ext W2.heap.size (by kernel_rfl) (by kernel_rfl) ?_
                repeat (go_big_quiet_step (fail))
                refine wpQuiet_nil ?_
                rintro w3 hx3
                have hb3 := ext_below hx3
                clear hx3
                have BB := B2.trans (hb3.mono B2.size)
                clear e0 e1 e2 e3 f0 f2
                go_wp2
                go_ret
                exact ⟨RetB.no HNo.out, BB⟩
              · by_cases hbig : (ng : Int) ≤ b.ver - v0
                · have HK : Hid (¬ HasG l.grs b.ver b.cel) := fun h => by
                    have := (has_iff HGs.out b.ver b.cel).1 h
                    rw [HV0.out, HNg.out] at this
                    omega
                  have HNo : Hid (¬ WdRight k) := fun h => by
                    have hB := h.each j (by rw [Hn.out.2]; exact hlt)
                    rw [HJ.out.1, HJ.out.2] at hB
                    exact HK.out hB.has
                  refine wp_region_ext W2.heap.size (by kernel_rfl) (by kernel_rfl) ?_
                  repeat (go_big_quiet_step (fail))
                  refine wpQuiet_nil ?_
                  rintro w3 hx3
                  have hb3 := ext_below hx3
                  clear hx3
                  have BB := B2.trans (hb3.mono B2.size)
                  clear e0 e1 e2 e3 f0 f2
                  go_wp2
                  go_ret
                  exact ⟨RetB.no HNo.out, BB⟩
                · obtain ⟨i, hi⟩ := Int.eq_ofNat_of_zero_le (show 0 ≤ b.ver - v0 by omega)
                  have hing : i < ng := by omega
                  have g1 := Ext.cell (B := W2.heap.size) (w := W2) (Nat.lt_of_lt_of_le hgU hb2.size) (hgc W2 hb2 i hing).2
                  have HC : Hid (HasG l.grs b.ver b.cel ↔ (l.grs[i]?.getD gr0).cel = b.cel) := by
                    show _ ↔ _
                    rw [has_iff HGs.out b.ver b.cel, HV0.out, HNg.out, hi, Int.toNat_natCast]
                    exact ⟨fun h => h.2.2, fun h => ⟨by omega, by omega, h⟩⟩
                  generalize hcl : (l.grs[i]?.getD gr0).cel = cc at *
                  clear hcl
                  rw [hi]
                  have HII : Hid (b.ver - v0 = i) := hi
                  clear hi hneg hbig hwr hwr2
                  have hii : (i : Int) < (ng : Int) := by omega
                  have hi0 : ¬ (i : Int) < 0 := by omega
                  have hi9 : ¬ (ng : Int) ≤ (i : Int) := by omega
                  by_cases hcc : cc = b.cel
                  · by_cases hin : l.gone ≤ b.tail ∧ b.tail ≤ b.front
                    · obtain ⟨t1, t2⟩ := hin
                      by_cases hfr : b.cel ≤ b.front
                      · skip
                        have HNo : Hid (¬ WdRight k) := fun h => by
                          have hB := h.each j (by rw [Hn.out.2]; exact hlt)
                          rw [HJ.out.1, HJ.out.2] at hB
                          have := hB.hi; omega
                        refine wp_region_ext W2.heap.size (by kernel_rfl) (by kernel_rfl) ?_
                        repeat (go_big_quiet_step ((go_at_call 19; exact ext_of_same _ (l1in_yes b.tail l.gone b.front _ t1 t2))))
                        refine wpQuiet_nil ?_
                        rintro w3 hx3
                        have hb3 := ext_below hx3
                        clear hx3
                        have BB := B2.trans (hb3.mono B2.size)
                        clear e0 e1 e2 e3 f0 f2 g1
                        go_wp2
                        go_ret
                        exact ⟨RetB.no HNo.out, BB⟩
                      · have HOk : Hid (BodyOk l b) := ⟨HC.out.2 hcc, t1, t2, by omega⟩
                        refine wp_region_ext W2.heap.size (by kernel_rfl) (by kernel_rfl) ?_
                        repeat (go_big_quiet_step ((go_at_call 19; exact ext_of_same _ (l1in_yes b.tail l.gone b.front _ t1 t2))))
                        refine wpQuiet_nil ?_
                        rintro w3 hx3
                        have hb3 := ext_below hx3
                        clear hx3
                        have BB := B2.trans (hb3.mono B2.size)
                        have XX := X2.below hb3 X2.lt
                        have HS : Hid (∀ i, i < j + 1 → BodyOk (k.bk.lns[i]?.getD ln0) (k.bds[i]?.getD bd0)) := fun i hi => by
                          by_cases e : i = j
                          · subst e; rw [HJ.out.1, HJ.out.2]; exact HOk.out
                          · exact HA.out i (by omega)
                        clear e0 e1 e2 e3 f0 f2 g1
                        go_wp2
                        go_roundw
                        case rel => exact ⟨j + 1, by omega, by go_num, HS.out, BB, XX⟩
                        case measure => simp [intOf]; omega
                    · skip
                      have HNo : Hid (¬ WdRight k) := fun h => by
                        have hB := h.each j (by rw [Hn.out.2]; exact hlt)
                        rw [HJ.out.1, HJ.out.2] at hB
                        exact hin ⟨hB.lo, hB.mid⟩
                      refine wp_region_ext W2.heap.size (by kernel_rfl) (by kernel_rfl) ?_
                      repeat (go_big_quiet_step ((go_at_call 19; exact ext_of_same _ (l1in_no b.tail l.gone b.front _ hin))))
                      refine wpQuiet_nil ?_
                      rintro w3 hx3
                      have hb3 := ext_below hx3
                      clear hx3
                      have BB := B2.trans (hb3.mono B2.size)
                      clear e0 e1 e2 e3 f0 f2 g1
                      go_wp2
                      go_ret
                      exact ⟨RetB.no HNo.out, BB⟩
                  · have hcc' : (cc != b.cel) = true := by simp [hcc]
                    have HNo : Hid (¬ WdRight k) := fun h => by
                      have hB := h.each j (by rw [Hn.out.2]; exact hlt)
                      rw [HJ.out.1, HJ.out.2] at hB
                      exact hcc (HC.out.1 hB.has)
                    refine wp_region_ext W2.heap.size (by kernel_rfl) (by kernel_rfl) ?_
                    repeat (go_big_quiet_step (fail))
                    refine wpQuiet_nil ?_
                    rintro w3 hx3
                    have hb3 := ext_below hx3
                    clear hx3
                    have BB := B2.trans (hb3.mono B2.size)
                    clear e0 e1 e2 e3 f0 f2 g1
                    go_wp2
                    go_ret
                    exact ⟨RetB.no HNo.out, BB⟩
            · have hw64 : IntKind.i64.wrap (b.ver - v0) = b.ver - v0 + 18446744073709551616 := by
                unfold IntKind.wrap
                simp [IntKind.signed, IntKind.bits]
                omega
              refine wp_region_ext U.heap.size (by kernel_rfl) (by kernel_rfl) ?_
              repeat (go_big_quiet_step (fail))
              refine wpQuiet_nil ?_
              rintro W2 hx2
              have hb2 := ext_below hx2
              clear hx2
              have B2 := BU.trans (hb2.mono BU.size)
              clear e0 f2 g0 ne
              have hn0 : ¬ b.ver - v0 + 18446744073709551616 < 0 := by omega
              have hn1 : (ng : Int) ≤ b.ver - v0 + 18446744073709551616 := by omega
              have HK : Hid (¬ HasG l.grs b.ver b.cel) := fun h => by
                have := (has_iff HGs.out b.ver b.cel).1 h
                rw [HV0.out] at this
                omega
              have ne : Nonempty (Ext W2.heap.size W2) := ext_some
              obtain ⟨⟨r0, r1, r2, r3⟩, s0, s1, s2, s3⟩ := HF.out W2 hb2
              have l0 : wr.heap.size < W2.heap.size := by have := hb2.size; have := HZ.out; omega
              have l1 : wr.heap.size + 1 < W2.heap.size := by have := hb2.size; have := HZ.out; omega
              have e0 := Ext.cell (B := W2.heap.size) (w := W2) l0 r0
              have e1 := Ext.cell (B := W2.heap.size) (w := W2) l0 r1
              have e2 := Ext.cell (B := W2.heap.size) (w := W2) l0 r2
              have e3 := Ext.cell (B := W2.heap.size) (w := W2) l0 r3
              have f0 := Ext.cell (B := W2.heap.size) (w := W2) l1 s0
              have f2 := Ext.cell (B := W2.heap.size) (w := W2) l1 s2
              clear r0 r1 r2 r3 s0 s1 s2 s3
              go_upto_region 8 with fail
              have HNo : Hid (¬ WdRight k) := fun h => by
                have hB := h.each j (by rw [Hn.out.2]; exact hlt)
                rw [HJ.out.1, HJ.out.2] at hB
                exact HK.out hB.has
              refine wp_region_ext W2.heap.size (by kernel_rfl) (by kernel_rfl) ?_
              repeat (go_big_quiet_step (fail))
              refine wpQuiet_nil ?_
              rintro w3 hx3
              have hb3 := ext_below hx3
              clear hx3
              have BB := B2.trans (hb3.mono B2.size)
              clear e0 e1 e2 e3 f0 f2
              go_wp2
              go_ret
              exact ⟨RetB.no HNo.out, BB⟩
          · obtain rfl : j = m := by omega
            have HY : Hid (WdRight k) := ⟨Hok.out, HR.out, by rw [Hn.out.1, Hn.out.2], fun i hi => HA.out i (by rw [Hn.out.2] at hi; exact hi)⟩
            go_wp2
            go_ret
            exact ⟨RetB.yes HY.out, Bw⟩
      · have HNo : Hid (¬ WdRight k) := fun h => hmn (by have := h.len; rw [Hn.out.1, Hn.out.2] at this; exact this)
        have hmn' : ¬ (m : Int) = (n : Int) := by omega
        go_wp2
        go_ret
        exact ⟨RetB.no HNo.out, B1⟩
    · have HNo : Hid (¬ WdRight k) := fun h => hc0 (hc.zero.2 h.bk)
      clear hc
      go_wp2
      go_ret
      exact ⟨RetB.no HNo.out, B1⟩
  · have HNo : Hid (¬ WdRight k) := fun h => hok h.ok
    have hok' : k.ok = false := by simpa using hok
    rw [hok'] at B0 ⊢
    clear hok hok' X0
    go_enter Try.func31, Try.ntmps31
    go_wp2
    go_ret
    exact ⟨RetB.no HNo.out, B0⟩

end Go.Proofs.Ytnaaheddhgpnoab
