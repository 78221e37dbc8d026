import Derived.Test.YtnaaheddhgpnoaaDoorBackW
namespace Go.Proofs.YtnaaheddhgpnoaaDoor
open Go.ChangeShapes Go.WideShapes Go.ChangeAt Go.RowKit

set_option maxHeartbeats 4000000 in
set_option maxRecDepth 100000 in
theorem back_walk (v : Value) (w : World) (a0 a1 a2 : Addr) (h : BysAt w v) (he : Errs w a0 a1 a2) :
    Calls Tryd.prog 5 #[v] w fun r w' => r = .returned (.bool true) ∧ Below w.heap.size w w' := by
  have hK := h
  obtain ⟨a, m, cap, rfl, h2, h3, _⟩ := h
  unfold maxLen at h3
  obtain ⟨iE, hiE, hzE0, hzE1, hzE2⟩ := info_parts Tryd.infoEv
  by_cases hbig : (1048576 : Int) < (m : Int)
  · go_enter Tryd.func5, Tryd.ntmps5
    go_wp2
    go_ret
    exact ⟨rfl, Below.refl _ _⟩
  · go_enter Tryd.func5, Tryd.ntmps5
    go_wp2_with fail
    refine (wByte_any _ 0 _ hK).mono ?_
    rintro _ w1 ⟨⟨x0, hx0, rfl⟩, rfl⟩
    obtain ⟨n, hn⟩ : ∃ n : Nat, n = 2 + x0 % 20 := ⟨_, rfl⟩
    have hnI : (2 : Int) + (x0 : Int) % 20 = (n : Int) := by omega
    have hn2 : 2 ≤ n := by omega
    have hn21 : n ≤ 21 := by omega
    clear hn
    go_wp2_with fail
    refine (wByte_any _ 1 _ hK).mono ?_
    rintro _ w1 ⟨⟨x1, hx1, rfl⟩, rfl⟩
    obtain ⟨e, hee⟩ : ∃ e : Nat, e = 1 + x1 % n := ⟨_, rfl⟩
    have heI : (1 : Int) + (x1 : Int) % (n : Int) = (e : Int) := by omega
    have hm1 : x1 % n < n := Nat.mod_lt _ (by omega)
    have he1 : 1 ≤ e := by omega
    have hen : e ≤ n := by omega
    clear hee hm1
    go_wp2_with fail
    refine (wByte_any _ 2 _ hK).mono ?_
    rintro _ w1 ⟨⟨x2, hx2, rfl⟩, rfl⟩
    obtain ⟨t, htt⟩ : ∃ t : Nat, t = x2 % e := ⟨_, rfl⟩
    have htI : (x2 : Int) % (e : Int) = (t : Int) := by omega
    have hte : t < e := by rw [htt]; exact Nat.mod_lt _ (by omega)
    clear htt
    go_wp2_with fail
    rw [htI]
    have HK : Hid (BysAt w1 (.slice a m cap)) := hK
    have HX : Hid ((2 : Int) + (x0 : Int) % 20 = (n : Int) ∧ (1 : Int) + (x1 : Int) % (n : Int) = (e : Int) ∧ (x2 : Int) % (e : Int) = (t : Int)) := ⟨hnI, heI, htI⟩
    clear hnI heI htI hK hx0 hx1 hx2
    go_loopw [6, 7] (fun lv i wr => ∃ j : Nat, j ≤ n ∧ i = .int .i64 j ∧ wr.ownsRow w1.heap.size 46 3 lv j (evCells (addEs j)) ∧ Below w1.heap.size w1 wr) (fun _ i _ => n - (intOf i).toNat)
    case atStart => exact ⟨0, Nat.zero_le _, rfl, World.ownsRow_nil _ _ _ _, Below.refl _ _⟩
    case round =>
      obtain ⟨j, hj, rfl, hown, hbw⟩ := hrel
      obtain ⟨la, lc, hlv⟩ := own_slice hown
      subst hlv
      by_cases hlt : j < n
      · have hz := hbw.size
        have HOl : Hid (∀ x, (Value.slice la j lc).ownBlock = some x → w1.heap.size ≤ x) := fun x hx => (hown.lt x hx).1
        go_wp2_with (first
          | (at_builtin; refine wpList_append_own _ rfl _ _ 23 rfl w1.heap.size 46 iE _ 3 24 Tryd.underlying23 hiE hzE0 hzE1 hzE2 rfl (by decide) _ j _ rfl (hown.alloc _) ⟨wr.heap.size, 0, none⟩ 1 1 [.int .i64 1, .int .i64 0, .int .i64 (j : Int)] rfl rfl (World.news_of_block (cs := #[.int .i64 1, .int .i64 0, .int .i64 (j : Int)]) (t := 46) (fr := (0, 0)) (heap_alloc_new wr _)) (by simp [Value.oneCell']) (by unfold maxLen; omega) (by omega) (by simp; omega) ?_
             intro v3 w3 hown3 hgrow3 hnil3
             obtain ⟨a3, c3', hv3⟩ := own_slice hown3
             subst hv3))
        go_roundw
        case rel => exact ⟨j + 1, by omega, by go_num, by rw [← addEs_succ]; simpa [evCells] using hown3, (hbw.alloc hbw.size _).grown hgrow3 (by simp; omega) (fun x hx => HOl.out x hx)⟩
        case measure => simp [intOf]; omega
      · obtain rfl : j = n := by omega
        have hz := hbw.size
        have HOl : Hid (∀ x, (Value.slice la j lc).ownBlock = some x → w1.heap.size ≤ x) := fun x hx => (hown.lt x hx).1
        have HE : Hid (∀ W, Below w1.heap.size w1 W → Errs W a0 a1 a2) := fun W hw => he.below hw he.lt
        clear he
        go_wp2_with (first
          | (at_builtin; refine wpList_append_own _ rfl _ _ 23 rfl w1.heap.size 46 iE _ 3 24 Tryd.underlying23 hiE hzE0 hzE1 hzE2 rfl (by decide) _ j _ rfl (hown.alloc _) ⟨wr.heap.size, 0, none⟩ 3 3 [.int .i64 2, .int .i64 0, .int .i64 (e : Int), .int .i64 2, .int .i64 0, .int .i64 (t : Int), .int .i64 5, .int .i64 0, .int .i64 (t : Int)] rfl rfl (World.news_of_block (cs := #[.int .i64 2, .int .i64 0, .int .i64 (e : Int), .int .i64 2, .int .i64 0, .int .i64 (t : Int), .int .i64 5, .int .i64 0, .int .i64 (t : Int)]) (t := 46) (fr := (0, 0)) (heap_alloc_new wr _)) (by simp [Value.oneCell']) (by unfold maxLen; omega) (by omega) (by simp; omega) ?_
             intro v3 w3 hown3 hgrow3 hnil3
             obtain ⟨a3, c3', hv3⟩ := own_slice hown3
             subst hv3)
          | fail)
        have bW3 : Below w1.heap.size w1 w3 := (hbw.alloc hbw.size _).grown hgrow3 (by simp; omega) (fun x hx => HOl.out x hx)
        have hown4 : w3.ownsRow w1.heap.size 46 3 (.slice a3 (j + 3) c3') (backEs j e t).length (evCells (backEs j e t)) := by rw [backEs_len]; simpa [backEs, evCells] using hown3
        obtain ⟨eb, hEv, _⟩ := own_evs hown4 (by rw [backEs_len]; omega)
        have hRun := run_walk (j : Int) 2 (backEs j e t) _ [eb] w3 a0 a1 a2 (backK j e t) hEv (HE.out _ bW3) (by omega) (by omega) (by decide) (by decide) (by rw [backEs_len]; omega) (backK_begin j e t (by omega) (by omega)) (fun i hi => back_step j e t (by omega) (by omega) hen hte i (by rwa [backEs_len] at hi))
        rw [backEs_len, backK_3] at hRun
        clear hown hbw hown3 hgrow3 hnil3 hown4 hEv
        refine hRun.mono ?_
        rintro _ w4 ⟨rb, vl, bl, rfl, hls, hcell, hb4⟩
        obtain ⟨k0, k1, k2, k3⟩ := hcell (j + 2) rfl
        have bW4 := bW3.trans (hb4.mono bW3.size)
        clear hcell hRun hb4
        obtain ⟨la2, lc2, rfl, hl1, hl2, hlc⟩ := id hls
        have hrb : rb < w4.heap.size := World.block_lt_of_cell? _ _ k0
        rcases hlc with ⟨h00, _⟩ | ⟨lb2, lo2, D, rfl, _, hlb, hcs⟩
        · exact absurd h00 (by show ¬ (2 : Nat) = 0; decide)
        obtain ⟨vw, vg, D1, D2, q0, q1, _, q3, _, hiw, _⟩ := hcs 0 (by show 0 < 2; decide)
        obtain ⟨aw, cw, rfl, hw1, hw2, _⟩ := hiw
        rw [show ((two j (lnQ e (g3 e t) (t : Int))).lns[0]?.getD ln0).way.length = e from ways_len e] at q1
        rw [show ((two j (lnQ e (g3 e t) (t : Int))).lns[0]?.getD ln0).drop = (t : Int) from rfl] at q3
        simp only [Nat.zero_mul, Nat.add_zero] at q1 q3
        have HA : Hid (BkAt w4 (.agg #[.bool true, .int .i64 (j : Int), .slice (some ⟨lb2, lo2, none⟩) 2 lc2]) (two j (lnQ e (g3 e t) (t : Int))) bl) := ⟨_, rfl, hls⟩
        have hsec : (two j (lnQ e (g3 e t) (t : Int))).sec = (j : Int) := rfl
        rw [hsec] at k2
        have hl20 : (2 : Nat) ≤ lc2 := hl1
        clear hcs hls hl1 hw1 hw2
        have hbool : (two j (lnQ e (g3 e t) (t : Int))).ok = true := rfl
        rw [hbool] at k1
        rw [show (two j (lnQ e (g3 e t) (t : Int))).lns.length = 2 from rfl] at k3
        have hj2 : (j : Int) + 2 < (j : Int) + 3 := by omega
        have bA : Below w4.heap.size w4 (w4.alloc (.cells #[.bool true, .int .i64 (j : Int), .slice (some ⟨lb2, lo2, none⟩) 2 lc2] 32)) := (Below.refl _ _).alloc (Nat.le_refl _) _
        have eA : BlkIs (w4.alloc (.cells #[.bool true, .int .i64 (j : Int), .slice (some ⟨lb2, lo2, none⟩) 2 lc2] 32)) w4.heap.size [.bool true, .int .i64 (j : Int), .slice (some ⟨lb2, lo2, none⟩) 2 lc2] 32 := BlkIs.new _ _ _
        have hfd : ∀ (c s : Int) (o v : Value) (x : World), (Instr.field 34 (.agg #[.int .i64 c, o, .int .i64 s, v]) 0).run Tryd.prog x = .ok (.int .i64 c) x := fun _ _ _ _ _ => by kernel_rfl
        have HD : Hid (∀ W, Below w4.heap.size w4 W → ∀ ev : Ev, EvOk (two j (lnQ e (g3 e t) (t : Int))) ev → ev.op ≠ 4 → (doLn (two j (lnQ e (g3 e t) (t : Int))) ev).1 ≠ 4 → Calls Tryd.prog 18 #[(.agg #[.bool true, .int .i64 (j : Int), .slice (some ⟨lb2, lo2, none⟩) 2 lc2]), .agg #[.int .i64 ev.op, .int .i64 ev.train, .int .i64 ev.n]] W fun r w' => ∃ vl bs', r = .returned (.agg #[.int .i64 (doLn (two j (lnQ e (g3 e t) (t : Int))) ev).1, .bool true, .int .i64 (j : Int), vl]) ∧ LnsAt w' vl (doBk (two j (lnQ e (g3 e t) (t : Int))) ev).lns bs' ∧ Below W.heap.size W w' ∧ ∀ x ∈ bs', W.heap.size ≤ x) := fun W hW ev h1 h2 h3 => implDo_any (two j (lnQ e (g3 e t) (t : Int))) ev _ bl W a0 a1 a2 (HA.out.below hW HA.out.lt) (HE.out _ (bW4.trans (hW.mono bW4.size))) h1 h2 h3
        have HAa : Hid _ := askA j e t (by omega) (by omega) hen hte
        go_wp2_with fail
        generalize (w4.alloc (.cells #[.bool true, .int .i64 (j : Int), .slice (some ⟨lb2, lo2, none⟩) 2 lc2] 32)) = B at *
        have bWB := bW4.trans (bA.mono bW4.size)
        have hDo1 := HD.out B bA ⟨1, 1, (e : Int) - 1⟩ HAa.out.1 (by show (1 : Int) ≠ 4; decide) (by rw [HAa.out.2]; decide)
        rw [HAa.out.2] at hDo1
        refine hDo1.mono ?_
        rintro _ w5 ⟨vl5, bs5, rfl, hls5, hb5, _⟩
        obtain ⟨a5, n5, c5, rfl⟩ := hls5.slice
        have bA5 := bA.trans (hb5.mono bA.size)
        have eA5 := eA.below hb5 eA.lt
        obtain ⟨y0, y1, y2⟩ := eA5.three
        clear hDo1 hls5 k0 k1 k2 k3 q0 q1 q3
        by_cases hlt : e < j
        · have hlt' : (e : Int) < (j : Int) := by omega
          have HAb : Hid _ := askB j e t (by omega) (by omega) hlt hte
          go_wp2_with fail
          have hDo2 := HD.out w5 bA5 ⟨1, 1, (e : Int)⟩ HAb.out.1 (by show (1 : Int) ≠ 4; decide) (by rw [HAb.out.2]; decide)
          rw [HAb.out.2] at hDo2
          refine hDo2.mono ?_
          rintro _ w6 ⟨vl6, bs6, rfl, hls6, hb6, _⟩
          obtain ⟨a6, n6, c6, rfl⟩ := hls6.slice
          have bA6 := bA5.trans (hb6.mono bA5.size)
          have eA6 := eA5.below hb6 eA5.lt
          clear hDo2 hls6 y0 y1 y2
          obtain ⟨y0, y1, y2⟩ := eA6.three
          go_wp2_with fail
          have HAck1 : Hid _ := ackA j e t (by omega) (by omega) hen hte
          have HAck2 : Hid _ := ackB j e t (by omega) (by omega) hen hte
          have hDo3 := HD.out w6 bA6 ⟨3, 0, 1⟩ HAck1.out.1 (by show (3 : Int) ≠ 4; decide) (by rw [HAck1.out.2.1]; decide)
          rw [HAck1.out.2.1, HAck1.out.2.2] at hDo3
          refine hDo3.mono ?_
          rintro _ w7 ⟨vl7, bs7, rfl, hls7, hb7, _⟩
          obtain ⟨b7, n7, c7, rfl⟩ := hls7.slice
          have bA7 := bA6.trans (hb7.mono bA6.size)
          have eA7 := eA6.below hb7 eA6.lt
          have HL7 : Hid (LnsAt w7 (.slice b7 n7 c7) (two j (lnQ e (g3b e t) (t : Int))).lns bs7) := hls7
          have bF7 : Below w7.heap.size w7 (w7.alloc (.cells #[.int .i64 0, .bool true, .int .i64 (j : Int), .slice b7 n7 c7] 34)) := (Below.refl _ _).alloc (Nat.le_refl _) _
          have eF7 : BlkIs (w7.alloc (.cells #[.int .i64 0, .bool true, .int .i64 (j : Int), .slice b7 n7 c7] 34)) w7.heap.size [.int .i64 0, .bool true, .int .i64 (j : Int), .slice b7 n7 c7] 34 := BlkIs.new _ _ _
          have eA8 := eA7.below bF7 eA7.lt
          have bA8 := bA7.trans (bF7.mono bA7.size)
          clear hDo3 hls7 y0 y1 y2
          obtain ⟨y0, y1, y2⟩ := eA8.three
          go_wp2_with fail
          generalize (w7.alloc (.cells #[.int .i64 0, .bool true, .int .i64 (j : Int), .slice b7 n7 c7] 34)) = B7 at *
          have hDo4 := HD.out B7 bA8 ⟨3, 0, 2⟩ HAck2.out.1 (by show (3 : Int) ≠ 4; decide) (by rw [HAck2.out.2.1]; decide)
          rw [HAck2.out.2.1, HAck2.out.2.2] at hDo4
          refine hDo4.mono ?_
          rintro _ w9 ⟨vl9, bs9, rfl, hls9, hb9, _⟩
          obtain ⟨b9, n9, c9, rfl⟩ := hls9.slice
          have bA9 := bA8.trans (hb9.mono bA8.size)
          have eF8 := eF7.below hb9 eF7.lt
          have bF9 : Below w9.heap.size w9 (w9.alloc (.cells #[.int .i64 0, .bool true, .int .i64 (j : Int), .slice b9 n9 c9] 34)) := (Below.refl _ _).alloc (Nat.le_refl _) _
          have bAF := bA9.trans (bF9.mono bA9.size)
          have hlb7 := (HL7.out.below bF7 HL7.out.lt).below hb9 (fun x hx => Nat.lt_of_lt_of_le (HL7.out.lt x hx) bF7.size)
          have hlb := hlb7
          have hlc9 := hls9
          have hz79 : w7.heap.size < w9.heap.size := eF8.lt
          have hb9z : b9 = b9 := rfl
          clear hDo4 hlb7 y0 y1 y2 eF7 hb9z
          have HC9 : Hid (BkAt w9 (.agg #[.bool true, .int .i64 (j : Int), .slice b9 n9 c9]) (two j (lnQ t (g3c t) (-1))) bs9) := ⟨_, rfl, hlc9⟩
          obtain ⟨g0, g1', g2', g3'⟩ := eF8.four
          obtain ⟨_, _, hvb, _, _, hbb⟩ := hlb
          obtain ⟨_, _, hvc, _, _, hcc⟩ := hlc9
          simp only [Value.slice.injEq] at hvb hvc
          obtain ⟨rfl, hn7, rfl⟩ := hvb
          obtain ⟨rfl, hn9, rfl⟩ := hvc
          have hn7' : n7 = 2 := hn7
          have hn9' : n9 = 2 := hn9
          clear hn7 hn9
          subst hn7' hn9'
          rcases hbb with ⟨h00, _⟩ | ⟨lbb, lob, Db, rfl, _, hlbb, hcb⟩
          · exact absurd h00 (by show ¬ (2 : Nat) = 0; decide)
          rcases hcc with ⟨h00, _⟩ | ⟨lbc, loc, Dc, rfl, _, hlbc, hcc⟩
          · exact absurd h00 (by show ¬ (2 : Nat) = 0; decide)
          obtain ⟨vwb, _, _, _, _, qb1, _, _, _, hib, _⟩ := hcb 0 (by show 0 < 2; decide)
          obtain ⟨vwc, _, _, _, _, qc1, _, qc3, _, hic, _⟩ := hcc 0 (by show 0 < 2; decide)
          obtain ⟨awb, cwb, rfl, _⟩ := hib
          obtain ⟨awc, cwc, rfl, _⟩ := hic
          rw [show (((two j (lnQ e (g3b e t) (t : Int)))).lns[0]?.getD ln0).way.length = e from ways_len e] at qb1
          rw [show (((two j (lnQ t (g3c t) (-1)))).lns[0]?.getD ln0).way.length = t from ways_len t] at qc1
          rw [show (((two j (lnQ t (g3c t) (-1)))).lns[0]?.getD ln0).drop = -1 from rfl] at qc3
          simp only [Nat.zero_mul, Nat.add_zero] at qb1 qc1 qc3
          clear hcb hcc
          have HAc : Hid _ := askC j e t (by omega) (by omega) hen hte
          go_wp2_with fail
          have hDo5 := implDo_any (two j (lnQ t (g3c t) (-1))) ⟨1, 1, (e : Int) - 1⟩ _ bs9 _ a0 a1 a2 (HC9.out.below bF9 HC9.out.lt) (HE.out _ (bW4.trans ((bA9.trans (bF9.mono bA9.size)).mono bW4.size))) HAc.out.1 (by show (1 : Int) ≠ 4; decide) (by rw [HAc.out.2]; decide)
          rw [HAc.out.2] at hDo5
          refine hDo5.mono ?_
          rintro _ wz ⟨vlz, bsz, rfl, hlz, hbz, _⟩
          obtain ⟨az, nz, cz, rfl⟩ := hlz.slice
          clear hDo5 hlz
          go_wp2
          go_ret
          exact ⟨rfl, bW4.trans ((bAF.trans (hbz.mono bAF.size)).mono bW4.size)⟩
        · have hlt' : ¬ (e : Int) < (j : Int) := by omega
          go_wp2_with fail
          have HAck1 : Hid _ := ackA j e t (by omega) (by omega) hen hte
          have HAck2 : Hid _ := ackB j e t (by omega) (by omega) hen hte
          have hDo3 := HD.out w5 bA5 ⟨3, 0, 1⟩ HAck1.out.1 (by show (3 : Int) ≠ 4; decide) (by rw [HAck1.out.2.1]; decide)
          rw [HAck1.out.2.1, HAck1.out.2.2] at hDo3
          refine hDo3.mono ?_
          rintro _ w7 ⟨vl7, bs7, rfl, hls7, hb7, _⟩
          obtain ⟨b7, n7, c7, rfl⟩ := hls7.slice
          have bA7 := bA5.trans (hb7.mono bA5.size)
          have eA7 := eA5.below hb7 eA5.lt
          have HL7 : Hid (LnsAt w7 (.slice b7 n7 c7) (two j (lnQ e (g3b e t) (t : Int))).lns bs7) := hls7
          have bF7 : Below w7.heap.size w7 (w7.alloc (.cells #[.int .i64 0, .bool true, .int .i64 (j : Int), .slice b7 n7 c7] 34)) := (Below.refl _ _).alloc (Nat.le_refl _) _
          have eF7 : BlkIs (w7.alloc (.cells #[.int .i64 0, .bool true, .int .i64 (j : Int), .slice b7 n7 c7] 34)) w7.heap.size [.int .i64 0, .bool true, .int .i64 (j : Int), .slice b7 n7 c7] 34 := BlkIs.new _ _ _
          have eA8 := eA7.below bF7 eA7.lt
          have bA8 := bA7.trans (bF7.mono bA7.size)
          clear hDo3 hls7 y0 y1 y2
          obtain ⟨y0, y1, y2⟩ := eA8.three
          go_wp2_with fail
          generalize (w7.alloc (.cells #[.int .i64 0, .bool true, .int .i64 (j : Int), .slice b7 n7 c7] 34)) = B7 at *
          have hDo4 := HD.out B7 bA8 ⟨3, 0, 2⟩ HAck2.out.1 (by show (3 : Int) ≠ 4; decide) (by rw [HAck2.out.2.1]; decide)
          rw [HAck2.out.2.1, HAck2.out.2.2] at hDo4
          refine hDo4.mono ?_
          rintro _ w9 ⟨vl9, bs9, rfl, hls9, hb9, _⟩
          obtain ⟨b9, n9, c9, rfl⟩ := hls9.slice
          have bA9 := bA8.trans (hb9.mono bA8.size)
          have eF8 := eF7.below hb9 eF7.lt
          have bF9 : Below w9.heap.size w9 (w9.alloc (.cells #[.int .i64 0, .bool true, .int .i64 (j : Int), .slice b9 n9 c9] 34)) := (Below.refl _ _).alloc (Nat.le_refl _) _
          have bAF := bA9.trans (bF9.mono bA9.size)
          have hlb7 := (HL7.out.below bF7 HL7.out.lt).below hb9 (fun x hx => Nat.lt_of_lt_of_le (HL7.out.lt x hx) bF7.size)
          have hlb := hlb7
          have hlc9 := hls9
          have hz79 : w7.heap.size < w9.heap.size := eF8.lt
          have hb9z : b9 = b9 := rfl
          clear hDo4 hlb7 y0 y1 y2 eF7 hb9z
          have HC9 : Hid (BkAt w9 (.agg #[.bool true, .int .i64 (j : Int), .slice b9 n9 c9]) (two j (lnQ t (g3c t) (-1))) bs9) := ⟨_, rfl, hlc9⟩
          obtain ⟨g0, g1', g2', g3'⟩ := eF8.four
          obtain ⟨_, _, hvb, _, _, hbb⟩ := hlb
          obtain ⟨_, _, hvc, _, _, hcc⟩ := hlc9
          simp only [Value.slice.injEq] at hvb hvc
          obtain ⟨rfl, hn7, rfl⟩ := hvb
          obtain ⟨rfl, hn9, rfl⟩ := hvc
          have hn7' : n7 = 2 := hn7
          have hn9' : n9 = 2 := hn9
          clear hn7 hn9
          subst hn7' hn9'
          rcases hbb with ⟨h00, _⟩ | ⟨lbb, lob, Db, rfl, _, hlbb, hcb⟩
          · exact absurd h00 (by show ¬ (2 : Nat) = 0; decide)
          rcases hcc with ⟨h00, _⟩ | ⟨lbc, loc, Dc, rfl, _, hlbc, hcc⟩
          · exact absurd h00 (by show ¬ (2 : Nat) = 0; decide)
          obtain ⟨vwb, _, _, _, _, qb1, _, _, _, hib, _⟩ := hcb 0 (by show 0 < 2; decide)
          obtain ⟨vwc, _, _, _, _, qc1, _, qc3, _, hic, _⟩ := hcc 0 (by show 0 < 2; decide)
          obtain ⟨awb, cwb, rfl, _⟩ := hib
          obtain ⟨awc, cwc, rfl, _⟩ := hic
          rw [show (((two j (lnQ e (g3b e t) (t : Int)))).lns[0]?.getD ln0).way.length = e from ways_len e] at qb1
          rw [show (((two j (lnQ t (g3c t) (-1)))).lns[0]?.getD ln0).way.length = t from ways_len t] at qc1
          rw [show (((two j (lnQ t (g3c t) (-1)))).lns[0]?.getD ln0).drop = -1 from rfl] at qc3
          simp only [Nat.zero_mul, Nat.add_zero] at qb1 qc1 qc3
          clear hcb hcc
          have HAc : Hid _ := askC j e t (by omega) (by omega) hen hte
          go_wp2_with fail
          have hDo5 := implDo_any (two j (lnQ t (g3c t) (-1))) ⟨1, 1, (e : Int) - 1⟩ _ bs9 _ a0 a1 a2 (HC9.out.below bF9 HC9.out.lt) (HE.out _ (bW4.trans ((bA9.trans (bF9.mono bA9.size)).mono bW4.size))) HAc.out.1 (by show (1 : Int) ≠ 4; decide) (by rw [HAc.out.2]; decide)
          rw [HAc.out.2] at hDo5
          refine hDo5.mono ?_
          rintro _ wz ⟨vlz, bsz, rfl, hlz, hbz, _⟩
          obtain ⟨az, nz, cz, rfl⟩ := hlz.slice
          clear hDo5 hlz
          go_wp2
          go_ret
          exact ⟨rfl, bW4.trans ((bAF.trans (hbz.mono bAF.size)).mono bW4.size)⟩

end Go.Proofs.YtnaaheddhgpnoaaDoor
