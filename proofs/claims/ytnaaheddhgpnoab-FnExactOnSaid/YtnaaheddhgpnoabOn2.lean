import Derived.Test.YtnaaheddhgpnoabOnS
import Derived.Deep.AppendLies
namespace Go.Proofs.Ytnaaheddhgpnoab
open Go.ChangeShapes Go.WideShapes Go.ChangeAt Go.RowKit

theorem Try.infoIntO : (Try.prog.info? 3).map (fun i => (i.zero, i.size, i.bytes)) = some (some (.int .i64 0), 1, 8) := by kernel_rfl

theorem BlkIs.grownT {w w' : World} {b B T n size : Nat} {v : Value} {xs c : List Value} {t : TypeId} (h : BlkIs w b c t) (ho : w.ownsRow B T size v n xs) (hg : w.grownBy w' v.ownBlock) (hT : T ≠ t) : BlkIs w' b c t :=
  h.keep (hg.block b h.lt fun e => own_ne ho h hT e.symm)

/-- What a right world gives at line j. -/
theorem wd_line {k : Wd} (h : WdRight k) (j : Nat) (hj : j < k.bds.length) : 0 ≤ (k.bk.lns[j]?.getD ln0).gone ∧ (k.bk.lns[j]?.getD ln0).gone ≤ (k.bds[j]?.getD bd0).tail ∧ (k.bds[j]?.getD bd0).tail ≤ (k.bds[j]?.getD bd0).front ∧ (k.bds[j]?.getD bd0).front < (k.bk.lns[j]?.getD ln0).gone + (k.bk.lns[j]?.getD ln0).way.length ∧ (k.bk.lns[j]?.getD ln0).gone ≤ 1000000 ∧ (k.bk.lns[j]?.getD ln0).way.length ≤ 100 := by
  have hj' : j < k.bk.lns.length := by rw [← h.len]; exact hj
  have hb := h.each j hj
  have hw := h.bk.way j hj'
  have hg := h.bk.grs j hj'
  obtain ⟨i, hi, h1, h2⟩ := hb.has
  have hc := (hg.each i hi).c1
  rw [h2] at hc
  have := hb.hi
  unfold totD at hc
  exact ⟨hw.head.lo, hb.lo, hb.mid, by omega, hw.head.hi, hw.head.len⟩

set_option maxHeartbeats 4000000 in
set_option maxRecDepth 100000 in
theorem specOn_any (k : Wd) (s : Int) (v : Value) (bs : List Nat) (w : World) (xs : List Int) (h : WdAt w v k bs) (hwf : ∀ i : Nat, I64 (k.bds[i]?.getD bd0).ver) (hxs : OnIs k s xs) :
    Calls Try.prog 14 #[v, .int .i64 s] w fun e w' => ∃ v', e = .returned v' ∧ NewInts w w' v' xs := by
  have hK := h
  obtain ⟨vl, vb, b1, b2, rfl, rfl, hl, hd⟩ := h
  obtain ⟨al, cl, rfl, hl1, hl2, hl3⟩ := hl
  obtain ⟨ad, cd, rfl, hd1, hd2, hd3⟩ := hd
  unfold maxLen at hl2 hd2
  have HL3 : Hid _ := hl3
  have HD3 : Hid _ := hd3
  clear hl3 hd3
  generalize hn : k.bk.lns.length = n at *
  generalize hm : k.bds.length = m at *
  have Hn : Hid (k.bk.lns.length = n ∧ k.bds.length = m) := ⟨hn, hm⟩
  clear hn hm
  obtain ⟨ii, hii, hz0, hz1', hz2⟩ := info_parts Try.infoIntO
  have B0 : Below w.heap.size w (w.alloc (.cells #[.bool k.ok, .bool k.bk.ok, .int .i64 k.bk.sec, .slice al n cl, .slice ad m cd] 28)) := (Below.refl _ _).alloc (Nat.le_refl _) _
  have X0 : BlkIs (w.alloc (.cells #[.bool k.ok, .bool k.bk.ok, .int .i64 k.bk.sec, .slice al n cl, .slice ad m cd] 28)) w.heap.size [.bool k.ok, .bool k.bk.ok, .int .i64 k.bk.sec, .slice al n cl, .slice ad m cd] 28 := BlkIs.new _ _ _
  have HC : Hid (∀ W, Below w.heap.size w W → Calls Try.prog 31 #[.agg #[.bool k.ok, .bool k.bk.ok, .int .i64 k.bk.sec, .slice al n cl, .slice ad m cd]] W fun e w' => RetB e (WdRight k) ∧ Below W.heap.size W w') := fun W hW => l3ok_any k _ _ W (hK.below hW hK.lt) hwf
  clear hK hwf
  go_enter Try.func14, Try.ntmps14
  go_wp2_with fail
  generalize (w.alloc (.cells #[.bool k.ok, .bool k.bk.ok, .int .i64 k.bk.sec, .slice al n cl, .slice ad m cd] 28)) = V at *
  refine (HC.out _ B0).mono ?_
  rintro e w1 ⟨⟨r, rfl, hr⟩, hb1⟩
  have X1 := X0.below hb1 X0.lt
  have B1 := B0.trans (hb1.mono B0.size)
  have hz1 := X1.lt
  obtain ⟨x0, x1, x2, x3, x4⟩ := X1.five
  clear X0 B0 hb1 HC
  cases r with
  | false =>
    have hxx : xs = [] := by
      rcases hxs with ⟨h1, _⟩ | ⟨_, h2⟩
      · have := hr.2 h1
        simp at this
      · exact h2
    subst hxx
    clear hr hxs
    go_wp2
    go_ret
    exact ⟨_, rfl, [], intsAt_nil _, by simp, fun b hb => by simp at hb, fun b hb => by simp at hb, B1⟩
  | true =>
    have HR : Hid (WdRight k) := hr.1 rfl
    have hxx : xs = onAcc k s m := by
      rcases hxs with ⟨_, h2⟩ | ⟨h1, _⟩
      · rw [h2, Hn.out.2]
      · exact absurd (hr.1 rfl) h1
    subst hxx
    clear hr hxs
    have hnm : n = m := by have := HR.out.len; rw [Hn.out.1, Hn.out.2] at this; exact this.symm
    subst hnm
    have hm20 : n ≤ 20 := by have := HR.out.bk.frame.few; rw [Hn.out.1] at this; exact this
    go_wp2_with fail
    go_loopw [5, 16] (fun vo i wr => ∃ j : Nat, j ≤ n ∧ i = .int .i64 j ∧ wr.ownsRow w1.heap.size 3 1 vo (onAcc k s j).length (intCells (onAcc k s j)) ∧ w1.heap.size ≤ wr.heap.size ∧ Below w.heap.size w wr ∧ BlkIs wr w.heap.size [.bool k.ok, .bool k.bk.ok, .int .i64 k.bk.sec, .slice al n cl, .slice ad n cd] 28) (fun _ i _ => n - (intOf i).toNat)
    case atStart => exact ⟨0, Nat.zero_le _, rfl, World.ownsRow_nil _ _ _ _, Nat.le_refl _, B1, X1⟩
    case round =>
      clear x0 x1 x2 x3 x4 X1 B1
      obtain ⟨j, hj, rfl, hown, hzw, Bw, X⟩ := hrel
      by_cases hlt : j < n
      · obtain ⟨L, o, D, rfl, _, hLs, hLc⟩ : ∃ L o D, al = some ⟨L, o, none⟩ ∧ True ∧ L < w.heap.size ∧ LnCells w L (o + j * 4) (k.bk.lns[j]?.getD ln0) D := by
          rcases HL3.out with ⟨h0, _⟩ | ⟨L, o, D, h1, _, h2, h3⟩
          · omega
          · exact ⟨L, o, D j, h1, trivial, h2, h3 j hlt⟩
        obtain ⟨N, q, rfl, hNs, hNc⟩ : ∃ N q, ad = some ⟨N, q, none⟩ ∧ N < w.heap.size ∧ BdCells w N (q + j * 4) (k.bds[j]?.getD bd0) := by
          rcases HD3.out with ⟨h0, _⟩ | ⟨N, q, h1, _, h2, h3⟩
          · omega
          · exact ⟨N, q, h1, h2, h3 j hlt⟩
        obtain ⟨g1, g2, g3, g4, g5, g6⟩ := wd_line HR.out j (by rw [Hn.out.2]; exact hlt)
        have HSm : Hid (∀ p, p ≤ 100 → (onAcc k s j ++ List.replicate (cntTo (k.bk.lns[j]?.getD ln0) (k.bds[j]?.getD bd0) s p) (j : Int)).length ≤ 2100) := fun p hp => on_small s HR.out j p (by rw [Hn.out.2]; exact hlt) hp
        have HAc : Hid (onAcc k s (j + 1) = onAcc k s j ++ List.replicate (cntTo (k.bk.lns[j]?.getD ln0) (k.bds[j]?.getD bd0) s (k.bk.lns[j]?.getD ln0).way.length) (j : Int)) := rfl
        generalize hlj : k.bk.lns[j]?.getD ln0 = l at *
        generalize hbj : k.bds[j]?.getD bd0 = b at *
        clear hlj hbj
        obtain ⟨vw, vg, D1, D2, p0, p1, p2, p3, _, hiw, hig⟩ := hLc
        obtain ⟨aw, cw, rfl, hiw1, hiw2, hiw3⟩ := hiw
        obtain ⟨ag, ng, cg, rfl⟩ := hig.slice
        obtain ⟨wb, wo, rfl, hws, hwc⟩ : ∃ wb wo, aw = some ⟨wb, wo, none⟩ ∧ wb < w.heap.size ∧ ∀ i, i < l.way.length → w.cell? ⟨wb, wo + i, none⟩ = some (.int .i64 (l.way[i]?.getD 0)) := by
          rcases hiw3 with ⟨h0, _⟩ | ⟨wb, wo, h1, _, h2, h3⟩
          · omega
          · exact ⟨wb, wo, h1, h2, h3⟩
        unfold maxLen at hiw2
        have HWc : Hid (∀ i, i < l.way.length → w.cell? ⟨wb, wo + i, none⟩ = some (.int .i64 (l.way[i]?.getD 0))) := hwc
        have p0' := ((bcell Bw).1 _ _ hLs).trans p0
        have p1' := ((bcell Bw).1 _ _ hLs).trans p1
        have p2' := ((bcell Bw).1 _ _ hLs).trans p2
        have p3' := ((bcell Bw).1 _ _ hLs).trans p3
        have c0' := ((bcell Bw).1 _ _ hNs).trans hNc.1
        have c1' := ((bcell Bw).1 _ _ hNs).trans hNc.2.1
        have c2' := ((bcell Bw).1 _ _ hNs).trans hNc.2.2.1
        have c3' := ((bcell Bw).1 _ _ hNs).trans hNc.2.2.2
        have x3 : wr.cell? ⟨w.heap.size, 3, none⟩ = some (.slice (some ⟨L, o, none⟩) n cl) := X.cell 3
        have k1 : ∀ q x, (wr.alloc q).cell? ⟨w.heap.size, x, none⟩ = wr.cell? ⟨w.heap.size, x, none⟩ := fun q x => cell_keep (Below.heap_alloc _ _ _ X.lt)
        have k2 : ∀ q x, (wr.alloc q).cell? ⟨L, x, none⟩ = wr.cell? ⟨L, x, none⟩ := fun q x => cell_keep (Below.heap_alloc _ _ _ (Nat.lt_of_lt_of_le hLs Bw.size))
        have HN : Hid (l.way.length = l.way.length) := rfl
        generalize hnw : l.way.length = nw at *
        have HNw : Hid (l.way.length = nw) := hnw
        clear hnw HN hiw3 hwc
        have aU : Below wr.heap.size wr ((wr.alloc (.cells #[.int .i64 b.ver, .int .i64 b.cel, .int .i64 b.tail, .int .i64 b.front] 54)).alloc (.cells #[.int .i64 l.gone, .slice (some ⟨wb, wo, none⟩) nw cw, .slice ag ng cg, .int .i64 l.drop] 50)) := ((Below.refl _ _).alloc (Nat.le_refl _) _).alloc (by simp) _
        have XU := X.below aU X.lt
        have BU := Bw.trans (aU.mono Bw.size)
        have YU : BlkIs ((wr.alloc (.cells #[.int .i64 b.ver, .int .i64 b.cel, .int .i64 b.tail, .int .i64 b.front] 54)).alloc (.cells #[.int .i64 l.gone, .slice (some ⟨wb, wo, none⟩) nw cw, .slice ag ng cg, .int .i64 l.drop] 50)) wr.heap.size [.int .i64 b.ver, .int .i64 b.cel, .int .i64 b.tail, .int .i64 b.front] 54 := (BlkIs.new _ _ _).alloc _
        have ZU : BlkIs ((wr.alloc (.cells #[.int .i64 b.ver, .int .i64 b.cel, .int .i64 b.tail, .int .i64 b.front] 54)).alloc (.cells #[.int .i64 l.gone, .slice (some ⟨wb, wo, none⟩) nw cw, .slice ag ng cg, .int .i64 l.drop] 50)) (wr.heap.size + 1) [.int .i64 l.gone, .slice (some ⟨wb, wo, none⟩) nw cw, .slice ag ng cg, .int .i64 l.drop] 50 := by
          have := BlkIs.new (wr.alloc (.cells #[.int .i64 b.ver, .int .i64 b.cel, .int .i64 b.tail, .int .i64 b.front] 54)) [.int .i64 l.gone, .slice (some ⟨wb, wo, none⟩) nw cw, .slice ag ng cg, .int .i64 l.drop] 50
          rwa [World.size_alloc] at this
        have OU := (hown.alloc (.cells #[.int .i64 b.ver, .int .i64 b.cel, .int .i64 b.tail, .int .i64 b.front] 54)).alloc (.cells #[.int .i64 l.gone, .slice (some ⟨wb, wo, none⟩) nw cw, .slice ag ng cg, .int .i64 l.drop] 50)
        have hzU : w1.heap.size ≤ ((wr.alloc (.cells #[.int .i64 b.ver, .int .i64 b.cel, .int .i64 b.tail, .int .i64 b.front] 54)).alloc (.cells #[.int .i64 l.gone, .slice (some ⟨wb, wo, none⟩) nw cw, .slice ag ng cg, .int .i64 l.drop] 50)).heap.size := by simp; omega
        obtain ⟨pp, hpp⟩ := Int.eq_ofNat_of_zero_le (show 0 ≤ b.tail - l.gone by omega)
        have HP0 : Hid (b.tail = l.gone + (pp : Int)) := by show _ = _; omega
        clear hpp
        clear p0 p1 p2 p3 hNc hig aU X hown
        go_upto_region 8 with fail
        clear p0' p1' p2' p3' c0' c1' c2' c3' x3 k1 k2
        generalize ((wr.alloc (.cells #[.int .i64 b.ver, .int .i64 b.cel, .int .i64 b.tail, .int .i64 b.front] 54)).alloc (.cells #[.int .i64 l.gone, .slice (some ⟨wb, wo, none⟩) nw cw, .slice ag ng cg, .int .i64 l.drop] 50)) = U at *
        obtain ⟨y0, y1, y2, y3⟩ := YU.four
        have S0 : U.ownsRow w1.heap.size 3 1 u5 (onAcc k s j ++ List.replicate (cntTo l b s pp) (j : Int)).length (intCells (onAcc k s j ++ List.replicate (cntTo l b s pp) (j : Int))) := by
          rw [cnt_zero l b s pp (by rw [HP0.out]; exact Int.le_refl _)]
          simpa using OU
        go_wp2_with fail
        generalize hzr : wr.heap.size = zr at *
        clear hzr
        go_loopw [5, 9] (fun vo c wi => ∃ p : Nat, c = .int .i64 (l.gone + (p : Int)) ∧ b.tail ≤ l.gone + (p : Int) ∧ l.gone + (p : Int) ≤ b.front + 1 ∧ wi.ownsRow w1.heap.size 3 1 vo (onAcc k s j ++ List.replicate (cntTo l b s p) (j : Int)).length (intCells (onAcc k s j ++ List.replicate (cntTo l b s p) (j : Int))) ∧ w1.heap.size ≤ wi.heap.size ∧ Below w.heap.size w wi ∧ BlkIs wi w.heap.size [.bool k.ok, .bool k.bk.ok, .int .i64 k.bk.sec, .slice (some ⟨L, o, none⟩) n cl, .slice (some ⟨N, q, none⟩) n cd] 28 ∧ BlkIs wi zr [.int .i64 b.ver, .int .i64 b.cel, .int .i64 b.tail, .int .i64 b.front] 54 ∧ BlkIs wi (zr + 1) [.int .i64 l.gone, .slice (some ⟨wb, wo, none⟩) nw cw, .slice ag ng cg, .int .i64 l.drop] 50) (fun _ c _ => (b.front + 1 - intOf c).toNat)
        case atStart => exact ⟨pp, by rw [HP0.out], by rw [HP0.out]; exact Int.le_refl _, by rw [← HP0.out]; omega, S0, hzU, BU, XU, YU, ZU⟩
        case round =>
          clear S0 XU BU YU ZU OU y0 y1 y2 y3 hzU
          obtain ⟨p, rfl, q1, q2, hO, hzi, Bi, Xi, Yi, Zi⟩ := hrel
          obtain ⟨ao, co, hvo⟩ := own_slice hO
          subst hvo
          have y3 : wr.cell? ⟨zr, 3, none⟩ = some (.int .i64 b.front) := Yi.cell 3
          by_cases hc : l.gone + (p : Int) ≤ b.front
          · have hpn : p < nw := by omega
            have hsm := HSm.out p (by omega)
            have z0 : wr.cell? ⟨zr + 1, 0, none⟩ = some (.int .i64 l.gone) := Zi.cell 0
            have z1 : wr.cell? ⟨zr + 1, 1, none⟩ = some (.slice (some ⟨wb, wo, none⟩) nw cw) := Zi.cell 1
            have hcell : wr.cell? ⟨wb, wo + p, none⟩ = some (.int .i64 (l.way[p]?.getD 0)) := ((bcell Bi).1 _ _ hws).trans (HWc.out p hpn)
            have hsub : l.gone + (p : Int) - l.gone = (p : Int) := by omega
            have HCn : Hid (cntTo l b s (p + 1) = cntTo l b s p + (if onB l b s p then 1 else 0)) := rfl
            have HOb : Hid (onB l b s p = decide (l.way[p]?.getD 0 = s ∧ b.tail ≤ l.gone + (p : Int) ∧ l.gone + (p : Int) ≤ b.front)) := rfl
            generalize hx : l.way[p]?.getD 0 = x at *
            clear hx
            by_cases hs : x = s
            · have HE : Hid (cntTo l b s (p + 1) = cntTo l b s p + 1) := by
                show _ = _
                rw [HCn.out, HOb.out]
                simp [hs, q1, hc]
              generalize hcn : cntTo l b s p = cn at *
              clear hcn
              go_wp2_with (first
                | (at_builtin; refine wpList_append_own _ rfl _ _ 22 rfl w1.heap.size 3 ii _ 1 8 Try.underlying22 hii hz0 hz1' hz2 rfl (by decide) _ (onAcc k s j ++ List.replicate cn (j : Int)).length _ rfl (hO.alloc _) ⟨wr.heap.size, 0, none⟩ 1 1 [.int .i64 (j : Int)] rfl rfl (World.news_of_block (cs := #[.int .i64 (j : Int)]) (t := 3) (fr := (0, 0)) (heap_alloc_new wr _)) (by simp [Value.oneCell']) (by unfold maxLen; omega) (by omega) (by simp; omega) ?_
                   intro v3 w3 hown3 hgrow3 hnil3))
              have hO3 : w3.ownsRow w1.heap.size 3 1 v3 (onAcc k s j ++ List.replicate (cntTo l b s (p + 1)) (j : Int)).length (intCells (onAcc k s j ++ List.replicate (cntTo l b s (p + 1)) (j : Int))) := by
                rw [HE.out, List.replicate_succ', ← List.append_assoc, List.length_append]
                simpa [intCells] using hown3
              have hz3 := hgrow3.size
              have B3 : Below w.heap.size w w3 := (Bi.alloc Bi.size _).grown hgrow3 (by have := Bi.size; simp; omega) (fun x hx => by have := hO.lt x hx; omega)
              have X3 := (Xi.alloc _).grownT (hO.alloc _) hgrow3 (by decide)
              have Y3 := (Yi.alloc _).grownT (hO.alloc _) hgrow3 (by decide)
              have Z3 := (Zi.alloc _).grownT (hO.alloc _) hgrow3 (by decide)
              have hz4 : w1.heap.size ≤ w3.heap.size := by simp only [World.size_alloc] at hz3; omega
              clear y3 z0 z1 hcell
              go_wp2
              go_roundw
              case rel => exact ⟨p + 1, by exact congrArg (Value.int .i64) (by omega), by omega, by omega, hO3, hz4, B3, X3, Y3, Z3⟩
              case measure => simp [intOf]; omega
            · have HE : Hid (cntTo l b s (p + 1) = cntTo l b s p) := by
                show _ = _
                rw [HCn.out, HOb.out]
                simp [hs]
              have hO3 : wr.ownsRow w1.heap.size 3 1 (.slice ao (onAcc k s j ++ List.replicate (cntTo l b s p) (j : Int)).length co) (onAcc k s j ++ List.replicate (cntTo l b s (p + 1)) (j : Int)).length (intCells (onAcc k s j ++ List.replicate (cntTo l b s (p + 1)) (j : Int))) := by
                rw [HE.out]; exact hO
              have HO3 : Hid _ := hO3
              clear hO3
              go_wp2
              go_roundw
              case rel => exact ⟨p + 1, by exact congrArg (Value.int .i64) (by omega), by omega, by omega, HO3.out, hzi, Bi, Xi, Yi, Zi⟩
              case measure => simp [intOf]; omega
          · have HO3 : Hid (wr.ownsRow w1.heap.size 3 1 (.slice ao (onAcc k s j ++ List.replicate (cntTo l b s p) (j : Int)).length co) (onAcc k s (j + 1)).length (intCells (onAcc k s (j + 1)))) := by
              have hd : ∃ d, nw = p + d := ⟨nw - p, by omega⟩
              obtain ⟨d, hd⟩ := hd
              have e := cnt_end l b s p (by omega) d
              rw [← hd] at e
              show wr.ownsRow _ _ _ _ _ _
              rw [HAc.out, e]
              exact hO
            clear hO
            go_wp2
            go_roundw
            case rel => exact ⟨j + 1, by omega, by go_num, HO3.out, hzi, Bi, Xi⟩
            case measure => simp [intOf]; omega
      · obtain rfl : j = n := by omega
        obtain ⟨bb, h1, h2, h3, h4⟩ := own_ints hown
        go_wp2
        go_ret
        exact ⟨_, rfl, bb, h1, h2, h3, fun x hx => by have := h4 x hx; omega, Bw⟩

end Go.Proofs.Ytnaaheddhgpnoab
