import Derived.Test.YtnaaheddhgpnoabOnI
import Derived.Deep.Cut
namespace Go.Proofs.Ytnaaheddhgpnoab
open Go.ChangeShapes Go.WideShapes Go.ChangeAt Go.RowKit

theorem bodyRight_is (l : Ln) (b : Bd) (v : Value) (bs : List Nat) (w : World) (h : LnAt w v l bs) (r : Bool) (hr : r = true ↔ BodyOk l b) :
    Calls Try.prog 50 #[.agg #[.int .i64 b.ver, .int .i64 b.cel, .int .i64 b.tail, .int .i64 b.front], v] w fun e w' => e = .returned (.bool r) ∧ Below w.heap.size w w' := by
  refine (bodyRight_any l b v bs w h).mono ?_
  rintro e w' ⟨⟨c, rfl, hc⟩, hb⟩
  have : c = r := by rw [Bool.eq_iff_iff, hc, hr]
  subst this
  exact ⟨rfl, hb⟩

set_option maxHeartbeats 2000000 in
set_option maxRecDepth 100000 in
theorem worldRight_any (k : Wd) (v : Value) (bs : List Nat) (w : World) (h : WdAt w v k bs) :
    Calls Try.prog 34 #[v] w fun e w' => RetB e (WdRight k) ∧ Below w.heap.size w w' := by
  obtain ⟨vl, vb, b1, b2, rfl, rfl, hl, hd⟩ := h
  have HLs : Hid (LnsAt w vl k.bk.lns b1) := hl
  obtain ⟨al, cl, rfl, hl1, hl2, hl3⟩ := hl
  obtain ⟨ad, cd, rfl, hd1, hd2, hd3⟩ := hd
  unfold maxLen at hl2 hd2
  have HL3 : Hid _ := hl3
  have HD3 : Hid _ := hd3
  clear hl3 hd3
  generalize hn : k.bk.lns.length = n at *
  generalize hm : k.bds.length = m at *
  have Hn : Hid (k.bk.lns.length = n ∧ k.bds.length = m) := ⟨hn, hm⟩
  clear hn hm
  have B0 : Below w.heap.size w (w.alloc (.cells #[.bool k.ok, .bool k.bk.ok, .int .i64 k.bk.sec, .slice al n cl, .slice ad m cd] 28)) := (Below.refl _ _).alloc (Nat.le_refl _) _
  have X0 : BlkIs (w.alloc (.cells #[.bool k.ok, .bool k.bk.ok, .int .i64 k.bk.sec, .slice al n cl, .slice ad m cd] 28)) w.heap.size [.bool k.ok, .bool k.bk.ok, .int .i64 k.bk.sec, .slice al n cl, .slice ad m cd] 28 := BlkIs.new _ _ _
  by_cases hok : k.ok = true
  · rw [hok] at B0 X0 ⊢
    have Hok : Hid (k.ok = true) := hok
    clear hok
    go_enter Try.func34, Try.ntmps34
    go_wp2_with fail
    generalize (w.alloc (.cells #[.bool true, .bool k.bk.ok, .int .i64 k.bk.sec, .slice al n cl, .slice ad m cd] 28)) = V at *
    refine (implBookOk_any k.bk _ b1 _ ⟨_, rfl, HLs.out.below B0 HLs.out.lt⟩).mono ?_
    rintro e w1 ⟨⟨c, rfl, hc⟩, hb1⟩
    have X1 := X0.below hb1 X0.lt
    have B1 := B0.trans (hb1.mono B0.size)
    obtain ⟨x0, x1, x2, x3, x4⟩ := X1.five
    clear X0 B0 hb1
    by_cases hc0 : c = 0
    · subst hc0
      have HR : Hid (Right k.bk) := hc.zero.1 rfl
      clear hc
      by_cases hmn : m = n
      · subst hmn
        go_wp2_with fail
        go_loopw [28] (fun i wr => ∃ j : Nat, j ≤ m ∧ i = .int .i64 j ∧ (∀ i, i < j → BodyOk (k.bk.lns[i]?.getD ln0) (k.bds[i]?.getD bd0)) ∧ Below w.heap.size w wr ∧ BlkIs wr w.heap.size [.bool true, .bool k.bk.ok, .int .i64 k.bk.sec, .slice al m cl, .slice ad m cd] 28) (fun i _ => m - (intOf i).toNat)
        case atStart => exact ⟨0, Nat.zero_le _, rfl, fun i hi => absurd hi (by omega), B1, X1⟩
        case round =>
          clear x0 x1 x2 x3 x4 X1 B1
          obtain ⟨j, hj, rfl, hall, Bw, X⟩ := hrel
          have HA : Hid (∀ i, i < j → BodyOk (k.bk.lns[i]?.getD ln0) (k.bds[i]?.getD bd0)) := hall
          clear hall
          by_cases hlt : j < m
          · obtain ⟨L, o, D, rfl, _, hLs, hLc⟩ : ∃ L o D, al = some ⟨L, o, none⟩ ∧ True ∧ L < w.heap.size ∧ LnCells w L (o + j * 4) (k.bk.lns[j]?.getD ln0) D := by
              rcases HL3.out with ⟨h0, _⟩ | ⟨L, o, D, h1, _, h2, h3⟩
              · omega
              · exact ⟨L, o, D j, h1, trivial, h2, h3 j hlt⟩
            obtain ⟨N, q, rfl, hNs, hNc⟩ : ∃ N q, ad = some ⟨N, q, none⟩ ∧ N < w.heap.size ∧ BdCells w N (q + j * 4) (k.bds[j]?.getD bd0) := by
              rcases HD3.out with ⟨h0, _⟩ | ⟨N, q, h1, _, h2, h3⟩
              · omega
              · exact ⟨N, q, h1, h2, h3 j hlt⟩
            generalize hlj : k.bk.lns[j]?.getD ln0 = l at *
            generalize hbj : k.bds[j]?.getD bd0 = b at *
            have HJ : Hid (k.bk.lns[j]?.getD ln0 = l ∧ k.bds[j]?.getD bd0 = b) := ⟨hlj, hbj⟩
            clear hlj hbj
            obtain ⟨vw, vg, D1, D2, p0, p1, p2, p3, _, hiw, hig⟩ := hLc
            obtain ⟨aw, nw, cw, rfl⟩ := hiw.slice
            obtain ⟨ag, ng, cg, rfl⟩ := hig.slice
            have p0' := ((bcell Bw).1 _ _ hLs).trans p0
            have p1' := ((bcell Bw).1 _ _ hLs).trans p1
            have p2' := ((bcell Bw).1 _ _ hLs).trans p2
            have p3' := ((bcell Bw).1 _ _ hLs).trans p3
            have aU : Below wr.heap.size wr (wr.alloc (.cells #[.int .i64 l.gone, .slice aw nw cw, .slice ag ng cg, .int .i64 l.drop] 50)) := (Below.refl _ _).alloc (Nat.le_refl _) _
            have Y : BlkIs (wr.alloc (.cells #[.int .i64 l.gone, .slice aw nw cw, .slice ag ng cg, .int .i64 l.drop] 50)) wr.heap.size [.int .i64 l.gone, .slice aw nw cw, .slice ag ng cg, .int .i64 l.drop] 50 := BlkIs.new _ _ _
            have XU := X.below aU X.lt
            have BU := Bw.trans (aU.mono Bw.size)
            go_upto_region 6 with fail
            clear p0' p1' p2' p3' p0 p1 p2 p3 aU
            generalize (wr.alloc (.cells #[.int .i64 l.gone, .slice aw nw cw, .slice ag ng cg, .int .i64 l.drop] 50)) = U at *
            have hNU : N < U.heap.size := Nat.lt_of_lt_of_le hNs BU.size
            have c0 := Ext.cell (B := U.heap.size) (w := U) hNU (((bcell BU).1 _ _ hNs).trans hNc.1)
            have c1 := Ext.cell (B := U.heap.size) (w := U) hNU (((bcell BU).1 _ _ hNs).trans hNc.2.1)
            have c2 := Ext.cell (B := U.heap.size) (w := U) hNU (((bcell BU).1 _ _ hNs).trans hNc.2.2.1)
            have c3 := Ext.cell (B := U.heap.size) (w := U) hNU (((bcell BU).1 _ _ hNs).trans hNc.2.2.2)
            obtain ⟨y0, y1, y2, y3⟩ := Y.four
            have e0 := Ext.cell (B := U.heap.size) (w := U) Y.lt y0
            have e1 := Ext.cell (B := U.heap.size) (w := U) Y.lt y1
            have e2 := Ext.cell (B := U.heap.size) (w := U) Y.lt y2
            have e3 := Ext.cell (B := U.heap.size) (w := U) Y.lt y3
            have e4 := Ext.cell (B := U.heap.size) (w := U) (o := 4) (v := .slice (some ⟨N, q, none⟩) m cd) XU.lt (XU.cell 4)
            have ne : Nonempty (Ext U.heap.size U) := ext_some
            have HL2 : Hid (∀ x : Ext U.heap.size U, LnAt x.val (.agg #[.int .i64 l.gone, .slice aw nw cw, .slice ag ng cg, .int .i64 l.drop]) l (D1 ++ D2)) := fun x => ⟨_, _, D1, D2, rfl, rfl, (hiw.below BU hiw.lt).below x.prop (fun z hz => Nat.lt_of_lt_of_le (hiw.lt z hz) BU.size), (hig.below BU hig.lt).below x.prop (fun z hz => Nat.lt_of_lt_of_le (hig.lt z hz) BU.size)⟩
            clear y0 y1 y2 y3 Y X hNc hiw hig
            by_cases hB : BodyOk l b
            · have HB : Hid (BodyOk l b) := hB
              clear hB
              refine wp_region_ext U.heap.size (by kernel_rfl) (by kernel_rfl) ?_
              repeat (go_big_quiet_step (exact ext_of (Nat.le_refl _) _ (bodyRight_is l b _ _ _ (HL2.out _) true ⟨fun _ => HB.out, fun _ => rfl⟩)))
              refine wpQuiet_nil ?_
              rintro _ ⟨⟨w2, hb2⟩, rfl⟩
              have XX := XU.below hb2 XU.lt
              have BB := BU.trans (hb2.mono BU.size)
              have HS : Hid (∀ i, i < j + 1 → BodyOk (k.bk.lns[i]?.getD ln0) (k.bds[i]?.getD bd0)) := fun i hi => by
                by_cases e : i = j
                · subst e; rw [HJ.out.1, HJ.out.2]; exact HB.out
                · exact HA.out i (by omega)
              clear c0 c1 c2 c3 e0 e1 e2 e3 e4
              go_wp2
              go_roundw
              case rel => exact ⟨j + 1, by omega, by go_num, HS.out, BB, XX⟩
              case measure => simp [intOf]; omega
            · have HB : Hid (¬ BodyOk l b) := hB
              have HNo : Hid (¬ WdRight k) := fun h => HB.out (by have := h.each j (by rw [Hn.out.2]; exact hlt); rwa [HJ.out.1, HJ.out.2] at this)
              clear hB
              refine wp_region_ext U.heap.size (by kernel_rfl) (by kernel_rfl) ?_
              repeat (go_big_quiet_step (exact ext_of (Nat.le_refl _) _ (bodyRight_is l b _ _ _ (HL2.out _) false ⟨fun h => by simp at h, fun h => absurd h HB.out⟩)))
              refine wpQuiet_nil ?_
              rintro _ ⟨⟨w2, hb2⟩, rfl⟩
              have BB := BU.trans (hb2.mono BU.size)
              clear c0 c1 c2 c3 e0 e1 e2 e3 e4
              go_wp2
              go_ret
              exact ⟨RetB.no HNo.out, BB⟩
          · obtain rfl : j = m := by omega
            have HY : Hid (WdRight k) := ⟨Hok.out, HR.out, by rw [Hn.out.1, Hn.out.2], fun i hi => HA.out i (by rw [Hn.out.2] at hi; exact hi)⟩
            go_wp2
            go_ret
            exact ⟨RetB.yes HY.out, Bw⟩
      · have HNo : Hid (¬ WdRight k) := fun h => hmn (by have := h.len; rw [Hn.out.1, Hn.out.2] at this; exact this)
        have hmn' : ¬ (m : Int) = (n : Int) := by omega
        go_wp2
        go_ret
        exact ⟨RetB.no HNo.out, B1⟩
    · have HNo : Hid (¬ WdRight k) := fun h => hc0 (hc.zero.2 h.bk)
      clear hc
      go_wp2
      go_ret
      exact ⟨RetB.no HNo.out, B1⟩
  · have HNo : Hid (¬ WdRight k) := fun h => hok h.ok
    have hok' : k.ok = false := by simpa using hok
    rw [hok'] at B0 ⊢
    clear hok hok' X0
    go_enter Try.func34, Try.ntmps34
    go_wp2
    go_ret
    exact ⟨RetB.no HNo.out, B0⟩

end Go.Proofs.Ytnaaheddhgpnoab
