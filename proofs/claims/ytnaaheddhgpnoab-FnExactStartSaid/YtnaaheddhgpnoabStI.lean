import Derived.Test.YtnaaheddhgpnoabBegin
import Derived.Test.YtnaaheddhgpnoabBookOk
import Derived.Test.YtnaaheddhgpnoabStD
namespace Go.Proofs.Ytnaaheddhgpnoab
open Go.ChangeShapes Go.WideShapes Go.ChangeAt Go.RowKit

theorem Try.infoBody : (Try.prog.info? 54).map (fun i => (i.zero, i.size, i.bytes)) = some (some (.agg #[.int .i64 0, .int .i64 0, .int .i64 0, .int .i64 0]), 4, 32) := by kernel_rfl

set_option maxHeartbeats 1000000 in
theorem implStart_any (s : Int) (xs : List Int) (v : Value) (bs : List Nat) (w : World) (k : Wd) (h : IntsAt w v xs bs) (hk : StartIs s xs k) :
    Calls Try.prog 7 #[.int .i64 s, v] w fun e w' => ∃ v', e = .returned v' ∧ NewWd w w' v' k := by
  obtain ⟨a, cap, rfl, hc1, hc2, ha⟩ := h
  unfold maxLen at hc2
  have Ha : Hid ((xs.length = 0 ∧ bs = []) ∨ ∃ b o, a = some ⟨b, o, none⟩ ∧ bs = [b] ∧ b < w.heap.size ∧ ∀ i, i < xs.length → w.cell? ⟨b, o + i, none⟩ = some (.int .i64 (xs[i]?.getD 0))) := ha
  have Hk : Hid (StartIs s xs k) := hk
  clear ha hk
  obtain ⟨ib, hib, hz0, hz1, hz2⟩ := info_parts Try.infoBody
  generalize hn : xs.length = n at *
  have Hn : Hid (xs.length = n) := hn
  clear hn
  go_enter Try.func7, Try.ntmps7
  go_wp2_with fail
  refine (implBegin_any s n _).mono ?_
  rintro e w1 ⟨v1, rfl, bs1, ⟨vl, rfl, hl⟩, nd1, fr1, hge1, hb1⟩
  have aW : Below w.heap.size w (w.alloc (.cells #[.bool false, .bool false, .int .i64 0, .slice none 0 0, .slice none 0 0] 28)) := (Below.refl _ _).alloc (Nat.le_refl _) _
  have X0 : BlkIs (w.alloc (.cells #[.bool false, .bool false, .int .i64 0, .slice none 0 0, .slice none 0 0] 28)) w.heap.size [.bool false, .bool false, .int .i64 0, .slice none 0 0, .slice none 0 0] 28 := BlkIs.new _ _ _
  have hz : (w.alloc (.cells #[.bool false, .bool false, .int .i64 0, .slice none 0 0, .slice none 0 0] 28)).heap.size = w.heap.size + 1 := by simp
  generalize (w.alloc (.cells #[.bool false, .bool false, .int .i64 0, .slice none 0 0, .slice none 0 0] 28)) = V at *
  have B1 : Below w.heap.size w w1 := aW.trans (hb1.mono (by omega))
  have X1 := X0.below hb1 X0.lt
  clear X0 aW hb1
  -- the lines that Begin made
  obtain ⟨m, hm, hmn, hm20⟩ : ∃ m, (begD s n).lns.length = m ∧ m ≤ n ∧ m ≤ 20 := by
    refine ⟨_, rfl, ?_, ?_⟩
    · unfold begD
      split
      · simp
      · simp [bk0]
    · unfold begD
      split
      · simp; omega
      · simp [bk0]
  have Hm : Hid ((begD s n).lns.length = m) := hm
  obtain ⟨al, cl, rfl, hl1, hl2, hl3⟩ := hl
  rw [hm] at hl1 hl3 ⊢
  have hmk := fun W : World => run_make (P := Try.prog) W 26 54 ib _ Try.underlying26 hib hz0 .i64 .i64 (m : Int) (m : Int) (by omega) (Int.le_refl _) (by rw [hz2]; omega) (by omega)
  rw [hz1] at hmk
  clear hib hz0 hz1 hz2 hm
  generalize hbO : (begD s n).ok = bO at *
  generalize hbS : (begD s n).sec = bS at *
  have HO : Hid ((begD s n).ok = bO ∧ (begD s n).sec = bS) := ⟨hbO, hbS⟩
  clear hbO hbS
  have E0 : ∃ L o, (m = 0 ∧ L = w1.heap.size + 1) ∨ (al = some ⟨L, o, none⟩ ∧ L < w1.heap.size ∧ w.heap.size < L ∧ (∀ x, x < m * 4 → ∃ u, w1.cell? ⟨L, o + x, none⟩ = some u) ∧ ∀ x, w1.frozen? ⟨L, x, none⟩ = false) := by
    rcases hl3 with ⟨h0, _⟩ | ⟨L, o, D, hal, hbs, hlt, hcs⟩
    · exact ⟨_, 0, Or.inl ⟨h0, rfl⟩⟩
    · refine ⟨L, o, Or.inr ⟨hal, hlt, ?_, fun x hx => ?_, fun x => fr1 L (by rw [hbs]; simp) x⟩⟩
      · have := hge1 L (by rw [hbs]; simp); omega
      · obtain ⟨vw, vg, b1, b2, q0, q1, q2, q3, _⟩ := hcs (x / 4) (by omega)
        have hx4 : x = x / 4 * 4 + x % 4 := by omega
        have hr : x % 4 < 4 := Nat.mod_lt _ (by decide)
        generalize x % 4 = r at *
        generalize x / 4 = y at *
        subst hx4
        rw [← Nat.add_assoc]
        match r, hr with
        | 0, _ => exact ⟨_, q0⟩
        | 1, _ => exact ⟨_, q1⟩
        | 2, _ => exact ⟨_, q2⟩
        | 3, _ => exact ⟨_, q3⟩
  obtain ⟨L, o, hL⟩ := E0
  have HL : Hid ((m = 0 ∧ L = w1.heap.size + 1) ∨ (al = some ⟨L, o, none⟩ ∧ L < w1.heap.size ∧ w.heap.size < L ∧ (∀ x, x < m * 4 → ∃ u, w1.cell? ⟨L, o + x, none⟩ = some u) ∧ ∀ x, w1.frozen? ⟨L, x, none⟩ = false)) := hL
  clear hl3 fr1 nd1 hge1 hL
  have X2 := X1.alloc (.cells #[.bool bO, .int .i64 bS, .slice al m cl] 25)
  have Y2 : BlkIs (w1.alloc (.cells #[.bool bO, .int .i64 bS, .slice al m cl] 25)) w1.heap.size [.bool bO, .int .i64 bS, .slice al m cl] 25 := BlkIs.new _ _ _
  have X3 := X2.alloc (.cells (madeCells #[.int .i64 0, .int .i64 0, .int .i64 0, .int .i64 0] (m * 4)) 54)
  have Y3 := Y2.alloc (.cells (madeCells #[.int .i64 0, .int .i64 0, .int .i64 0, .int .i64 0] (m * 4)) 54)
  have S3 := st_start (al := al) (A := fun j => xs[j]?.getD 0) (c := #[.bool bO, .int .i64 bS, .slice al m cl]) (t' := 25) (t := 54) B1 HL.out
  clear X1 X2 Y2
  go_wp2_with fail
  go_loopw [19] (fun i wr => ∃ (j : Nat) (D1 D2 : Nat → Nat), j ≤ m ∧ i = .int .i64 j ∧ StInv w wr w.heap.size L o (w1.heap.size + 1) m j j (fun j => xs[j]?.getD 0) D1 D2 ∧ BlkIs wr w.heap.size [.bool false, .bool false, .int .i64 0, .slice none 0 0, .slice none 0 0] 28 ∧ BlkIs wr w1.heap.size [.bool bO, .int .i64 bS, .slice al m cl] 25) (fun i _ => m - (intOf i).toNat)
  case atStart => exact ⟨0, fun _ => 0, fun _ => 0, Nat.zero_le _, rfl, S3, X3, Y3⟩
  case round =>
    clear S3 X3 Y3 hmk
    obtain ⟨j, D1, D2, hj, rfl, hI, X, Y⟩ := hrel
    by_cases hlt : j < m
    · obtain ⟨rfl, hLs, hLw, _, _⟩ : al = some ⟨L, o, none⟩ ∧ L < w1.heap.size ∧ w.heap.size < L ∧ True ∧ True := by
        rcases HL.out with ⟨h0, _⟩ | ⟨h1, h2, h3, _, _⟩
        · omega
        · exact ⟨h1, h2, h3, trivial, trivial⟩
      obtain ⟨b, oa, rfl, hbw, hca⟩ : ∃ b oa, a = some ⟨b, oa, none⟩ ∧ b < w.heap.size ∧ wr.cell? ⟨b, oa + j, none⟩ = some (.int .i64 (xs[j]?.getD 0)) := by
        rcases Ha.out with ⟨h0, _⟩ | ⟨b, oa, h1, _, h2, h3⟩
        · omega
        · exact ⟨b, oa, h1, h2, by rw [(bcell hI.below).1 _ _ h2]; exact h3 j (by omega)⟩
      obtain ⟨u0, c0⟩ := hI.exL (j * 4) (by omega)
      obtain ⟨u1, c1⟩ := hI.exL (j * 4 + 1) (by omega)
      obtain ⟨u2, c2⟩ := hI.exL (j * 4 + 2) (by omega)
      obtain ⟨u3, c3⟩ := hI.exL (j * 4 + 3) (by omega)
      rw [← Nat.add_assoc] at c1 c2 c3
      obtain ⟨d0, d1, d2, d3⟩ := hI.bds j hlt
      have y2 : wr.cell? ⟨w1.heap.size, 2, none⟩ = some (.slice (some ⟨L, o, none⟩) m cl) := Y.cell 2
      have f0 : ∀ x, wr.frozen? ⟨L, x, none⟩ = false := hI.fL
      have f1 : ∀ x, wr.frozen? ⟨w1.heap.size + 1, x, none⟩ = false := fun x => hI.fN _ x (Nat.le_refl _)
      have hNs : w1.heap.size + 1 < wr.heap.size := by have := hI.size; omega
      have HI : Hid (StInv w wr w.heap.size L o (w1.heap.size + 1) m j j (fun j => xs[j]?.getD 0) D1 D2) := hI
      have HX : Hid (BlkIs wr w.heap.size [.bool false, .bool false, .int .i64 0, .slice none 0 0, .slice none 0 0] 28 ∧ BlkIs wr w1.heap.size [.bool bO, .int .i64 bS, .slice (some ⟨L, o, none⟩) m cl] 25) := ⟨X, Y⟩
      clear hI X Y
      have hjn : j < n := by omega
      have ka : ∀ (z : Nat), z < wr.heap.size → (∀ q x, (wr.alloc q).cell? ⟨z, x, none⟩ = wr.cell? ⟨z, x, none⟩) ∧ ∀ q q' x, ((wr.alloc q).alloc q').cell? ⟨z, x, none⟩ = wr.cell? ⟨z, x, none⟩ := fun z hz => ⟨fun q x => cell_keep (Below.heap_alloc _ _ _ hz), fun q q' x => (cell_keep (Below.heap_alloc _ _ _ (by simp; omega))).trans (cell_keep (Below.heap_alloc _ _ _ hz))⟩
      have k1 := (ka b (by have := HI.out.below.size; omega)).1
      have k2 := (ka L (by omega)).1
      have k3 := (ka L (by omega)).2
      have k4 := (ka w1.heap.size (by omega)).1
      have k6 := (ka w1.heap.size (by omega)).2
      have k5 := (ka (w1.heap.size + 1) (by omega)).2
      have g2 : ∀ c t c' t' x, ((wr.alloc (.cells c t)).alloc (.cells c' t')).frozen? ⟨L, x, none⟩ = false := fun c t c' t' x => by rw [frozen?_alloc_cells, frozen?_alloc_cells]; exact f0 x
      have g5 : ∀ c t c' t' x, ((wr.alloc (.cells c t)).alloc (.cells c' t')).frozen? ⟨w1.heap.size + 1, x, none⟩ = false := fun c t c' t' x => by rw [frozen?_alloc_cells, frozen?_alloc_cells]; exact f1 x
      clear ka
      go_wp2_with fail
      go_region
      · have hU := st_line (va := wr.heap.size) (vg := wr.heap.size + 1) (ti := 3) (tg := 52) HI.out hlt (by omega) (by omega) (Or.inl ⟨rfl, rfl, rfl, rfl⟩)
        have XU := st_box (L := L) (x0 := o + j * 4) (x1 := o + j * 4 + 1) (x2 := o + j * 4 + 2) (x3 := o + j * 4 + 3) (o1 := .cells #[.int .i64 (xs[j]?.getD 0)] 3) (o2 := .cells #[.int .i64 0, .int .i64 1] 52) (v0 := .int .i64 0) (v1 := .slice (some ⟨wr.heap.size, 0, none⟩) 1 1) (v2 := .slice (some ⟨wr.heap.size + 1, 0, none⟩) 1 1) (v3 := .int .i64 (-1)) HX.out.1 (by omega)
        have YU := st_box (L := L) (x0 := o + j * 4) (x1 := o + j * 4 + 1) (x2 := o + j * 4 + 2) (x3 := o + j * 4 + 3) (o1 := .cells #[.int .i64 (xs[j]?.getD 0)] 3) (o2 := .cells #[.int .i64 0, .int .i64 1] 52) (v0 := .int .i64 0) (v1 := .slice (some ⟨wr.heap.size, 0, none⟩) 1 1) (v2 := .slice (some ⟨wr.heap.size + 1, 0, none⟩) 1 1) (v3 := .int .i64 (-1)) HX.out.2 (by omega)
        clear k1 k2 k3 k4 k5 k6 g2 g5 f0 f1 c0 c1 c2 c3 d0 d1 d2 d3 y2 hca HI HX
        generalize ((((((wr.alloc (.cells #[.int .i64 (xs[j]?.getD 0)] 3)).alloc (.cells #[.int .i64 0, .int .i64 1] 52)).setCell ⟨L, o + j * 4, none⟩ (.int .i64 0)).setCell ⟨L, o + j * 4 + 1, none⟩ (.slice (some ⟨wr.heap.size, 0, none⟩) 1 1)).setCell ⟨L, o + j * 4 + 2, none⟩ (.slice (some ⟨wr.heap.size + 1, 0, none⟩) 1 1)).setCell ⟨L, o + j * 4 + 3, none⟩ (.int .i64 (-1))).drew = U at *
        obtain ⟨d0, d1, d2, d3⟩ := hU.bds j hlt
        have f1 : ∀ x, U.frozen? ⟨w1.heap.size + 1, x, none⟩ = false := fun x => hU.fN _ x (Nat.le_refl _)
        have hst := st_body hU hlt (by omega) (by omega)
        have XS := st_box4 (L := w1.heap.size + 1) (x0 := 0 + j * 4) (x1 := 0 + j * 4 + 1) (x2 := 0 + j * 4 + 2) (x3 := 0 + j * 4 + 3) (v0 := .int .i64 0) (v1 := .int .i64 1) (v2 := .int .i64 0) (v3 := .int .i64 0) XU (by omega)
        have YS := st_box4 (L := w1.heap.size + 1) (x0 := 0 + j * 4) (x1 := 0 + j * 4 + 1) (x2 := 0 + j * 4 + 2) (x3 := 0 + j * 4 + 3) (v0 := .int .i64 0) (v1 := .int .i64 1) (v2 := .int .i64 0) (v3 := .int .i64 0) YU (by omega)
        rw [Nat.zero_add] at d0 d1 d2 d3 hst XS YS
        have HS : Hid _ := hst
        have HXS : Hid _ := XS
        have HYS : Hid _ := YS
        clear hU XU YU hst XS YS
        go_wp2
        go_roundw
        case rel => exact ⟨j + 1, _, _, by omega, by go_num, HS.out, HXS.out, HYS.out⟩
        case measure => simp [intOf]; omega
      · have hU := st_line (va := wr.heap.size + 1) (vg := wr.heap.size) (ti := 3) (tg := 52) HI.out hlt (by omega) (by omega) (Or.inr ⟨rfl, rfl, rfl, rfl⟩)
        have XU := st_box (L := L) (x0 := o + j * 4) (x1 := o + j * 4 + 1) (x2 := o + j * 4 + 2) (x3 := o + j * 4 + 3) (o1 := .cells #[.int .i64 0, .int .i64 1] 52) (o2 := .cells #[.int .i64 (xs[j]?.getD 0)] 3) (v0 := .int .i64 0) (v1 := .slice (some ⟨wr.heap.size + 1, 0, none⟩) 1 1) (v2 := .slice (some ⟨wr.heap.size, 0, none⟩) 1 1) (v3 := .int .i64 (-1)) HX.out.1 (by omega)
        have YU := st_box (L := L) (x0 := o + j * 4) (x1 := o + j * 4 + 1) (x2 := o + j * 4 + 2) (x3 := o + j * 4 + 3) (o1 := .cells #[.int .i64 0, .int .i64 1] 52) (o2 := .cells #[.int .i64 (xs[j]?.getD 0)] 3) (v0 := .int .i64 0) (v1 := .slice (some ⟨wr.heap.size + 1, 0, none⟩) 1 1) (v2 := .slice (some ⟨wr.heap.size, 0, none⟩) 1 1) (v3 := .int .i64 (-1)) HX.out.2 (by omega)
        clear k1 k2 k3 k4 k5 k6 g2 g5 f0 f1 c0 c1 c2 c3 d0 d1 d2 d3 y2 hca HI HX
        generalize ((((((wr.alloc (.cells #[.int .i64 0, .int .i64 1] 52)).alloc (.cells #[.int .i64 (xs[j]?.getD 0)] 3)).setCell ⟨L, o + j * 4, none⟩ (.int .i64 0)).setCell ⟨L, o + j * 4 + 1, none⟩ (.slice (some ⟨wr.heap.size + 1, 0, none⟩) 1 1)).setCell ⟨L, o + j * 4 + 2, none⟩ (.slice (some ⟨wr.heap.size, 0, none⟩) 1 1)).setCell ⟨L, o + j * 4 + 3, none⟩ (.int .i64 (-1))).drew = U at *
        obtain ⟨d0, d1, d2, d3⟩ := hU.bds j hlt
        have f1 : ∀ x, U.frozen? ⟨w1.heap.size + 1, x, none⟩ = false := fun x => hU.fN _ x (Nat.le_refl _)
        have hst := st_body hU hlt (by omega) (by omega)
        have XS := st_box4 (L := w1.heap.size + 1) (x0 := 0 + j * 4) (x1 := 0 + j * 4 + 1) (x2 := 0 + j * 4 + 2) (x3 := 0 + j * 4 + 3) (v0 := .int .i64 0) (v1 := .int .i64 1) (v2 := .int .i64 0) (v3 := .int .i64 0) XU (by omega)
        have YS := st_box4 (L := w1.heap.size + 1) (x0 := 0 + j * 4) (x1 := 0 + j * 4 + 1) (x2 := 0 + j * 4 + 2) (x3 := 0 + j * 4 + 3) (v0 := .int .i64 0) (v1 := .int .i64 1) (v2 := .int .i64 0) (v3 := .int .i64 0) YU (by omega)
        rw [Nat.zero_add] at d0 d1 d2 d3 hst XS YS
        have HS : Hid _ := hst
        have HXS : Hid _ := XS
        have HYS : Hid _ := YS
        clear hU XU YU hst XS YS
        go_wp2
        go_roundw
        case rel => exact ⟨j + 1, _, _, by omega, by go_num, HS.out, HXS.out, HYS.out⟩
        case measure => simp [intOf]; omega
    · obtain rfl : j = m := by omega
      have hy := st_ys (j := j) Hn.out hmn
      obtain ⟨hLn, hBd⟩ := st_end (al := al) (cl := cl) (ys := (xs.take j).map lnS) hI hm20 (by
        rcases HL.out with ⟨h0, _⟩ | ⟨h1, h2, _⟩
        · exact Or.inl h0
        · exact Or.inr ⟨h1, by omega⟩) hl1 hl2 hy.1 hy.2
      have hNd := st_nodup (L := L) (by
        rcases HL.out with ⟨h0, _⟩ | ⟨h1, h2, _⟩
        · exact Or.inl h0
        · exact Or.inr (Nat.lt_succ_of_lt h2)) hI.ds
      have hMem : ∀ x ∈ stBs L j D1 D2 ++ stBb (w1.heap.size + 1) j, w.heap.size < x ∧ x < wr.heap.size := fun x hx => by
        rcases List.mem_append.1 hx with h | h
        · refine ⟨?_, hLn.lt x h⟩
          have h2 := stBs_mem hI.ds h
          have h3 : j = 0 → False := fun h0 => by simp [stBs, h0] at h
          rcases HL.out with ⟨h0, _⟩ | ⟨_, _, h4, _⟩
          · exact absurd h0 h3
          · have := B1.size
            omega
        · refine ⟨?_, hBd.lt x h⟩
          have : x = w1.heap.size + 1 := by
            unfold stBb at h
            split at h
            · simp at h
            · simpa using h
          have := B1.size
          omega
      have hFr : Free wr (stBs L j D1 D2 ++ stBb (w1.heap.size + 1) j) := fun x hx y => by
        rcases List.mem_append.1 hx with h | h
        · rcases stBs_mem hI.ds h with rfl | h2
          · exact hI.fL y
          · exact hI.fN x y (by omega)
        · refine hI.fN x y ?_
          have : x = w1.heap.size + 1 := by
            unfold stBb at h
            split at h
            · simp at h
            · simpa using h
          omega
      have hBw := hI.below
      have hrt := st_right Hn.out Hm.out HO.out
      obtain ⟨y0, y1, y2⟩ := Y.three
      have HF : Hid (Free wr (stBs L j D1 D2 ++ stBb (w1.heap.size + 1) j) ∧ (stBs L j D1 D2 ++ stBb (w1.heap.size + 1) j).Nodup ∧ (∀ x ∈ stBs L j D1 D2 ++ stBb (w1.heap.size + 1) j, w.heap.size < x ∧ x < wr.heap.size)) := ⟨hFr, hNd, hMem⟩
      have HR : Hid _ := hrt
      have HLn : Hid (LnsAt wr (.slice al j cl) ((xs.take j).map lnS) (stBs L j D1 D2)) := hLn
      have HBd : Hid (BdsAt wr (.slice (some ⟨w1.heap.size + 1, 0, none⟩) j j) (List.replicate j bdS) (stBb (w1.heap.size + 1) j)) := hBd
      clear hI hFr hNd hMem hrt hLn hBd hy Ha HL
      go_wp2_with fail
      refine (implBookOk_any ⟨bO, bS, (xs.take j).map lnS⟩ _ (stBs L j D1 D2) _ ⟨_, rfl, HLn.out⟩).mono ?_
      rintro e w2 ⟨⟨c, rfl, hc⟩, hb2⟩
      have hb20 := hb2.size
      have X2 := X.below hb2 X.lt
      have Y2 := Y.below hb2 Y.lt
      have Bw2 := hBw.trans (hb2.mono hBw.size)
      obtain ⟨y0, y1, y2⟩ := Y2.three
      obtain ⟨x0, x1, x2, x3, x4⟩ := X2.five
      have f0 : ∀ x, w2.frozen? ⟨w.heap.size, x, none⟩ = false := fun x => X2.frozen x
      have HLn2 : Hid (LnsAt w2 (.slice al j cl) ((xs.take j).map lnS) (stBs L j D1 D2)) := HLn.out.below hb2 HLn.out.lt
      have HBd2 : Hid (BdsAt w2 (.slice (some ⟨w1.heap.size + 1, 0, none⟩) j j) (List.replicate j bdS) (stBb (w1.heap.size + 1) j)) := HBd.out.below hb2 HBd.out.lt
      have HF2 : Hid (Free w2 (stBs L j D1 D2 ++ stBb (w1.heap.size + 1) j) ∧ (stBs L j D1 D2 ++ stBb (w1.heap.size + 1) j).Nodup ∧ (∀ x ∈ stBs L j D1 D2 ++ stBb (w1.heap.size + 1) j, w.heap.size < x ∧ x < w2.heap.size)) :=
        ⟨HF.out.1.below hb2 (fun x hx => (HF.out.2.2 x hx).2), HF.out.2.1, fun x hx => ⟨(HF.out.2.2 x hx).1, Nat.lt_of_lt_of_le (HF.out.2.2 x hx).2 hb20⟩⟩
      clear X Y hb2 HLn HBd HF hBw X2 Y2
      by_cases hc0 : c = 0
      · subst hc0
        obtain ⟨rfl, rfl, rfl, htk, hR⟩ := HR.out.1 (hc.zero.1 rfl)
        have hkk : k = ⟨true, stBk bS xs, List.replicate xs.length bdS⟩ := by
          rcases Hk.out with ⟨_, h2⟩ | ⟨h1, _⟩
          · exact h2
          · exact absurd hR h1
        subst hkk
        have HT : Hid (xs.take j = xs) := htk
        clear hc htk hR
        go_wp2
        obtain ⟨s1, s2, s3⟩ := set5 w2 w.heap.size (.bool true) (.bool true) (.int .i64 bS) (.slice al j cl) (.slice (some ⟨w1.heap.size + 1, 0, none⟩) j j)
        refine bodyPost_ret (v := .agg #[.bool true, .bool true, .int .i64 bS, .slice al j cl, .slice (some ⟨w1.heap.size + 1, 0, none⟩) j j]) (by simp [results, Try.results7, go_sem, x0, x1, x2, x3, x4]) rfl ⟨_, rfl, stBs L j D1 D2 ++ stBb (w1.heap.size + 1) j, ?_, HF2.out.2.1, ?_, ?_, ?_⟩
        · refine ⟨_, _, stBs L j D1 D2, stBb (w1.heap.size + 1) j, rfl, rfl, ?_, ?_⟩
          · have h := HLn2.out
            rw [HT.out] at h
            exact h.keep fun x hx => s1 x (by have := (HF2.out.2.2 x (List.mem_append_left _ hx)).1; omega)
          · have h := HBd2.out
            rw [show List.replicate j bdS = List.replicate xs.length bdS by rw [Hn.out]] at h
            exact h.keep fun x hx => s1 x (by have := (HF2.out.2.2 x (List.mem_append_right _ hx)).1; omega)
        · exact fun x hx y => (s2 x y).trans (HF2.out.1 x hx y)
        · exact fun x hx => Nat.le_of_lt (HF2.out.2.2 x hx).1
        · exact s3 _ _ Bw2 (Nat.le_refl _)
      · have hkk : k = wd0 := by
          rcases Hk.out with ⟨h1, _⟩ | ⟨_, h2⟩
          · exact absurd (hc.zero.2 (HR.out.2 h1)) hc0
          · exact h2
        subst hkk
        clear hc
        go_wp2
        obtain ⟨s1, s2, s3⟩ := set5 w2 w.heap.size (.bool false) (.bool false) (.int .i64 0) (.slice none 0 0) (.slice none 0 0)
        exact bodyPost_ret (v := .agg #[.bool false, .bool false, .int .i64 0, .slice none 0 0, .slice none 0 0]) (by simp [results, Try.results7, go_sem, x0, x1, x2, x3, x4]) rfl ⟨_, rfl, newWd_zero (s3 _ _ Bw2 (Nat.le_refl _))⟩

end Go.Proofs.Ytnaaheddhgpnoab
