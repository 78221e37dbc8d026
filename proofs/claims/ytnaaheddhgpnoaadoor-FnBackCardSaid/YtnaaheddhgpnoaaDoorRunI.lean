import Derived.Test.YtnaaheddhgpnoaaDoorDoI
import Derived.Test.YtnaaheddhgpnoaaDoorIsNil
namespace Go.Proofs.YtnaaheddhgpnoaaDoor
open Go.ChangeShapes Go.WideShapes Go.ChangeAt Go.RowKit

def ev0 : Ev := ⟨0, 0, 0⟩
/-- Events in memory. -/
def EvsAt (w : World) (v : Value) (es : List Ev) (bs : List Nat) : Prop :=
  SlAt w v es.length bs fun b o => ∀ i, i < es.length → w.cell? ⟨b, o + i * 3, none⟩ = some (.int .i64 (es[i]?.getD ev0).op) ∧ w.cell? ⟨b, o + i * 3 + 1, none⟩ = some (.int .i64 (es[i]?.getD ev0).train) ∧ w.cell? ⟨b, o + i * 3 + 2, none⟩ = some (.int .i64 (es[i]?.getD ev0).n)

/-- A row of N cells of a kind. -/
def SzAt (w : World) (b : Nat) (t : TypeId) (N : Nat) : Prop := ∃ c : Array Value, w.heap[b]? = some (.cells c t (0, 0)) ∧ c.size = N
theorem SzAt.keep {w w' : World} {b N : Nat} {t : TypeId} (h : SzAt w b t N) (hk : w'.heap[b]? = w.heap[b]?) : SzAt w' b t N := by
  obtain ⟨c, h1, h2⟩ := h
  exact ⟨c, hk.trans h1, h2⟩
theorem SzAt.lt {w : World} {b N : Nat} {t : TypeId} (h : SzAt w b t N) : b < w.heap.size := by
  obtain ⟨c, h1, _⟩ := h
  exact heap_lt h1
theorem SzAt.below' {w w' : World} {b N : Nat} {t : TypeId} (h : SzAt w b t N) (hb : Below w.heap.size w w') : SzAt w' b t N := h.keep (hb.block _ h.lt)
theorem SzAt.set {w : World} {b N x o : Nat} {t : TypeId} (h : SzAt w b t N) (u : Value) : SzAt (w.setCell ⟨x, o, none⟩ u) b t N := by
  by_cases e : b = x
  · subst e
    obtain ⟨c, h1, h2⟩ := h
    have hb : BlkIs w b c.toList t := by unfold BlkIs; simpa using h1
    have := hb.set o u
    exact ⟨_, this, by simpa using h2⟩
  · exact h.keep (Below.heap_setCell _ _ _ _ e)
theorem SzAt.cell {w : World} {b N x : Nat} {t : TypeId} (h : SzAt w b t N) (hx : x < N) : ∃ u, w.cell? ⟨b, x, none⟩ = some u := by
  obtain ⟨c, h1, h2⟩ := h
  have hb : BlkIs w b c.toList t := by unfold BlkIs; simpa using h1
  rw [hb.cell]
  exact ⟨c[x]'(by omega), by simp [h2, hx]⟩
theorem SzAt.frozen {w : World} {b N : Nat} {t : TypeId} (h : SzAt w b t N) (x : Nat) : w.frozen? ⟨b, x, none⟩ = false := by
  obtain ⟨c, h1, _⟩ := h
  have hb : BlkIs w b c.toList t := by unfold BlkIs; simpa using h1
  exact hb.frozen x

theorem store4 {F : World} {b x N : Nat} {t : TypeId} {v0 v1 v2 v3 : Value} (h : SzAt F b t N) (hx : x + 3 < N) :
    ((((F.setCell ⟨b, x, none⟩ v0).setCell ⟨b, x + 1, none⟩ v1).setCell ⟨b, x + 2, none⟩ v2).setCell ⟨b, x + 3, none⟩ v3).drew.cell? ⟨b, x, none⟩ = some v0 ∧
    ((((F.setCell ⟨b, x, none⟩ v0).setCell ⟨b, x + 1, none⟩ v1).setCell ⟨b, x + 2, none⟩ v2).setCell ⟨b, x + 3, none⟩ v3).drew.cell? ⟨b, x + 1, none⟩ = some v1 ∧
    ((((F.setCell ⟨b, x, none⟩ v0).setCell ⟨b, x + 1, none⟩ v1).setCell ⟨b, x + 2, none⟩ v2).setCell ⟨b, x + 3, none⟩ v3).drew.cell? ⟨b, x + 2, none⟩ = some v2 ∧
    ((((F.setCell ⟨b, x, none⟩ v0).setCell ⟨b, x + 1, none⟩ v1).setCell ⟨b, x + 2, none⟩ v2).setCell ⟨b, x + 3, none⟩ v3).drew.cell? ⟨b, x + 3, none⟩ = some v3 ∧
    SzAt ((((F.setCell ⟨b, x, none⟩ v0).setCell ⟨b, x + 1, none⟩ v1).setCell ⟨b, x + 2, none⟩ v2).setCell ⟨b, x + 3, none⟩ v3).drew b t N ∧
    (∀ y, y ≠ b → ((((F.setCell ⟨b, x, none⟩ v0).setCell ⟨b, x + 1, none⟩ v1).setCell ⟨b, x + 2, none⟩ v2).setCell ⟨b, x + 3, none⟩ v3).drew.heap[y]? = F.heap[y]?) ∧
    ∀ (B : Nat) (w : World), Below B w F → B ≤ b → Below B w ((((F.setCell ⟨b, x, none⟩ v0).setCell ⟨b, x + 1, none⟩ v1).setCell ⟨b, x + 2, none⟩ v2).setCell ⟨b, x + 3, none⟩ v3).drew := by
  obtain ⟨u0, d0⟩ := h.cell (show x < N by omega)
  obtain ⟨u1, d1⟩ := h.cell (show x + 1 < N by omega)
  obtain ⟨u2, d2⟩ := h.cell (show x + 2 < N by omega)
  obtain ⟨u3, d3⟩ := h.cell (show x + 3 < N by omega)
  have hdr : ∀ (W : World) (p : Addr), W.drew.cell? p = W.cell? p := fun _ _ => rfl
  rw [hdr, hdr, hdr, hdr]
  refine ⟨?_, ?_, ?_, ?_, ?_, ?_, ?_⟩
  · exact (cell_set_ne (by omega)).trans ((cell_set_ne (by omega)).trans ((cell_set_ne (by omega)).trans (World.cell?_setCell_same _ _ _ d0)))
  · exact (cell_set_ne (by omega)).trans ((cell_set_ne (by omega)).trans (World.cell?_setCell_same _ _ _ ((cell_set_ne (by omega)).trans d1)))
  · exact (cell_set_ne (by omega)).trans (World.cell?_setCell_same _ _ _ ((cell_set_ne (by omega)).trans ((cell_set_ne (by omega)).trans d2)))
  · exact World.cell?_setCell_same _ _ _ ((cell_set_ne (by omega)).trans ((cell_set_ne (by omega)).trans ((cell_set_ne (by omega)).trans d3)))
  · exact (((h.set (x := b) (o := x) v0).set (x := b) (o := x + 1) v1).set (x := b) (o := x + 2) v2).set (x := b) (o := x + 3) v3
  · intro y hy
    exact (((Below.heap_setCell _ _ _ _ hy).trans (Below.heap_setCell _ _ _ _ hy)).trans (Below.heap_setCell _ _ _ _ hy)).trans (Below.heap_setCell _ _ _ _ hy)
  · intro B w hw hB
    exact ((((hw.setCell (by simpa using hB) _).setCell (by simpa using hB) _).setCell (by simpa using hB) _).setCell (by simpa using hB) _).drew
theorem store3 {F : World} {b : Nat} {t : TypeId} {a0 a1 a2 v0 v1 v2 : Value} (h : BlkIs F b [a0, a1, a2] t) :
    BlkIs (((F.setCell ⟨b, 0, none⟩ v0).setCell ⟨b, 1, none⟩ v1).setCell ⟨b, 2, none⟩ v2) b [v0, v1, v2] t ∧
    (∀ y, y ≠ b → (((F.setCell ⟨b, 0, none⟩ v0).setCell ⟨b, 1, none⟩ v1).setCell ⟨b, 2, none⟩ v2).heap[y]? = F.heap[y]?) ∧
    ∀ (B : Nat) (w : World), Below B w F → B ≤ b → Below B w (((F.setCell ⟨b, 0, none⟩ v0).setCell ⟨b, 1, none⟩ v1).setCell ⟨b, 2, none⟩ v2) := by
  refine ⟨?_, ?_, ?_⟩
  · have := ((h.set 0 v0).set 1 v1).set 2 v2
    simpa using this
  · intro y hy
    exact ((Below.heap_setCell _ _ _ _ hy).trans (Below.heap_setCell _ _ _ _ hy)).trans (Below.heap_setCell _ _ _ _ hy)
  · intro B w hw hB
    exact ((hw.setCell (by simpa using hB) _).setCell (by simpa using hB) _).setCell (by simpa using hB) _

theorem Tryd.infoDone : (Tryd.prog.info? 34).map (fun i => (i.zero, i.size, i.bytes)) = some (some (.agg #[.int .i64 0, .bool false, .int .i64 0, .slice none 0 0]), 4, 48) := by kernel_rfl

set_option maxHeartbeats 2000000 in
set_option maxRecDepth 100000 in
theorem run_walk (s t : Int) (es : List Ev) (v : Value) (bs : List Nat) (w : World) (a0 a1 a2 : Addr) (K : Nat → Bk) (h : EvsAt w v es bs) (he : Errs w a0 a1 a2) (hs1 : 1 ≤ s) (hs2 : s ≤ 200) (ht1 : 0 ≤ t) (ht2 : t ≤ 20) (hlen : es.length ≤ 2000) (h0 : K 0 = begD s t)
    (hstep : ∀ i, i < es.length → EvOk (K i) (es[i]?.getD ev0) ∧ (es[i]?.getD ev0).op ≠ 4 ∧ (doLn (K i) (es[i]?.getD ev0)).1 = 0 ∧ K (i + 1) = doBk (K i) (es[i]?.getD ev0)) :
    Calls Tryd.prog 11 #[.int .i64 s, .int .i64 t, v] w fun r w' => ∃ (rb : Nat) (vl : Value) (bl : List Nat), r = .returned (.slice (some ⟨rb, 0, none⟩) es.length es.length) ∧ LnsAt w' vl (K es.length).lns bl ∧ (∀ i : Nat, es.length = i + 1 → w'.cell? ⟨rb, i * 4, none⟩ = some (.int .i64 0) ∧ w'.cell? ⟨rb, i * 4 + 1, none⟩ = some (.bool (K es.length).ok) ∧ w'.cell? ⟨rb, i * 4 + 2, none⟩ = some (.int .i64 (K es.length).sec) ∧ w'.cell? ⟨rb, i * 4 + 3, none⟩ = some vl) ∧ Below w.heap.size w w' := by
  obtain ⟨a, c, rfl, hlc, hcm, hg⟩ := h
  unfold maxLen at hcm
  have HE : Hid (∀ W, Below w.heap.size w W → Errs W a0 a1 a2) := fun W hw => he.below hw he.lt
  have HSt : Hid (∀ i, i < es.length → EvOk (K i) (es[i]?.getD ev0) ∧ (es[i]?.getD ev0).op ≠ 4 ∧ (doLn (K i) (es[i]?.getD ev0)).1 = 0 ∧ K (i + 1) = doBk (K i) (es[i]?.getD ev0)) := hstep
  obtain ⟨iD, hiD, hzD0, hzD1, hzD2⟩ := info_parts Tryd.infoDone
  have hmk := fun W : World => run_make (P := Tryd.prog) W 26 34 iD _ Tryd.underlying26 hiD hzD0 .i64 .i64 (es.length : Int) (es.length : Int) (by omega) (Int.le_refl _) (by rw [hzD2]; omega) (by omega)
  rw [hzD1] at hmk
  clear he hstep hiD hzD0 hzD1 hzD2
  go_enter Tryd.func11, Tryd.ntmps11
  go_wp2_with fail
  refine (implBegin_any s t _).mono ?_
  rintro _ w1 ⟨v1, rfl, bsN, hN, _, _, _, hb1⟩
  rw [← h0] at hN
  have hok : (K 0).ok = true ∧ (K 0).sec = s := by rw [h0]; unfold begD; rw [if_pos ⟨⟨hs1, hs2⟩, ht1, ht2⟩]; exact ⟨rfl, rfl⟩
  obtain ⟨vl1, rfl, hl1⟩ := hN
  obtain ⟨la, ln, lc, rfl⟩ := hl1.slice
  rw [hok.1, hok.2]
  have b1 : Below w.heap.size w w1 := hb1
  have hz1 := b1.size
  have bM : Below w1.heap.size w1 ((w1.alloc (.cells #[.bool true, .int .i64 s, .slice la ln lc] 32)).alloc (.cells (madeCells #[.int .i64 0, .bool false, .int .i64 0, .slice none 0 0] (es.length * 4)) 34)) := ((Below.refl _ _).alloc (Nat.le_refl _) _).alloc (by simp) _
  have eN : BlkIs ((w1.alloc (.cells #[.bool true, .int .i64 s, .slice la ln lc] 32)).alloc (.cells (madeCells #[.int .i64 0, .bool false, .int .i64 0, .slice none 0 0] (es.length * 4)) 34)) w1.heap.size [.bool (K 0).ok, .int .i64 (K 0).sec, .slice la ln lc] 32 := by rw [hok.1, hok.2]; exact (BlkIs.new _ _ _).alloc _
  have eD : SzAt ((w1.alloc (.cells #[.bool true, .int .i64 s, .slice la ln lc] 32)).alloc (.cells (madeCells #[.int .i64 0, .bool false, .int .i64 0, .slice none 0 0] (es.length * 4)) 34)) (w1.heap.size + 1) 34 (es.length * 4) := ⟨_, by have := heap_alloc_new (w1.alloc (.cells #[.bool true, .int .i64 s, .slice la ln lc] 32)) (.cells (madeCells #[.int .i64 0, .bool false, .int .i64 0, .slice none 0 0] (es.length * 4)) 34); rwa [World.size_alloc] at this, by simp [madeCells]⟩
  have hl2 := hl1.below bM hl1.lt
  have bw2 := b1.trans (bM.mono hz1)
  have HS0 : Hid (∃ (vl : Value) (bl : List Nat), BlkIs ((w1.alloc (.cells #[.bool true, .int .i64 s, .slice la ln lc] 32)).alloc (.cells (madeCells #[.int .i64 0, .bool false, .int .i64 0, .slice none 0 0] (es.length * 4)) 34)) w1.heap.size [.bool (K 0).ok, .int .i64 (K 0).sec, vl] 32 ∧ LnsAt ((w1.alloc (.cells #[.bool true, .int .i64 s, .slice la ln lc] 32)).alloc (.cells (madeCells #[.int .i64 0, .bool false, .int .i64 0, .slice none 0 0] (es.length * 4)) 34)) vl (K 0).lns bl ∧ (∀ x ∈ bl, x ≠ w1.heap.size ∧ x ≠ w1.heap.size + 1) ∧ SzAt ((w1.alloc (.cells #[.bool true, .int .i64 s, .slice la ln lc] 32)).alloc (.cells (madeCells #[.int .i64 0, .bool false, .int .i64 0, .slice none 0 0] (es.length * 4)) 34)) (w1.heap.size + 1) 34 (es.length * 4) ∧ (∀ i : Nat, 0 = i + 1 → ((w1.alloc (.cells #[.bool true, .int .i64 s, .slice la ln lc] 32)).alloc (.cells (madeCells #[.int .i64 0, .bool false, .int .i64 0, .slice none 0 0] (es.length * 4)) 34)).cell? ⟨w1.heap.size + 1, i * 4, none⟩ = some (.int .i64 0) ∧ ((w1.alloc (.cells #[.bool true, .int .i64 s, .slice la ln lc] 32)).alloc (.cells (madeCells #[.int .i64 0, .bool false, .int .i64 0, .slice none 0 0] (es.length * 4)) 34)).cell? ⟨w1.heap.size + 1, i * 4 + 1, none⟩ = some (.bool (K 0).ok) ∧ ((w1.alloc (.cells #[.bool true, .int .i64 s, .slice la ln lc] 32)).alloc (.cells (madeCells #[.int .i64 0, .bool false, .int .i64 0, .slice none 0 0] (es.length * 4)) 34)).cell? ⟨w1.heap.size + 1, i * 4 + 2, none⟩ = some (.int .i64 (K 0).sec) ∧ ((w1.alloc (.cells #[.bool true, .int .i64 s, .slice la ln lc] 32)).alloc (.cells (madeCells #[.int .i64 0, .bool false, .int .i64 0, .slice none 0 0] (es.length * 4)) 34)).cell? ⟨w1.heap.size + 1, i * 4 + 3, none⟩ = some vl) ∧ Below w.heap.size w ((w1.alloc (.cells #[.bool true, .int .i64 s, .slice la ln lc] 32)).alloc (.cells (madeCells #[.int .i64 0, .bool false, .int .i64 0, .slice none 0 0] (es.length * 4)) 34))) := ⟨_, bsN, eN, hl2, fun x hx => by have := hl1.lt x hx; omega, eD, fun i hi => by omega, bw2⟩
  have HOK : Hid (∀ j, j ≤ es.length → (K j).ok = true ∧ (K j).sec = s) := fun j => by
    induction j with
    | zero => exact fun _ => hok
    | succ j ih => intro hj; rw [(HSt.out j (by omega)).2.2.2]; exact ih (by omega)
  clear hl1 hl2 eN eD bM bw2 b1
  generalize hQ : es.length = q at *
  have HQ : Hid (es.length = q) := hQ
  clear hQ hok
  go_wp2_with fail
  have hnb : w1.heap.size + 2 = (((w1.alloc (.cells #[.bool true, .int .i64 s, .slice la ln lc] 32)).alloc (.cells (madeCells #[.int .i64 0, .bool false, .int .i64 0, .slice none 0 0] (q * 4)) 34))).heap.size := by simp
  generalize ((w1.alloc (.cells #[.bool true, .int .i64 s, .slice la ln lc] 32)).alloc (.cells (madeCells #[.int .i64 0, .bool false, .int .i64 0, .slice none 0 0] (q * 4)) 34)) = V at *
  generalize w1.heap.size = nb at *
  go_loopw [29] (fun i wr => ∃ j : Nat, j ≤ q ∧ i = .int .i64 j ∧ ∃ (vl : Value) (bl : List Nat), BlkIs wr nb [.bool (K j).ok, .int .i64 (K j).sec, vl] 32 ∧ LnsAt wr vl (K j).lns bl ∧ (∀ x ∈ bl, x ≠ nb ∧ x ≠ nb + 1) ∧ SzAt wr (nb + 1) 34 (q * 4) ∧ (∀ i : Nat, j = i + 1 → wr.cell? ⟨nb + 1, i * 4, none⟩ = some (.int .i64 0) ∧ wr.cell? ⟨nb + 1, i * 4 + 1, none⟩ = some (.bool (K j).ok) ∧ wr.cell? ⟨nb + 1, i * 4 + 2, none⟩ = some (.int .i64 (K j).sec) ∧ wr.cell? ⟨nb + 1, i * 4 + 3, none⟩ = some vl) ∧ Below w.heap.size w wr) (fun i _ => q - (intOf i).toNat)
  case atStart => exact ⟨0, Nat.zero_le _, rfl, HS0.out⟩
  case round =>
    clear HS0 hmk
    obtain ⟨j, hj, rfl, vl, bl, hB, hLn, hbl, hD, hcel, hbw⟩ := hrel
    by_cases hlt : j < q
    · rcases hg with ⟨h00, _⟩ | ⟨eb, eo, rfl, _, hse, hce⟩
      · omega
      have ce0 := ((bcell hbw).1 _ _ hse).trans (hce j hlt).1
      have ce1 := ((bcell hbw).1 _ _ hse).trans (hce j hlt).2.1
      have ce2 := ((bcell hbw).1 _ _ hse).trans (hce j hlt).2.2
      obtain ⟨st1, st2, st3, st4⟩ := HSt.out j hlt
      obtain ⟨la', ln', lc', rfl⟩ := hLn.slice
      generalize es[j]?.getD ev0 = e at *
      have HB : Hid (∀ W, BkAt W (.agg #[.bool (K j).ok, .int .i64 (K j).sec, .slice la' ln' lc']) (K j) bl → Errs W a0 a1 a2 → Calls Tryd.prog 38 #[.agg #[.bool (K j).ok, .int .i64 (K j).sec, .slice la' ln' lc'], .agg #[.int .i64 e.op, .int .i64 e.train, .int .i64 e.n]] W fun r w' => ∃ vl1 bs1, r = .returned (.tuple #[.agg #[.bool (K j).ok, .int .i64 (K j).sec, vl1], .nilIface]) ∧ LnsAt w' vl1 (K (j + 1)).lns bs1 ∧ Below W.heap.size W w' ∧ ∀ x ∈ bs1, W.heap.size ≤ x) := fun W h1 h2 => (behind_any (K j) e _ bl W a0 a1 a2 h1 h2 st1 st2 (by rw [st3]; decide)).mono fun r w' ⟨vl1, bs1, q1, q2, q3, q4⟩ => ⟨vl1, bs1, by rw [q1, st3]; rfl, by rw [st4]; exact q2, q3, q4⟩
      have Hok : Hid ((K (j + 1)).ok = (K j).ok ∧ (K (j + 1)).sec = (K j).sec) := by show _ ∧ _; rw [st4]; exact ⟨rfl, rfl⟩
      clear st1 st2 st3 st4 hce
      have bM : Below wr.heap.size wr (wr.alloc (.cells #[.int .i64 e.op, .int .i64 e.train, .int .i64 e.n] 46)) := (Below.refl _ _).alloc (Nat.le_refl _) _
      have eE : BlkIs (wr.alloc (.cells #[.int .i64 e.op, .int .i64 e.train, .int .i64 e.n] 46)) wr.heap.size [.int .i64 e.op, .int .i64 e.train, .int .i64 e.n] 46 := BlkIs.new _ _ _
      have HBk : Hid (BkAt wr (.agg #[.bool (K j).ok, .int .i64 (K j).sec, .slice la' ln' lc']) (K j) bl) := ⟨_, rfl, hLn⟩
      have HBB : Hid (BlkIs wr nb [.bool (K j).ok, .int .i64 (K j).sec, .slice la' ln' lc'] 32) := hB
      have HDD : Hid (SzAt wr (nb + 1) 34 (q * 4)) := hD
      have HBW : Hid (Below w.heap.size w wr) := hbw
      obtain ⟨n0, n1, n2⟩ := hB.three
      have nlt := hB.lt
      have dlt := hD.lt
      have hzw := hbw.size
      clear hcel hLn hbl hB hD hbw
      go_wp2_with fail
      have hMz : (wr.alloc (.cells #[.int .i64 e.op, .int .i64 e.train, .int .i64 e.n] 46)).heap.size = wr.heap.size + 1 := by simp
      generalize wr.alloc (.cells #[.int .i64 e.op, .int .i64 e.train, .int .i64 e.n] 46) = M at *
      have bwM := HBW.out.trans (bM.mono hzw)
      refine (HB.out _ (HBk.out.below bM HBk.out.lt) (HE.out _ bwM)).mono ?_
      rintro _ w2 ⟨vl1, bs1, rfl, hl1, hb2, hlo1⟩
      obtain ⟨lb1, ln1, lc1, rfl⟩ := hl1.slice
      have bw2 := bwM.trans (hb2.mono bwM.size)
      have b02 := bM.trans (hb2.mono bM.size)
      have g0 := (HE.out _ bw2).g0
      have z2 := hb2.size
      have bF : Below w2.heap.size w2 (w2.alloc (.cells #[.bool (K j).ok, .int .i64 (K j).sec, .slice lb1 ln1 lc1] 32)) := (Below.refl _ _).alloc (Nat.le_refl _) _
      have eF : BlkIs (w2.alloc (.cells #[.bool (K j).ok, .int .i64 (K j).sec, .slice lb1 ln1 lc1] 32)) w2.heap.size [.bool (K j).ok, .int .i64 (K j).sec, .slice lb1 ln1 lc1] 32 := BlkIs.new _ _ _
      have hFz : (w2.alloc (.cells #[.bool (K j).ok, .int .i64 (K j).sec, .slice lb1 ln1 lc1] 32)).heap.size = w2.heap.size + 1 := by simp
      have gF : (w2.alloc (.cells #[.bool (K j).ok, .int .i64 (K j).sec, .slice lb1 ln1 lc1] 32)).cell? ⟨0, 0, none⟩ = some (.iface 231 (.pointer (some a0))) := (HE.out _ (bw2.trans (bF.mono bw2.size))).g0
      clear n0 n1 n2 ce0 ce1 ce2
      go_wp2_with fail
      refine (is_nil a0 _).mono ?_
      rintro _ w3 ⟨rfl, rfl⟩
      have bw3 := bw2.trans (bF.mono bw2.size)
      have b03 := b02.trans (bF.mono b02.size)
      have hl3 := hl1.below bF hl1.lt
      clear gF g0
      generalize w2.alloc (.cells #[.bool (K j).ok, .int .i64 (K j).sec, .slice lb1 ln1 lc1] 32) = F at *
      have hB3 := HBB.out.below b03 HBB.out.lt
      have hD3 := HDD.out.below' b03
      obtain ⟨f0, f1, f2⟩ := eF.three
      obtain ⟨u0, d0⟩ := hD3.cell (show j * 4 < q * 4 by omega)
      obtain ⟨u1, d1⟩ := hD3.cell (show j * 4 + 1 < q * 4 by omega)
      obtain ⟨u2, d2⟩ := hD3.cell (show j * 4 + 2 < q * 4 by omega)
      obtain ⟨u3, d3⟩ := hD3.cell (show j * 4 + 3 < q * 4 by omega)
      have df : ∀ x, F.frozen? ⟨nb + 1, x, none⟩ = false := fun x => hD3.frozen x
      have hjl : (j : Int) < (q : Int) := by omega
      have ne1 : w2.heap.size ≠ nb + 1 := by omega
      have ne2 : w2.heap.size ≠ nb := by omega
      go_wp2_with fail
      go_region_with (first
        | (go_at_call 41; refine (codeOf_0 _).mono ?_; rintro _ w5 ⟨rfl, rfl⟩))
      all_goals (
        obtain ⟨k0, k1, k2, k3, hDX, hkX, hbX⟩ := store4 (v0 := .int .i64 0) (v1 := .bool (K j).ok) (v2 := .int .i64 (K j).sec) (v3 := .slice lb1 ln1 lc1) (x := j * 4) hD3 (by omega)
        have eFX := eF.keep (hkX _ ne1)
        have hBX := hB3.keep (hkX _ (show nb ≠ nb + 1 by omega))
        have hlX := hl3.keep fun x hx => hkX x (by have := hlo1 x hx; omega)
        have bwX := hbX _ _ bw3 (by omega)
        clear f0 f1 f2 d0 d1 d2 d3 df eF hB3 hD3 hl3
        generalize ((((F.setCell ⟨nb + 1, j * 4, none⟩ (.int .i64 0)).setCell ⟨nb + 1, j * 4 + 1, none⟩ (.bool (K j).ok)).setCell ⟨nb + 1, j * 4 + 2, none⟩ (.int .i64 (K j).sec)).setCell ⟨nb + 1, j * 4 + 3, none⟩ (.slice lb1 ln1 lc1)).drew = Y at *
        obtain ⟨f0, f1, f2⟩ := eFX.three
        obtain ⟨n0, n1, n2⟩ := hBX.three
        have nf : ∀ x, Y.frozen? ⟨nb, x, none⟩ = false := fun x => hBX.frozen x
        have HFin : Hid (∃ (vl : Value) (bl : List Nat), BlkIs (((Y.setCell ⟨nb, 0, none⟩ (.bool (K j).ok)).setCell ⟨nb, 1, none⟩ (.int .i64 (K j).sec)).setCell ⟨nb, 2, none⟩ (.slice lb1 ln1 lc1)) nb [.bool (K (j + 1)).ok, .int .i64 (K (j + 1)).sec, vl] 32 ∧ LnsAt (((Y.setCell ⟨nb, 0, none⟩ (.bool (K j).ok)).setCell ⟨nb, 1, none⟩ (.int .i64 (K j).sec)).setCell ⟨nb, 2, none⟩ (.slice lb1 ln1 lc1)) vl (K (j + 1)).lns bl ∧ (∀ x ∈ bl, x ≠ nb ∧ x ≠ nb + 1) ∧ SzAt (((Y.setCell ⟨nb, 0, none⟩ (.bool (K j).ok)).setCell ⟨nb, 1, none⟩ (.int .i64 (K j).sec)).setCell ⟨nb, 2, none⟩ (.slice lb1 ln1 lc1)) (nb + 1) 34 (q * 4) ∧ (∀ i : Nat, j + 1 = i + 1 → (((Y.setCell ⟨nb, 0, none⟩ (.bool (K j).ok)).setCell ⟨nb, 1, none⟩ (.int .i64 (K j).sec)).setCell ⟨nb, 2, none⟩ (.slice lb1 ln1 lc1)).cell? ⟨nb + 1, i * 4, none⟩ = some (.int .i64 0) ∧ (((Y.setCell ⟨nb, 0, none⟩ (.bool (K j).ok)).setCell ⟨nb, 1, none⟩ (.int .i64 (K j).sec)).setCell ⟨nb, 2, none⟩ (.slice lb1 ln1 lc1)).cell? ⟨nb + 1, i * 4 + 1, none⟩ = some (.bool (K (j + 1)).ok) ∧ (((Y.setCell ⟨nb, 0, none⟩ (.bool (K j).ok)).setCell ⟨nb, 1, none⟩ (.int .i64 (K j).sec)).setCell ⟨nb, 2, none⟩ (.slice lb1 ln1 lc1)).cell? ⟨nb + 1, i * 4 + 2, none⟩ = some (.int .i64 (K (j + 1)).sec) ∧ (((Y.setCell ⟨nb, 0, none⟩ (.bool (K j).ok)).setCell ⟨nb, 1, none⟩ (.int .i64 (K j).sec)).setCell ⟨nb, 2, none⟩ (.slice lb1 ln1 lc1)).cell? ⟨nb + 1, i * 4 + 3, none⟩ = some vl) ∧ Below w.heap.size w (((Y.setCell ⟨nb, 0, none⟩ (.bool (K j).ok)).setCell ⟨nb, 1, none⟩ (.int .i64 (K j).sec)).setCell ⟨nb, 2, none⟩ (.slice lb1 ln1 lc1))) := by
          show ∃ (vl : Value) (bl : List Nat), BlkIs (((Y.setCell ⟨nb, 0, none⟩ (.bool (K j).ok)).setCell ⟨nb, 1, none⟩ (.int .i64 (K j).sec)).setCell ⟨nb, 2, none⟩ (.slice lb1 ln1 lc1)) nb [.bool (K (j + 1)).ok, .int .i64 (K (j + 1)).sec, vl] 32 ∧ LnsAt (((Y.setCell ⟨nb, 0, none⟩ (.bool (K j).ok)).setCell ⟨nb, 1, none⟩ (.int .i64 (K j).sec)).setCell ⟨nb, 2, none⟩ (.slice lb1 ln1 lc1)) vl (K (j + 1)).lns bl ∧ (∀ x ∈ bl, x ≠ nb ∧ x ≠ nb + 1) ∧ SzAt (((Y.setCell ⟨nb, 0, none⟩ (.bool (K j).ok)).setCell ⟨nb, 1, none⟩ (.int .i64 (K j).sec)).setCell ⟨nb, 2, none⟩ (.slice lb1 ln1 lc1)) (nb + 1) 34 (q * 4) ∧ (∀ i : Nat, j + 1 = i + 1 → (((Y.setCell ⟨nb, 0, none⟩ (.bool (K j).ok)).setCell ⟨nb, 1, none⟩ (.int .i64 (K j).sec)).setCell ⟨nb, 2, none⟩ (.slice lb1 ln1 lc1)).cell? ⟨nb + 1, i * 4, none⟩ = some (.int .i64 0) ∧ (((Y.setCell ⟨nb, 0, none⟩ (.bool (K j).ok)).setCell ⟨nb, 1, none⟩ (.int .i64 (K j).sec)).setCell ⟨nb, 2, none⟩ (.slice lb1 ln1 lc1)).cell? ⟨nb + 1, i * 4 + 1, none⟩ = some (.bool (K (j + 1)).ok) ∧ (((Y.setCell ⟨nb, 0, none⟩ (.bool (K j).ok)).setCell ⟨nb, 1, none⟩ (.int .i64 (K j).sec)).setCell ⟨nb, 2, none⟩ (.slice lb1 ln1 lc1)).cell? ⟨nb + 1, i * 4 + 2, none⟩ = some (.int .i64 (K (j + 1)).sec) ∧ (((Y.setCell ⟨nb, 0, none⟩ (.bool (K j).ok)).setCell ⟨nb, 1, none⟩ (.int .i64 (K j).sec)).setCell ⟨nb, 2, none⟩ (.slice lb1 ln1 lc1)).cell? ⟨nb + 1, i * 4 + 3, none⟩ = some vl) ∧ Below w.heap.size w (((Y.setCell ⟨nb, 0, none⟩ (.bool (K j).ok)).setCell ⟨nb, 1, none⟩ (.int .i64 (K j).sec)).setCell ⟨nb, 2, none⟩ (.slice lb1 ln1 lc1))
          obtain ⟨hBZ, hkZ, hbZ⟩ := store3 (v0 := .bool (K j).ok) (v1 := .int .i64 (K j).sec) (v2 := .slice lb1 ln1 lc1) hBX
          have kk := hkZ (nb + 1) (by omega)
          rw [Hok.out.1, Hok.out.2]
          refine ⟨.slice lb1 ln1 lc1, bs1, hBZ, hlX.keep fun x hx => hkZ x (by have := hlo1 x hx; omega), fun x hx => by have := hlo1 x hx; omega, hDX.keep kk, fun i hi => ?_, hbZ _ _ bwX (by omega)⟩
          obtain rfl : j = i := by omega
          exact ⟨(cell_keep kk).trans k0, (cell_keep kk).trans k1, (cell_keep kk).trans k2, (cell_keep kk).trans k3⟩
        clear eFX hBX hDX k0 k1 k2 k3 hlX bwX hlo1
        go_wp2
        go_roundw
        case rel => exact ⟨j + 1, by omega, by go_num, HFin.out⟩
        case measure => simp [intOf]; omega)
    · obtain rfl : j = q := by omega
      have HR : Hid (∃ (rb : Nat) (vl : Value) (bl : List Nat), Ending.returned (.slice (some ⟨nb + 1, 0, none⟩) j j) = .returned (.slice (some ⟨rb, 0, none⟩) es.length es.length) ∧ LnsAt wr vl (K es.length).lns bl ∧ (∀ i : Nat, es.length = i + 1 → wr.cell? ⟨rb, i * 4, none⟩ = some (.int .i64 0) ∧ wr.cell? ⟨rb, i * 4 + 1, none⟩ = some (.bool (K es.length).ok) ∧ wr.cell? ⟨rb, i * 4 + 2, none⟩ = some (.int .i64 (K es.length).sec) ∧ wr.cell? ⟨rb, i * 4 + 3, none⟩ = some vl) ∧ Below w.heap.size w wr) := by
        show ∃ (rb : Nat) (vl : Value) (bl : List Nat), _
        rw [HQ.out]
        exact ⟨nb + 1, vl, bl, rfl, hLn, hcel, hbw⟩
      clear hB hLn hbl hD hcel hbw
      go_wp2
      go_ret
      exact HR.out

end Go.Proofs.YtnaaheddhgpnoaaDoor
