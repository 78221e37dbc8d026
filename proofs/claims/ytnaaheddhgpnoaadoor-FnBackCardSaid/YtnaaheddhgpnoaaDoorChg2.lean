import Derived.Test.YtnaaheddhgpnoaaDoorChg
namespace Go.Proofs.YtnaaheddhgpnoaaDoor
open Go.ChangeShapes Go.WideShapes Go.ChangeAt Go.RowKit

theorem own_below {w w' : World} {B T n size : Nat} {v : Value} {xs : List Value} (h : w.ownsRow B T size v n xs) (hb : Below w.heap.size w w') : w'.ownsRow B T size v n xs :=
  h.kept (row := none) ⟨hb.os, hb.tape, hb.output, hb.size, fun k hk _ => hb.block k hk⟩ (by cases hv : v.ownBlock <;> simp)

set_option maxHeartbeats 8000000 in
set_option maxRecDepth 100000 in
theorem change2 (l : Ln) (n : Int) (b o Bs cg : Nat) (ag : Option Addr) (vw : Value) (d1 d2 : List Nat) (w : World) (p0 : w.cell? ⟨b, o, none⟩ = some (.int .i64 l.gone)) (p1 : w.cell? ⟨b, o + 1, none⟩ = some vw) (p2 : w.cell? ⟨b, o + 2, none⟩ = some (.slice ag l.grs.length cg)) (p3 : w.cell? ⟨b, o + 3, none⟩ = some (.int .i64 l.drop))
    (hiw : IntsAt w vw l.way d1) (hgw : GrsAt w (.slice ag l.grs.length cg) l.grs d2) (hrow : w.ownsRow Bs 40 2 (.slice ag l.grs.length cg) l.grs.length (grCells l.grs)) (hBs : Bs ≤ w.heap.size) (hf : ∀ x, w.frozen? ⟨b, x, none⟩ = false) (hbd : b ∉ d1) (hob : some b ≠ (Value.slice ag l.grs.length cg).ownBlock) (hog : ∀ x ∈ d1, some x ≠ (Value.slice ag l.grs.length cg).ownBlock) (g0 : 0 ≤ l.gone) (g1 : l.gone ≤ 1000000) (hl : l.way.length ≤ 100) (hd : l.drop = -1 ∨ l.gone ≤ l.drop) (hG : GrsOk l) (hlt20 : l.grs.length < 20) (hlo1 : ∀ x ∈ d1, Bs ≤ x) :
    Calls Tryd.prog 72 #[.pointer (some ⟨b, o, none⟩), .iface 148 (.agg #[.int .i64 n])] w fun e w' => e = .returned (.tuple #[]) ∧ (∃ d', LnCells w' b o (settleD { l with grs := l.grs ++ [⟨lastVer l + 1, n⟩] }) d' ∧ ∀ x ∈ d', Bs ≤ x) ∧ LnGrow b o (Value.slice ag l.grs.length cg).ownBlock w w' := by
  have hb : b < w.heap.size := World.block_lt_of_cell? w _ p0
  have hA0 : ∀ x : World, (Instr.typeAssert (.iface 148 (.agg #[.int .i64 n])) 119 146 true).run Tryd.prog x = .ok (.tuple #[.agg #[.int .i64 0], .bool false]) x := fun _ => by kernel_rfl
  have hA1 : ∀ x : World, (Instr.typeAssert (.iface 148 (.agg #[.int .i64 n])) 119 148 true).run Tryd.prog x = .ok (.tuple #[.agg #[.int .i64 n], .bool true]) x := fun _ => by kernel_rfl
  obtain ⟨iG, hiG, hzG0, hzG1, hzG2⟩ := info_parts Tryd.infoGrant
  obtain ⟨aw, nw, cw, rfl⟩ := hiw.slice
  obtain ⟨m, hm⟩ : ∃ m, l.grs.length = m + 1 := ⟨l.grs.length - 1, by have := hG.some; omega⟩
  have hL0 : LnAt w (.agg #[.int .i64 l.gone, .slice aw nw cw, .slice ag l.grs.length cg, .int .i64 l.drop]) l (d1 ++ d2) := ⟨_, _, d1, d2, rfl, rfl, hiw, hgw⟩
  have HL0 : Hid (LnAt w (.agg #[.int .i64 l.gone, .slice aw nw cw, .slice ag l.grs.length cg, .int .i64 l.drop]) l (d1 ++ d2)) := hL0
  have HLa : Hid (∀ W, LnAt W (.agg #[.int .i64 l.gone, .slice aw nw cw, .slice ag l.grs.length cg, .int .i64 l.drop]) l (d1 ++ d2) → Calls Tryd.prog 79 #[.agg #[.int .i64 l.gone, .slice aw nw cw, .slice ag l.grs.length cg, .int .i64 l.drop]] W fun e w' => e = .returned (.agg #[.int .i64 (lastVer l), .int .i64 (lastCel l)]) ∧ Below W.heap.size W w') := fun W h => by
    have e1 : lastVer l = (l.grs[m]?.getD gr0).ver := by unfold lastVer; rw [hm]; rfl
    have e2 : lastCel l = (l.grs[m]?.getD gr0).cel := by unfold lastCel; rw [hm]; rfl
    rw [e1, e2]
    exact last_any l _ (d1 ++ d2) W h m hm
  have hLV : 0 ≤ lastVer l ∧ lastVer l ≤ 1000000 := by
    have e1 : lastVer l = (l.grs[m]?.getD gr0).ver := by unfold lastVer; rw [hm]; rfl
    rw [e1]
    exact ⟨(hG.each m (by omega)).v0, (hG.each m (by omega)).v1⟩
  obtain ⟨hLV0, hLV1⟩ := hLV
  generalize lastVer l = LV at *
  generalize lastCel l = LC at *
  clear hm hL0 hG
  have f2 := hf (o + 2)
  have bA : Below w.heap.size w (w.alloc (.cells #[.int .i64 n] 148)) := (Below.refl _ _).alloc (Nat.le_refl _) _
  have eH : BlkIs (w.alloc (.cells #[.int .i64 n] 148)) w.heap.size [.int .i64 n] 148 := BlkIs.new _ _ _
  have hRow := hrow.alloc (.cells #[.int .i64 n] 148)
  have HP : Hid (w.cell? ⟨b, o, none⟩ = some (.int .i64 l.gone) ∧ w.cell? ⟨b, o + 1, none⟩ = some (.slice aw nw cw) ∧ w.cell? ⟨b, o + 3, none⟩ = some (.int .i64 l.drop)) := ⟨p0, p1, p3⟩
  have HIW : Hid (IntsAt w (.slice aw nw cw) l.way d1) := hiw
  have HOG : Hid (∀ x ∈ d1, some x ≠ (Value.slice ag l.grs.length cg).ownBlock) := hog
  have HOB : Hid (some b ≠ (Value.slice ag l.grs.length cg).ownBlock) := hob
  clear hgw hog hob hrow hiw
  go_enter_defers Tryd.func72, Tryd.ntmps72
  go_wp2_with fail
  have r0 := ((bcell bA).1 _ _ hb).trans p0
  have r1 := ((bcell bA).1 _ _ hb).trans p1
  have r2 := ((bcell bA).1 _ _ hb).trans p2
  have r3 := ((bcell bA).1 _ _ hb).trans p3
  have fr2 : (w.alloc (.cells #[.int .i64 n] 148)).frozen? ⟨b, o + 2, none⟩ = false := ((bcell bA).2 _ _ hb).trans f2
  have x0 := eH.cell 0
  simp only [List.getElem?_cons_zero] at x0
  have HA : Hid (Below w.heap.size w (w.alloc (.cells #[.int .i64 n] 148))) := bA
  have hAb : b < (w.alloc (.cells #[.int .i64 n] 148)).heap.size := by simp; omega
  have hAx : w.heap.size < (w.alloc (.cells #[.int .i64 n] 148)).heap.size := by simp
  have hBA : Bs ≤ (w.alloc (.cells #[.int .i64 n] 148)).heap.size := by simp; omega
  clear bA eH p0 p1 p2 p3 f2
  generalize (w.alloc (.cells #[.int .i64 n] 148)) = A at *
  have HLA : Hid (LnAt A.drew (.agg #[.int .i64 l.gone, .slice aw nw cw, .slice ag l.grs.length cg, .int .i64 l.drop]) l (d1 ++ d2)) := HL0.out.below HA.out.drew HL0.out.lt
  have hfd0 : ∀ x : World, (Instr.field 40 (.agg #[.int .i64 LV, .int .i64 LC]) 0).run Tryd.prog x = .ok (.int .i64 LV) x := fun _ => by kernel_rfl
  refine wp_region_noPanic ?_
  go_region_law (first
    | (go_simp; go_at_call 79; refine (HLa.out _ ?_).mono ?_; exact HLA.out; rintro _ w2 ⟨rfl, hb2⟩; have t2 : Below A.heap.size A w2 := (Below.refl _ _).drew.trans hb2; have s2 : A.heap.size ≤ w2.heap.size := t2.size; have zb2 : b < w2.heap.size := Nat.lt_of_lt_of_le hAb s2; have zx2 : w.heap.size < w2.heap.size := Nat.lt_of_lt_of_le hAx s2; have y2 := ((bcell t2).1 _ _ hAb).trans r2; have yx := ((bcell t2).1 _ 0 hAx).trans x0; have hR2 := own_below hRow t2)
    | (refine step_append_lies _ (by rfl) _ _ _ (by rfl) Bs 40 iG _ 2 16 Tryd.underlying36 hiG hzG0 hzG1 hzG2 rfl (by omega) (.slice ag l.grs.length cg) l.grs.length (grCells l.grs) (by rfl) (by first | exact hR2.alloc _ | exact (hR2.alloc _).drew)
        ⟨w2.heap.size, 0, none⟩ 1 1 [.int .i64 (IntKind.i64.wrap (LV + 1)), .int .i64 n] (by rfl) (by rfl) (World.news_of_block (cs := #[.int .i64 (IntKind.i64.wrap (LV + 1)), .int .i64 n]) (t := 40) (fr := (0, 0)) (heap_alloc_new w2 _)) (by simp [Value.oneCell'])
        (by omega) (by unfold maxLen; omega) (by omega) (by simp; omega) (w2.heap.size + 1) (by simp) ?_; intro gg cap2 w5 hown1 hgrow hat hlt; have k5 : w5.heap[b]? = A.heap[b]? := ((hgrow.block b (by simp; omega) HOB.out).trans (Below.heap_alloc _ _ _ (by omega))).trans (t2.block b hAb); have f5 : w5.frozen? ⟨b, o + 2, none⟩ = false := (World.frozen?_of_block (a := ⟨b, o + 2, none⟩) k5).trans fr2; have c5 : w5.cell? ⟨b, o + 2, none⟩ = some (.slice ag l.grs.length cg) := (cell_keep k5).trans r2))
  all_goals (
    refine NoPanic.normal ?_
    have hwr : IntKind.i64.wrap (LV + 1) = LV + 1 := by rw [IntWalk.i64_left]; unfold RowKit.wrap64; omega
    rw [hwr] at hown1
    have G5 : A.grownBy w5 (Value.slice ag l.grs.length cg).ownBlock := ⟨hgrow.os.trans t2.os, hgrow.tape.trans t2.tape, hgrow.output.trans t2.output, Nat.le_trans s2 (Nat.le_trans (by simp) hgrow.size), fun q hq hne => ((hgrow.block q (by simp; omega) hne).trans (Below.heap_alloc _ _ _ (by omega))).trans (t2.block q hq)⟩
    have hgb : gg ≠ b := by
      rintro rfl
      rcases hat with hat | hat
      · exact HOB.out hat.symm
      · omega
    have hg5 := (own_grs (gs := l.grs ++ [⟨LV + 1, n⟩]) (v := (.slice (some ⟨gg, 0, none⟩) (l.grs.length + 1) cap2)) (T := 40) (B := Bs) (w := w5) (by simpa [grCells] using hown1) (by simp)).1
    have g5 : LnGrow b o (Value.slice ag l.grs.length cg).ownBlock w w5 := (LnTurn.of_below HA.out hb).grows (LnGrow.of_grown G5 hAb HOB.out)
    have hi5 : IntsAt w5 (.slice aw nw cw) l.way d1 := HIW.out.keep fun x hx => g5.block x (HIW.out.lt x hx) (fun e => hbd (e ▸ hx)) (HOG.out x hx)
    have kb : w5.heap[b]? = w.heap[b]? := (G5.block b hAb HOB.out).trans (HA.out.block b hb)
    obtain ⟨p0, p1, p3⟩ := HP.out
    have hS : LnCells (w5.setCell ⟨b, o + 2, none⟩ (.slice (some ⟨gg, 0, none⟩) (l.grs.length + 1) cap2)) b o ({ l with grs := l.grs ++ [⟨LV + 1, n⟩] } : Ln) (d1 ++ ownBs (.slice (some ⟨gg, 0, none⟩) (l.grs.length + 1) cap2) (l.grs ++ [(⟨LV + 1, n⟩ : Gr)]).length) := ⟨_, _, d1, _, (cell_set_ne (by omega)).trans ((cell_keep kb).trans p0), (cell_set_ne (by omega)).trans ((cell_keep kb).trans p1), World.cell?_setCell_same _ _ _ c5, (cell_set_ne (by omega)).trans ((cell_keep kb).trans p3), rfl,
      hi5.keep fun x hx => Below.heap_setCell _ _ _ _ (show x ≠ b from fun e => hbd (e ▸ hx)), hg5.keep fun x hx => Below.heap_setCell _ _ _ _ (show x ≠ b by rw [show x = gg by simpa [ownBs] using hx]; exact hgb)⟩
    have hbn : b ∉ d1 ++ ownBs (.slice (some ⟨gg, 0, none⟩) (l.grs.length + 1) cap2) (l.grs ++ [(⟨LV + 1, n⟩ : Gr)]).length := fun hx => by
      rcases List.mem_append.1 hx with hx | hx
      · exact hbd hx
      · have : b = gg := by simpa [ownBs] using hx
        exact hgb this.symm
    have gS : LnGrow b o (Value.slice ag l.grs.length cg).ownBlock w (w5.setCell ⟨b, o + 2, none⟩ (.slice (some ⟨gg, 0, none⟩) (l.grs.length + 1) cap2)) := g5.turn (LnTurn.set (r := 2) w5 _ (by omega))
    have fS : ∀ x, (w5.setCell ⟨b, o + 2, none⟩ (.slice (some ⟨gg, 0, none⟩) (l.grs.length + 1) cap2)).frozen? ⟨b, x, none⟩ = false := fun x => (gS.frozen x).trans (hf x)
    have hgB : Bs ≤ gg := (hown1.lt gg rfl).1
    clear hown1 hgrow hat hi5 hg5 g5 G5 p0 p1 p3 c5 f5 hwr
    go_wp2_with fail
    generalize w5.setCell ⟨b, o + 2, none⟩ (.slice (some ⟨gg, 0, none⟩) (l.grs.length + 1) cap2) = U at *
    refine leaves_cons (f := 95) (args := #[.pointer (some ⟨b, o, none⟩)]) (by simp) (by simp [go_sem]) ?_
    refine (settle_d .returning ({ l with grs := l.grs ++ [⟨LV + 1, n⟩] } : Ln) b o _ U hS fS hbn g0 g1 hl hd).mono ?_
    rintro e u' w9 ⟨rfl, rfl, ⟨d9, hl9, hs9⟩, ht9⟩
    exact ⟨_, results_none rfl _ _ _, rfl, ⟨d9, hl9, fun x hx => by
      rcases List.mem_append.1 (hs9 x hx) with hx | hx
      · exact hlo1 x hx
      · rw [show x = gg by simpa [ownBs] using hx]; exact hgB⟩, gS.turn ht9⟩)

end Go.Proofs.YtnaaheddhgpnoaaDoor
