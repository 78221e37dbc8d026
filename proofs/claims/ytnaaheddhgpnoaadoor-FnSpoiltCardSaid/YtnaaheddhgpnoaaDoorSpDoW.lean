import Derived.Test.YtnaaheddhgpnoaaDoorSpDo
import Derived.Deep.RegionHeld3
import Derived.Deep.RegionLaw
import Derived.Deep.AppendLies
namespace Go.Proofs.YtnaaheddhgpnoaaDoor
open Go.ChangeShapes Go.WideShapes Go.ChangeAt Go.RowKit

/-- What Do hands back. -/
def RetDo (w : World) (k : Bk) (e : Ev) (r : Ending) (w' : World) : Prop := ∃ c k' vr bs, r = .returned vr ∧ DnAt w' vr c k' bs ∧ DoIs k e c k' ∧ Below w.heap.size w w' ∧ ∀ x ∈ bs, w.heap.size ≤ x

/-- The copy, as the state in which an event is done. -/
theorem CpInv.toDo {w W2 : World} {B cap O lb t : Nat} {k : Bk} {e : Ev} {va : Value} {VW VG : Nat → Value} {DW DG : Nat → List Nat} (h : CpInv W2 B 38 3 40 (.slice (some ⟨lb, 0, none⟩) k.lns.length cap) k.lns.length (lnOf k.lns) VW VG DW DG)
    (hB : w.heap.size + 3 ≤ B) (hn : k.lns.length ≤ cap) (hcm : cap ≤ maxLen) (ht : t < k.lns.length) (hkd : KindAt W2 lb 38) (hlb : B ≤ lb)
    (hc : ∀ j, j < k.lns.length → W2.cell? ⟨lb, j * 4, none⟩ = some (.int .i64 (lnOf k.lns j).gone) ∧ W2.cell? ⟨lb, j * 4 + 1, none⟩ = some (VW j) ∧ W2.cell? ⟨lb, j * 4 + 2, none⟩ = some (VG j) ∧ W2.cell? ⟨lb, j * 4 + 3, none⟩ = some (.int .i64 (lnOf k.lns j).drop))
    (below : Below w.heap.size w W2) (bk : BlkIs W2 w.heap.size [.bool k.ok, .int .i64 k.sec, va] 32) (ev : BlkIs W2 (w.heap.size + 1) [.int .i64 e.op, .int .i64 e.train, .int .i64 e.n] 46) (res : BlkIs W2 (w.heap.size + 2) [.int .i64 0, .bool false, .int .i64 0, .slice none 0 0] 34)
    (out : BlkIs W2 O [.bool k.ok, .int .i64 k.sec, .slice (some ⟨lb, 0, none⟩) k.lns.length cap] 32) (hO : w.heap.size + 3 ≤ O) : DoSt w W2 O lb cap t k e va (lnOf k.lns t) (VW t) (VG t) (DW t) (DG t) (fun j => DW j ++ DG j) where
  below := below
  bk := bk
  ev := ev
  res := res
  out := out
  lo := by omega
  loO := hO
  ne := fun e => by subst e; obtain ⟨c, hc⟩ := hkd; have := hc.symm.trans out; simp at this
  free := fun x => hkd.free x
  cap0 := hn
  cap1 := hcm
  tn := ht
  others := fun j hj _ => ⟨_, _, DW j, DG j, (hc j hj).1, (hc j hj).2.1, (hc j hj).2.2.1, (hc j hj).2.2.2, rfl, (h.ints j hj).1, (h.grs j hj).1⟩
  far := fun j hj _ x hx => by
    rcases List.mem_append.1 hx with hx | hx
    · have := (h.kind j hj).1 x hx; exact ⟨this.1.ne hkd (by decide), by omega⟩
    · have := (h.kind j hj).2 x hx; exact ⟨this.1.ne hkd (by decide), by omega⟩
  c0 := (hc t ht).1
  c1 := (hc t ht).2.1
  c2 := (hc t ht).2.2.1
  c3 := (hc t ht).2.2.2
  ints := (h.ints t ht).1
  grs := (h.grs t ht).1
  dd := fun x hx => by
    rcases List.mem_append.1 hx with hx | hx
    · have := (h.kind t ht).1 x hx; exact ⟨this.1.ne hkd (by decide), by omega⟩
    · have := (h.kind t ht).2 x hx; exact ⟨this.1.ne hkd (by decide), by omega⟩

set_option maxHeartbeats 1000000 in
set_option maxRecDepth 100000 in
theorem specDo_no (k : Bk) (e : Ev) (v : Value) (bs : List Nat) (w : World) (h : BkAt w v k bs) (hno : ¬ EvOk k e) :
    Calls Tryd.prog 26 #[v, .agg #[.int .i64 e.op, .int .i64 e.train, .int .i64 e.n]] w fun r w' => RetDo w k e r w' := by
  have hK := h
  obtain ⟨vl, rfl, hLs⟩ := h
  obtain ⟨a, n, ca, rfl⟩ := hLs.slice
  clear hLs
  have HN : Hid (¬ EvOk k e) := hno
  clear hno
  have b3 := below3 w
  have hE := fun W h => specEventOk_any k e (.agg #[.bool k.ok, .int .i64 k.sec, .slice a n ca]) bs W h
  have HE : Hid (∀ W, BkAt W (.agg #[.bool k.ok, .int .i64 k.sec, .slice a n ca]) k bs → Calls Tryd.prog 59 #[.agg #[.bool k.ok, .int .i64 k.sec, .slice a n ca], .agg #[.int .i64 e.op, .int .i64 e.train, .int .i64 e.n]] W fun r w' => RetB r (EvOk k e) ∧ Below W.heap.size W w') := hE
  clear hE
  have rB : BlkIs (((w.alloc (.cells #[.bool k.ok, .int .i64 k.sec, .slice a n ca] 32)).alloc (.cells #[.int .i64 e.op, .int .i64 e.train, .int .i64 e.n] 46)).alloc (.cells #[.int .i64 0, .bool false, .int .i64 0, .slice none 0 0] 34)) (w.heap.size + 1 + 1) [.int .i64 0, .bool false, .int .i64 0, .slice none 0 0] 34 := BlkIs.new3 w _ _ _ _
  go_enter Tryd.func26, Tryd.ntmps26
  go_wp2_with fail
  refine (HE.out _ (hK.below (b3 _ _ _) hK.lt)).mono ?_
  rintro r w1 ⟨⟨b, rfl, hb⟩, hb1⟩
  have hbf : b = false := by
    cases b with
    | false => rfl
    | true => exact absurd (hb.1 rfl) HN.out
  subst hbf
  have T1 := (b3 _ _ _).trans (hb1.mono (by simp; omega))
  have r1 := rB.below hb1 rB.lt
  obtain ⟨x0, x1, x2, x3⟩ := r1.four
  have f1 : ∀ o, w1.frozen? ⟨w.heap.size + 1 + 1, o, none⟩ = false := fun o => r1.frozen o
  clear b3 hb hb1 rB
  go_wp2
  exact bodyPost_ret (v := .agg #[.int .i64 1, .bool false, .int .i64 0, .slice none 0 0]) (by simp [results, Tryd.results26, go_sem, x0, x1, x2, x3]) rfl ⟨1, bk0, _, [], rfl, ⟨_, rfl, lnsAt_nil _⟩, Or.inl ⟨HN.out, rfl, rfl⟩, (((T1.setCell (by simp <;> omega) _).setCell (by simp <;> omega) _).setCell (by simp <;> omega) _).setCell (by simp <;> omega) _, by simp⟩

/-- The rest of a slice. -/
theorem GrsAt.drop {w : World} {b o n cap m : Nat} {gs : List Gr} {bs : List Nat} (h : GrsAt w (.slice (some ⟨b, o, none⟩) n cap) gs bs) (hm : m < gs.length) : GrsAt w (.slice (some ⟨b, o + m * 2, none⟩) (n - m) (cap - m)) (gs.drop m) bs := by
  obtain ⟨a', c', hv, h1, h2, h⟩ := h
  simp only [Value.slice.injEq] at hv
  obtain ⟨rfl, rfl, rfl⟩ := hv
  have hl : (gs.drop m).length = gs.length - m := by simp
  rcases h with ⟨h0, _⟩ | ⟨b', o', he, rfl, hb, hc⟩
  · omega
  · simp only [Option.some.injEq, Addr.mk.injEq, and_true] at he
    obtain ⟨rfl, rfl⟩ := he
    refine ⟨_, cap - m, by rw [hl], by rw [hl]; omega, by omega, Or.inr ⟨b, o + m * 2, rfl, rfl, hb, fun i hi => ?_⟩⟩
    rw [hl] at hi
    have := hc (m + i) (by omega)
    rw [show o + m * 2 + i * 2 = o + (m + i) * 2 by omega]
    simpa [List.getElem?_drop] using this
theorem IntsAt.drop {w : World} {b o n cap m : Nat} {gs : List Int} {bs : List Nat} (h : IntsAt w (.slice (some ⟨b, o, none⟩) n cap) gs bs) (hm : m ≤ gs.length) (o' : Nat) (ho : m < gs.length → o' = o + m) : ∃ bs', IntsAt w (.slice (some ⟨b, o', none⟩) (n - m) (cap - m)) (gs.drop m) bs' ∧ ∀ x ∈ bs', x ∈ bs := by
  obtain ⟨a', c', hv, h1, h2, h⟩ := h
  simp only [Value.slice.injEq] at hv
  obtain ⟨rfl, rfl, rfl⟩ := hv
  have hl : (gs.drop m).length = gs.length - m := by simp
  by_cases e : m = gs.length
  · exact ⟨[], ⟨_, cap - m, by rw [hl], by rw [hl]; omega, by omega, Or.inl ⟨by rw [hl]; omega, rfl⟩⟩, fun b hb => by simp at hb⟩
  rcases h with ⟨h0, _⟩ | ⟨b', o1, he, rfl, hb, hc⟩
  · omega
  · simp only [Option.some.injEq, Addr.mk.injEq, and_true] at he
    obtain ⟨rfl, rfl⟩ := he
    obtain rfl := ho (by omega)
    refine ⟨_, ⟨_, cap - m, by rw [hl], by rw [hl]; omega, by omega, Or.inr ⟨b, o + m, rfl, rfl, hb, fun i hi => ?_⟩⟩, fun x hx => hx⟩
    rw [hl] at hi
    have := hc (m + i) (by omega)
    rw [show o + m + i = o + (m + i) by omega]
    simpa [List.getElem?_drop] using this
theorem RoomAt.nonnil {W : World} {n c sz B : Nat} {a : Option Addr} {ty : TypeId} (h : RoomAt W (.slice a n c) sz ty B) : ∃ b, a = some ⟨b, 0, none⟩ := by
  obtain ⟨b, n', c', cur, hv, _⟩ := h
  simp only [Value.slice.injEq] at hv
  exact ⟨b, hv.1⟩

theorem mostTo_le (gs : List Gr) (T : Int) (hT : 0 ≤ T) (h : ∀ i, i < gs.length → (gs[i]?.getD gr0).cel ≤ T) : ∀ i, i ≤ gs.length → mostTo gs i ≤ T
  | 0, _ => by unfold mostTo; omega
  | i + 1, hi => by
    have := mostTo_le gs T hT h i (by omega)
    have := h i (by omega)
    unfold mostTo
    omega
theorem most_tot {sec : Int} {l : Ln} (hw : WayOk sec l) (h : GrsOk l) : mostOf l.grs ≤ totD l := mostTo_le l.grs _ (by have := hw.head.lo; unfold totD; omega) (fun i hi => (h.each i hi).c1) _ (Nat.le_refl _)
theorem DoSt.drew {w W : World} {O lb cap t : Nat} {k : Bk} {e : Ev} {va : Value} {l : Ln} {vw vg : Value} {d1 d2 : List Nat} {D : Nat → List Nat} (h : DoSt w W O lb cap t k e va l vw vg d1 d2 D) : DoSt w W.drew O lb cap t k e va l vw vg d1 d2 D where
  below := ⟨h.below.os, h.below.tape, h.below.output, h.below.size, h.below.block⟩
  bk := h.bk
  ev := h.ev
  res := h.res
  out := h.out
  lo := h.lo
  loO := h.loO
  ne := h.ne
  free := h.free
  cap0 := h.cap0
  cap1 := h.cap1
  tn := h.tn
  others := fun j hj hn => (h.others j hj hn).keep rfl fun _ _ => rfl
  far := h.far
  c0 := h.c0
  c1 := h.c1
  c2 := h.c2
  c3 := h.c3
  ints := h.ints.keep fun _ _ => rfl
  grs := h.grs.keep fun _ _ => rfl
  dd := h.dd

theorem IntsAt.own {w : World} {v : Value} {xs : List Int} {bs : List Nat} (h : IntsAt w v xs bs) : ∀ x ∈ bs, v.ownBlock = some x := by
  obtain ⟨a, c, rfl, _, _, h⟩ := h
  rcases h with ⟨_, rfl⟩ | ⟨b, o, rfl, rfl, _⟩
  · simp
  · intro x hx
    obtain rfl := List.mem_singleton.1 hx
    rfl
theorem GrsAt.own {w : World} {v : Value} {xs : List Gr} {bs : List Nat} (h : GrsAt w v xs bs) : ∀ x ∈ bs, v.ownBlock = some x := by
  obtain ⟨a, c, rfl, _, _, h⟩ := h
  rcases h with ⟨_, rfl⟩ | ⟨b, o, rfl, rfl, _⟩
  · simp
  · intro x hx
    obtain rfl := List.mem_singleton.1 hx
    rfl

/-- A row of a copied line is nobody else's. -/
structure FarRow (W : World) (B lb n t b : Nat) (D : Nat → List Nat) (d : List Nat) : Prop where
  lo : B ≤ b
  hi : b < W.heap.size
  ne : b ≠ lb
  off : ∀ j, j < n → j ≠ t → b ∉ D j
  own : b ∉ d
theorem CpInv.farW {W : World} {B T TW TG n lb t b : Nat} {vl : Value} {L : Nat → Ln} {VW VG : Nat → Value} {DW DG : Nat → List Nat} (h : CpInv W B T TW TG vl n L VW VG DW DG) (hTW : T ≠ TW) (hWG : TW ≠ TG) (hkd : KindAt W lb T) (ht : t < n) (hb : (VW t).ownBlock = some b) : FarRow W B lb n t b (fun j => DW j ++ DG j) (DG t) := by
  obtain ⟨b', hb', hk', hB⟩ := (h.ints t ht).2.own
  rw [hb] at hb'
  obtain rfl := Option.some.inj hb'
  have hG : ∀ j, j < n → b ∉ DG j := fun j hj hx => hk'.ne ((h.kind j hj).2 b hx).1 hWG rfl
  refine ⟨hB, hk'.lt, hk'.ne hkd hTW.symm, fun j hj hne hx => ?_, hG t ht⟩
  rcases List.mem_append.1 hx with hx | hx
  · exact (h.apart t j ht hj hne.symm).1 (hb.trans ((h.ints j hj).1.own b hx).symm)
  · exact hG j hj hx
theorem CpInv.farG {W : World} {B T TW TG n lb t b : Nat} {vl : Value} {L : Nat → Ln} {VW VG : Nat → Value} {DW DG : Nat → List Nat} (h : CpInv W B T TW TG vl n L VW VG DW DG) (hTG : T ≠ TG) (hWG : TW ≠ TG) (hkd : KindAt W lb T) (ht : t < n) (hb : (VG t).ownBlock = some b) : FarRow W B lb n t b (fun j => DW j ++ DG j) (DW t) := by
  obtain ⟨b', hb', hk', hB⟩ := (h.grs t ht).2.own
  rw [hb] at hb'
  obtain rfl := Option.some.inj hb'
  have hW : ∀ j, j < n → b ∉ DW j := fun j hj hx => hk'.ne ((h.kind j hj).1 b hx).1 hWG.symm rfl
  refine ⟨hB, hk'.lt, hk'.ne hkd hTG.symm, fun j hj hne hx => ?_, hW t ht⟩
  rcases List.mem_append.1 hx with hx | hx
  · exact hW j hj hx
  · exact (h.apart t j ht hj hne.symm).2 (hb.trans ((h.grs j hj).1.own b hx).symm)

/-- A row of the line has grown, and the line holds it. -/
theorem DoSt.after {w W W' : World} {O lb cap t r g : Nat} {k : Bk} {e : Ev} {va : Value} {l l' : Ln} {vw vg vw' vg' u : Value} {d1 d2 d1' d2' : List Nat} {D : Nat → List Nat} (h : DoSt w W O lb cap t k e va l vw vg d1 d2 D) (hgr : W.grownBy W' (some g)) (g1 : g ≠ lb) (g2 : g ≠ O) (g3 : w.heap.size + 3 ≤ g) (g4 : ∀ j, j < k.lns.length → j ≠ t → g ∉ D j) (hr : r < 4)
    (e0 : (if r = 0 then u else .int .i64 l.gone) = .int .i64 l'.gone) (e1 : (if r = 1 then u else vw) = vw') (e2 : (if r = 2 then u else vg) = vg') (e3 : (if r = 3 then u else .int .i64 l.drop) = .int .i64 l'.drop)
    (hi : IntsAt W' vw' l'.way d1') (hg : GrsAt W' vg' l'.grs d2') (hdd : ∀ x ∈ d1' ++ d2', x ≠ lb ∧ w.heap.size + 3 ≤ x) :
    DoSt w (W'.setCell ⟨lb, t * 4 + r, none⟩ u) O lb cap t k e va l' vw' vg' d1' d2' D := by
  have hlo := h.lo
  have hloO := h.loO
  have hlb : W'.heap[lb]? = W.heap[lb]? := hgr.block lb h.lt fun e => g1 (Option.some.inj e).symm
  have kc : ∀ {o y}, W.cell? ⟨lb, o, none⟩ = some y → W'.cell? ⟨lb, o, none⟩ = some y := fun hy => (World.cell?_of_block (a := ⟨lb, _, none⟩) hlb).trans hy
  have cell : ∀ q y, q < 4 → W.cell? ⟨lb, t * 4 + q, none⟩ = some y → (W'.setCell ⟨lb, t * 4 + r, none⟩ u).cell? ⟨lb, t * 4 + q, none⟩ = some (if r = q then u else y) := fun q y hq hy => by
    by_cases e : r = q
    · subst e; rw [if_pos rfl]; exact World.cell?_setCell_same _ _ _ (kc hy)
    · rw [if_neg e, cell_set_ne (by omega)]; exact kc hy
  have ob : ∀ {b c ty}, BlkIs W b c ty → b ≠ g → b ≠ lb → BlkIs (W'.setCell ⟨lb, t * 4 + r, none⟩ u) b c ty := fun hb hne hnl => (hb.keep (hgr.block _ hb.lt fun e => hne (Option.some.inj e))).other hnl _ _
  exact {
    below := (h.below.trans (grew_below hgr (by omega) h.below.size)).setCell (by show w.heap.size ≤ lb; omega) _
    bk := ob h.bk (by omega) (by omega)
    ev := ob h.ev (by omega) (by omega)
    res := ob h.res (by omega) (by omega)
    out := ob h.out g2.symm h.ne
    lo := h.lo
    loO := h.loO
    ne := h.ne
    free := fun x => by rw [World.frozen?_setCell]; exact (World.frozen?_of_block (a := ⟨lb, x, none⟩) hlb).trans (h.free x)
    cap0 := h.cap0
    cap1 := h.cap1
    tn := h.tn
    others := fun j hj hn => ((h.others j hj hn).keep hlb fun x hx => hgr.block x ((h.others j hj hn).lt x hx) fun e => g4 j hj hn (by rw [← Option.some.inj e]; exact hx)).keep4 (cell_set_ne (by omega)) (cell_set_ne (by omega)) (cell_set_ne (by omega)) (cell_set_ne (by omega)) fun x hx => Below.heap_setCell _ _ _ _ (h.far j hj hn x hx).1
    far := h.far
    c0 := by rw [← e0]; exact cell 0 _ (by omega) h.c0
    c1 := by rw [← e1]; exact cell 1 _ (by omega) h.c1
    c2 := by rw [← e2]; exact cell 2 _ (by omega) h.c2
    c3 := by rw [← e3]; exact cell 3 _ (by omega) h.c3
    ints := hi.keep fun x hx => Below.heap_setCell _ _ _ _ (hdd x (List.mem_append_left _ hx)).1
    grs := hg.keep fun x hx => Below.heap_setCell _ _ _ _ (hdd x (List.mem_append_right _ hx)).1
    dd := hdd }
theorem owner_owned {k : Bk} {s r : Int} (h : OwnerIs k s r) (hr : Right k) : 0 ≤ r ↔ ownedB k.lns s = true := by
  rw [owned_iff]
  rcases h with ⟨h, _⟩ | ⟨_, i, c, h1, h2, h3, rfl⟩ | ⟨_, h1, rfl⟩
  · exact absurd hr h
  · exact ⟨fun _ => ⟨i, c, h1, h2, h3⟩, fun _ => by omega⟩
  · refine ⟨fun h => by omega, fun h => ?_⟩
    obtain ⟨i, c, h2, h3, h4⟩ := h
    exact absurd h4 (h1 i c h2 h3)

end Go.Proofs.YtnaaheddhgpnoaaDoor
