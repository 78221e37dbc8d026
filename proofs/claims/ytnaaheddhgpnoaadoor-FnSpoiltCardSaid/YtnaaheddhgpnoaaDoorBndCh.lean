import Derived.OrdersHeld
import Derived.Deep.RegionHeld
import Derived.Test.YtnaaheddhgpnoaaDoorBndK
import Derived.Deep.RegionLaw
import Derived.Deep.RegionHeld3
import Derived.Deep.AppendLies
/-
  A REGION THAT DRAWS ITS ORDER AND ENDS IN A STORE INTO A CELL THAT IT HAS READ ('x.f = append(x.f, ..)'): its loads may be taken first, though the condition S that gives them falls behind the store: for the store, operation z, waits for every other one. As 'wpAnyH' (Derived.OrdersHeld), but behind z nothing is asked.
-/
namespace Go.Proofs.YtnaaheddhgpnoaaDoor
section
variable {P : Program} {ops : Array Oper} {Q : Exit → Act → World → Prop} {md : Region.Mode} {S : World → Prop} {z : Nat}

def wpAnyZ (P : Program) (md : Region.Mode) (ops : Array Oper) (Q : Exit → Act → World → Prop) (S : World → Prop) (z : Nat) : Nat → Array Bool → Act → World → Prop
  | 0, listed, a, w => Region.ready md ops listed = [] ∧ Q .normal a w
  | fuel + 1, listed, a, w =>
    (Region.ready md ops listed = [] → Q .normal a w) ∧
    ∀ i ∈ Region.ready md ops listed, wpOp P ops Q i (fun b x => (i ≠ z → S x) ∧ wpAnyZ P md ops Q S z fuel (listed.setIfInBounds i true) b x) a w

theorem wpAny_of_Z : ∀ (fuel : Nat) (listed : Array Bool) (a : Act) (w : World), wpAnyZ P md ops Q S z fuel listed a w → wpAny P md ops Q fuel listed a w
  | 0, _, _, _, h => h
  | fuel + 1, _, _, _, h => ⟨h.1, fun i hi => wpOp_mono (fun b x hx => wpAny_of_Z fuel _ b x hx.2) (h.2 i hi)⟩

theorem wpAnyZ_first {i : Nat} {oi : Oper} {v : Value} (hi : ops[i]? = some oi) (hsel : ∀ (j : Nat) (o : Oper) cs b, ops[j]? = some o → o.op ≠ .select cs b)
    (hQ : ∀ c a w, Q (.panic c) (a.put oi.dst v) w → Q (.panic c) a w) (hz : ∀ oz, ops[z]? = some oz → ∃ e ∈ oz.after, Region.binds md e = true ∧ e.on = i) (fuel : Nat) :
    ∀ (listed : Array Bool) (a : Act) (w : World),
      (∀ j oj, ops[j]? = some oj → j ≠ i → listed.getD j true = false → (∀ e ∈ oj.after, Region.binds md e = true → e.on ≠ i) → oi.apart ops oj = true) →
      i ∈ Region.ready md ops listed → YieldsIf P ops S oi v a → S w →
      wpAnyZ P md ops Q S z fuel (listed.setIfInBounds i true) (a.put oi.dst v) w → wpAnyZ P md ops Q S z (fuel + 1) listed a w := by
  induction fuel with
  | zero =>
    intro listed a w _ hr hy hS H
    constructor
    · intro h0
      rw [h0] at hr
      cases hr
    · intro j hj
      by_cases hji : j = i
      · subst hji
        exact hy.wpOp hi hS ⟨fun _ => hS, H⟩
      · have hh := ready_mono hj hji
        rw [H.1] at hh
        cases hh
  | succ fuel ih =>
    intro listed a w hfree hr hy hS H
    constructor
    · intro h0
      rw [h0] at hr
      cases hr
    · intro j hj
      by_cases hji : j = i
      · subst hji
        exact hy.wpOp hi hS ⟨fun _ => hS, H⟩
      · obtain ⟨hjun, oj, hoj, hall⟩ := mem_ready.1 hj
        have hnot : ∀ e ∈ oj.after, Region.binds md e = true → e.on ≠ i := by
          intro e he hb heq
          have h1 := hall e he hb
          have h0 := (mem_ready.1 hr).1
          rw [heq] at h1
          rcases Nat.lt_or_ge i listed.size with hl | hl
          · simp [hl] at h0 h1
            rw [h0] at h1
            cases h1
          · simp [Array.getElem?_eq_none hl] at h1
        have hjz : j ≠ z := by
          rintro rfl
          obtain ⟨e, he, hb, hon⟩ := hz oj hoj
          exact hnot e he hb hon
        have h2 := wpOp_putIf hoj (hfree j oj hoj hji hjun hnot) (fun cs b => hsel i oi cs b hi) (fun cs b => hsel j oj cs b hoj) hQ hy (H.2 j (ready_mono hj hji))
        refine wpOp_mono (fun b x h3 => ?_) h2
        have hSx := h3.2.1 hjz
        refine ⟨fun _ => hSx, ih (listed.setIfInBounds j true) b x ?_ (ready_mono hr (Ne.symm hji)) h3.1 hSx ?_⟩
        · intro k ok hk hki hun hno
          refine hfree k ok hk hki ?_ hno
          by_cases hjk : j = k
          · subst hjk
            exact hjun
          · rwa [getD_set_ne true hjk] at hun
        · rw [Array.setIfInBounds_comm _ _ hji]
          exact h3.2.2

/-- Does operation z wait for number i? -/
def waitsFor (md : Region.Mode) (ops : Array Oper) (z i : Nat) : Bool := ((ops[z]?).map fun o => o.after.any fun e => Region.binds md e && e.on == i).getD false

theorem wpAnyZ_take {i : Nat} {oi : Oper} {v : Value} {fuel : Nat} {listed : Array Bool} {a : Act} {w : World} (hi : ops[i]? = some oi)
    (hs : Region.noSelect ops = true) (hf : Region.free md ops listed i = true) (hr : (Region.ready md ops listed).contains i = true) (hz : waitsFor md ops z i = true)
    (hQ : ∀ c a w, Q (.panic c) (a.put oi.dst v) w → Q (.panic c) a w) (hw : Region.wanted oi (yielded ops a.tmps) = true) (hy : ∀ x, S x → (execOp a.eval oi).run P x = .ok (.value v) x) (hS : S w)
    (h : wpAnyZ P md ops Q S z fuel (listed.setIfInBounds i true) (a.put oi.dst v) w) : wpAnyZ P md ops Q S z (fuel + 1) listed a w := by
  refine wpAnyZ_first hi (Region.noSelect_spec hs) hQ ?_ fuel listed a w (Region.free_spec hi hf) (by simpa using hr) (.inl ⟨hw, hy⟩) hS h
  intro oz hoz
  unfold waitsFor at hz
  rw [hoz] at hz
  simp only [Option.map_some, Option.getD_some, Array.any_eq_true', Bool.and_eq_true, beq_iff_eq] at hz
  obtain ⟨e, he, hb, hon⟩ := hz
  exact ⟨e, he, hb, hon⟩

/-- One alone may come up. -/
theorem wpAnyZ_one {i : Nat} {o : Oper} {fuel : Nat} {listed : Array Bool} {a : Act} {w : World} (hr : Region.ready md ops listed = [i]) (ho : ops[i]? = some o)
    (h : ∀ K' : Act → World → Prop, Shut (∀ b x, (i ≠ z → S x) → wpAnyZ P md ops Q S z fuel (listed.setIfInBounds i true) b x → K' b x) → if Region.wanted o (yielded ops a.tmps) = true then Oper.wp P o a w K' Q else K' (a.put o.dst undef) w) : wpAnyZ P md ops Q S z (fuel + 1) listed a w := by
  refine ⟨fun h0 => ?_, fun j hj => ?_⟩
  · rw [hr] at h0
    cases h0
  · rw [hr] at hj
    obtain rfl : j = i := by simpa using hj
    exact wpOp_step ho (fun K' hK => h K' (fun b x hS hW => hK b x ⟨hS, hW⟩))

theorem wpAnyZ_takeL {l : List Oper} {i : Nat} {oi : Oper} {v : Value} {fuel : Nat} {listed : Array Bool} {a : Act} {w : World} (hi : l[i]? = some oi)
    (hs : Region.noSelect l.toArray = true) (hf : Region.free md l.toArray listed i = true) (hr : (Region.ready md l.toArray listed).contains i = true) (hz : waitsFor md l.toArray z i = true)
    (hQ : ∀ c a w, Q (.panic c) (a.put oi.dst v) w → Q (.panic c) a w) (hw : Region.wanted oi (yielded l.toArray a.tmps) = true) (hy : ∀ x, S x → (execOp a.eval oi).run P x = .ok (.value v) x) (hS : S w)
    (h : wpAnyZ P md l.toArray Q S z fuel (listed.setIfInBounds i true) (a.put oi.dst v) w) : wpAnyZ P md l.toArray Q S z (fuel + 1) listed a w :=
  wpAnyZ_take (by simpa using hi) hs hf hr hz hQ hw hy hS h

theorem wpAnyZ_oneL {l : List Oper} {i : Nat} {o : Oper} {fuel : Nat} {listed : Array Bool} {a : Act} {w : World} (hr : Region.ready md l.toArray listed = [i]) (ho : l[i]? = some o)
    (h : ∀ K' : Act → World → Prop, Shut (∀ b x, (i ≠ z → S x) → wpAnyZ P md l.toArray Q S z fuel (listed.setIfInBounds i true) b x → K' b x) → if Region.wanted o (yielded l.toArray a.tmps) = true then Oper.wp P o a w K' Q else K' (a.put o.dst undef) w) : wpAnyZ P md l.toArray Q S z (fuel + 1) listed a w :=
  wpAnyZ_one hr (by simpa using ho) h

theorem wpAnyZ_done {fuel : Nat} {listed : Array Bool} {a : Act} {w : World} (hr : Region.ready md ops listed = []) (h : Q .normal a w) : wpAnyZ P md ops Q S z fuel listed a w := by
  cases fuel with
  | zero => exact ⟨hr, h⟩
  | succ n => exact ⟨fun _ => h, by rw [hr]; simp⟩

theorem wp_region_Z {id : Nat} {a : Act} {w : World} (hm : P.follows .mixedOrders = true)
    (h : wpAnyZ P .any ops Q S z ops.size (Array.replicate ops.size false) a w.drew) : (Code.region id ops true).wp P Q a w :=
  wp_region_any hm (wpAny_of_Z _ _ _ _ h)
end
end Go.Proofs.YtnaaheddhgpnoaaDoor

namespace Go.Proofs.YtnaaheddhgpnoaaDoor
open Go.ChangeShapes Go.WideShapes Go.ChangeAt Go.RowKit

set_option maxHeartbeats 16000000 in
set_option maxRecDepth 100000 in
theorem bend_c8 (C : Nat) (v : Value) (a m : Nat) (k : Bk) (w : World) :
    (bendPack C v a m k w).1 8 := by
  intro ha hm hCl Hb hs0 hs1 la ln lc q0 lc1 hrn Hgo W1 n hfew HW HG Hn hA hA' hn1 lb hnc hcm u6 u7 u8 u9 u10 u11 u12 u13 u14 u15 u16 u17 u18 u19 u20 u21 u22 u23 u24 u25 u26 u27 u28 u29 u30 u31 u32 u33 u34 u35 u36 u37 u38 u39 u40 u41 u42 u43 u44 u45 u46 u47 u48 u49 u50 u51 u52 u53 u54 u55 u56 u57 u58 u59 u60 u61 u62 u63 u64 u65 u66 u67 u68 u69 u70 u71 u72 u73 u74 u75 u76 u77 u78 u79 u80 u81 u82 u83 u84 u85 u86 u87 u88 u89 u90 u91 u92 u93 u94 u95 u96 u97 u98 u99 u100 u101 u102 u103 u104 u105 u106 u107 u108 u109 u110 u111 u112 u113 u114 u115 u116 u117 u118 u119 u120 u121 u122 u123 u124 u125 u126 u127 u128 u129 u130 u131 u132 u133 u134 u135 u136 u137 u138 u139 u140 u141 u142 u143 u144 u145 u146 u147 u148 u149 u150 u151 u152 u153 u154 u155 u156 u157 u158 u159 u160 u161 u162 u163 u164 u165 u166 u167 u168 u169 u170 u171 u172 u173 u174 u175 u176 u177 u178 u179 u180 u181 u182 u183 u184 u185 u186 u187 u188 u189 u190 u191 u192 u193 u194 u195 u196 u197 u198 u199 t a1 ht ha1 l d1 d2 D cw hw2 cg hg2 wb gb FW FG nw hw30 hw1 ng hg30 hg1 Hnw Hng hG0' Hg1 w3 a3 ha3 h3 St3 hRW3 hRG3 zW e0 e1 e2 e3 y0 y1 y2 fl fo hlo hCL J0 K1 b1 b2
  have hgo := Hgo
  clear hgo
  have hFlo := FG.lo
  have hFne := FG.ne
  have HF0 : Hid ((∀ j, j < n → j ≠ t → gb ∉ D j) ∧ gb ∉ d1) := ⟨FG.off, FG.own⟩
  have Hl : Hid True := trivial
  have St0 : BdSt C w w3 lb lc1 t k { l with grs := l.grs } (.slice (some ⟨wb, 0, none⟩) nw cw) (.slice (some ⟨gb, 0, none⟩) l.grs.length cg) d1 d2 D := by rw [Hng.out]; exact St3
  have hRG0 : RoomAt w3 (.slice (some ⟨gb, 0, none⟩) l.grs.length cg) 2 40 (w.heap.size + 2) := by rw [Hng.out]; exact hRG3
  have hL0 : 1 ≤ l.grs.length ∧ l.grs.length ≤ m + 21 := by rw [Hng.out]; exact ⟨Hg1.out, by omega⟩
  clear St3 e0 e1 e2 e3 y0 y1 y2 fl fo hRG3 hRW3
  go_wp2_with fail
  go_loopw [] (fun W => ∃ (gs : List Gr) (g c : Nat) (d : List Nat) (a' : Nat), a' + 2 * (22 - gs.length) ≤ a + 60 ∧ CurAt W C v a' ∧ BdSt C w W lb lc1 t k { l with grs := gs } (.slice (some ⟨wb, 0, none⟩) nw cw) (.slice (some ⟨g, 0, none⟩) gs.length c) d1 d D ∧ RoomAt W (.slice (some ⟨g, 0, none⟩) gs.length c) 2 40 (w.heap.size + 2) ∧ g ≠ lb ∧ w.heap.size + 2 ≤ g ∧ ((∀ j, j < n → j ≠ t → g ∉ D j) ∧ g ∉ d1) ∧ 1 ≤ gs.length ∧ gs.length ≤ m + 21) (fun W => match W.cell? ⟨lb, t * 4 + 2, none⟩ with | some (.slice _ z _) => 30 - z | _ => 0)
  case atStart => exact ⟨l.grs, gb, cg, d2, a3, by omega, h3, St0, hRG0, hFne, hFlo, HF0.out, hL0⟩
  case round =>
    clear St0 hRG0 h3
    obtain ⟨gs, g, c, d, a4, ha4, h4, S4, hR4, hg1, hg2, hg3, hL1, hL2⟩ := hrel
    have Hg3 : Hid ((∀ j, j < n → j ≠ t → g ∉ D j) ∧ g ∉ d1) := hg3
    obtain ⟨_, c', hvc, hcc1, hcc2, -⟩ := id S4.grs
    simp only [Value.slice.injEq, true_and] at hvc
    obtain ⟨rfl, rfl⟩ := hvc
    unfold maxLen at hcc2
    generalize hq : gs.length = q at *
    have HQ : Hid (gs.length = q) := hq
    have e2 := S4.c2
    have Hq2 : Hid (Calls Tryd.prog 54 #[.pointer (some ⟨C, 0, none⟩), .int .i64 2] wr.drew fun e w' => (∃ r : Nat, e = .returned (.int .i64 (r : Int)) ∧ (r : Int) < 2) ∧ (∃ a', a' ≤ a4 + 2 ∧ CurAt w' C v a') ∧ Chg [C] wr w') := (pick_any C v a4 2 _ h4.drew (by omega) (by omega)).mono fun e w' ⟨⟨r, q1, _, q3⟩, q4, q6⟩ => ⟨⟨r, q1, q3 (by omega)⟩, q4, (Chg.refl [C] wr).drew.trans q6⟩
    clear hg3 hq
    go_upto_region 29 with fail
    go_cut [167] from 159 to 166 (fun s167 W => ∃ (b : Bool) (a5 : Nat), s167 = .bool b ∧ (b = true → q < 21) ∧ a5 ≤ a4 + 2 ∧ CurAt W C v a5 ∧ Chg [C] wr W)
    case first =>
      go_region_with (go_at_call 54; (with_reducible refine Hq2.out.mono ?_); rintro _ w5 ⟨⟨r5, rfl, hr5⟩, ⟨a5, ha5, h5⟩, k5⟩; have z2 := (S4.chg1 k5 hCl).c2)
      all_goals (
        go_wp2_with fail
        go_meet
        refine ⟨_, a5, rfl, fun hb => ?_, ha5, h5, k5⟩
        replace hb := of_decide_eq_true hb
        first | omega | (rw [IntKind.wrap_i64] at hb; omega) | (unfold wrap64 at hb; omega))
    case rest =>
      obtain ⟨b, a5, rfl, hb, ha5, h5, k5⟩ := hcut
      have S5 := S4.chg1 k5 hCl
      have hR5 := hR4.chg1 k5 (by omega)
      cases b with
      | false =>
        clear hb
        go_wp2_with fail
        go_meet
        exact ⟨k.ok, k.sec, { l with grs := gs }, _, _, d1, d, a5, by omega, h5, hs0, hs1, by show l.way.length ≤ _; rw [Hnw.out]; omega, by show gs.length ≤ _; rw [HQ.out]; omega, S5⟩
      | true =>
        have hq21 := hb rfl
        clear hb
        have Ho1 : Hid (a5 + 2 * (22 - (q + 1)) ≤ a + 60) := by show a5 + 2 * (22 - (q + 1)) ≤ a + 60; omega
        have Ho2 : Hid (q + 1 ≤ m + 21) := by show q + 1 ≤ m + 21; omega
        obtain ⟨iG, hiG, hzG0, hzG1, hzG2⟩ := info_parts Tryd.infoGrant
        have hRow := row_grs hR5 S5.grs
        replace hRow : wc.ownsRow (w.heap.size + 2) 40 2 (.slice (some ⟨g, 0, none⟩) q c) q (grCells gs) := by have := hRow; rwa [show ({ l with grs := gs } : Ln).grs.length = q from HQ.out] at this
        obtain ⟨ver, cel, hcv, -⟩ := S5.grs.cells (q := q - 1) (by show q - 1 < gs.length; rw [HQ.out]; omega)
        have hgz : g < wc.heap.size := World.block_lt_of_cell? _ _ hcv
        have hlbz := S5.lt
        have hne1 : ¬ lb = g := fun h => hg1 h.symm
        have c0 := S5.c0
        have c2 := S5.c2
        have hz5 : w.heap.size + 2 ≤ wc.heap.size := by omega
        have Hfc : Hid (∀ w6, (wc.alloc (.cells #[.int .i64 (IntKind.i64.wrap (ver + 1)), .int .i64 l.gone] 40)).drew.grownBy w6 (some g) → w6.frozen? ⟨lb, t * 4 + 2, none⟩ = false ∧ w6.cell? ⟨lb, t * 4 + 2, none⟩ = some (.slice (some ⟨g, 0, none⟩) q c) ∧ wc.grownBy w6 (some g)) := fun w6 hgrow => by
          have hz : lb < (wc.alloc (.cells #[.int .i64 (IntKind.i64.wrap (ver + 1)), .int .i64 l.gone] 40)).drew.heap.size := by show lb < (wc.alloc (.cells #[.int .i64 (IntKind.i64.wrap (ver + 1)), .int .i64 l.gone] 40)).heap.size; simp; omega
          refine ⟨?_, ?_, ?_⟩
          · rw [hgrow.frozen_far _ hz (by simp; omega)]
            exact (World.frozen?_of_block (a := ⟨lb, t * 4 + 2, none⟩) (Below.heap_alloc _ _ _ S5.lt)).trans (S5.free (t * 4 + 2))
          · rw [hgrow.cell_far _ hz (by simp; omega)]
            exact (World.cell?_of_block (a := ⟨lb, t * 4 + 2, none⟩) (Below.heap_alloc _ _ _ S5.lt)).trans S5.c2
          · have hz1 : wc.heap.size ≤ (wc.alloc (.cells #[.int .i64 (IntKind.i64.wrap (ver + 1)), .int .i64 l.gone] 40)).drew.heap.size := by show wc.heap.size ≤ (wc.alloc (.cells #[.int .i64 (IntKind.i64.wrap (ver + 1)), .int .i64 l.gone] 40)).heap.size; simp
            exact ⟨hgrow.os, hgrow.tape, hgrow.output, Nat.le_trans hz1 hgrow.size, fun x hx hne => (hgrow.block x (Nat.lt_of_lt_of_le hx hz1) hne).trans (Below.heap_alloc _ _ _ hx)⟩
        have h63 : q + 1 ≤ maxLen := by unfold maxLen; omega
        have hby : (q + 1) * 16 ≤ 140737488355328 := by omega
        have hbase : ∀ X, w.heap.size + 2 ≤ (wc.alloc X).drew.heap.size := fun X => by show w.heap.size + 2 ≤ (wc.alloc X).heap.size; simp; omega
        have hHH : ∀ X, (wc.alloc X).drew.heap.size = wc.heap.size + 1 := fun X => by show (wc.alloc X).heap.size = _; simp
        have hone : ∀ u ∈ [Value.int .i64 (IntKind.i64.wrap (ver + 1)), .int .i64 l.gone], u.oneCell' = true := by simp [Value.oneCell']
        have hq0 : 0 < 2 := by omega
        have hq1 : 0 < 1 := by omega
        have Hsz : Hid (w.heap.size + 2 ≤ wc.heap.size) := hz5
        have Hfin : Hid (∀ (gg cap2 : Nat) (w6 : World), w6.ownsRow (w.heap.size + 2) 40 2 (.slice (some ⟨gg, 0, none⟩) (q + 1) cap2) (q + 1) (grCells gs ++ [.int .i64 (IntKind.i64.wrap (ver + 1)), .int .i64 l.gone]) → wc.grownBy w6 (some g) → (some g = some gg ∨ gg = wc.heap.size + 1) →
            (∃ (gs : List Gr) (g c : Nat) (d : List Nat) (a' : Nat), a' + 2 * (22 - gs.length) ≤ a + 60 ∧ CurAt (w6.setCell ⟨lb, t * 4 + 2, none⟩ (.slice (some ⟨gg, 0, none⟩) (q + 1) cap2)) C v a' ∧ BdSt C w (w6.setCell ⟨lb, t * 4 + 2, none⟩ (.slice (some ⟨gg, 0, none⟩) (q + 1) cap2)) lb lc1 t k { l with grs := gs } (.slice (some ⟨wb, 0, none⟩) nw cw) (.slice (some ⟨g, 0, none⟩) gs.length c) d1 d D ∧ RoomAt (w6.setCell ⟨lb, t * 4 + 2, none⟩ (.slice (some ⟨gg, 0, none⟩) (q + 1) cap2)) (.slice (some ⟨g, 0, none⟩) gs.length c) 2 40 (w.heap.size + 2) ∧ g ≠ lb ∧ w.heap.size + 2 ≤ g ∧ ((∀ j, j < n → j ≠ t → g ∉ D j) ∧ g ∉ d1) ∧ 1 ≤ gs.length ∧ gs.length ≤ m + 21) ∧
            (match (w6.setCell ⟨lb, t * 4 + 2, none⟩ (.slice (some ⟨gg, 0, none⟩) (q + 1) cap2)).cell? ⟨lb, t * 4 + 2, none⟩ with | some (.slice _ z _) => 30 - z | _ => 0) < (match wr.cell? ⟨lb, t * 4 + 2, none⟩ with | some (.slice _ z _) => 30 - z | _ => 0)) := fun gg cap2 w6 hown1 hgr hat => by
          have hgg : gg ≠ lb ∧ w.heap.size + 2 ≤ gg ∧ ((∀ j, j < n → j ≠ t → gg ∉ D j) ∧ gg ∉ d1) := by
            rcases hat with hat | hat
            · obtain rfl : g = gg := Option.some.inj hat
              exact ⟨hg1, hg2, Hg3.out⟩
            · exact ⟨by omega, by omega, fun j hj hn hm => by have := (S5.others j (by rw [Hn.out]; exact hj) hn).lt _ hm; omega, fun hm => by have := S5.ints.lt _ hm; omega⟩
          have hlen : (gs ++ [(⟨IntKind.i64.wrap (ver + 1), l.gone⟩ : Gr)]).length = q + 1 := by rw [List.length_append, HQ.out]; rfl
          have hown2 := own_grs (gs := gs ++ [⟨IntKind.i64.wrap (ver + 1), l.gone⟩]) (v := .slice (some ⟨gg, 0, none⟩) (q + 1) cap2) (T := 40) (B := w.heap.size + 2) (w := w6) (by rw [hlen]; simpa [grCells] using hown1) (by simp)
          have hg5 := hown2.1
          have hi5 : IntsAt w6 (.slice (some ⟨wb, 0, none⟩) nw cw) l.way d1 := S5.ints.keep fun x hx => hgr.block x (S5.ints.lt x hx) fun h => Hg3.out.2 (by rw [← Option.some.inj h]; exact hx)
          have hd5 : ∀ x ∈ d1 ++ ownBs (.slice (some ⟨gg, 0, none⟩) (q + 1) cap2) (gs ++ [(⟨IntKind.i64.wrap (ver + 1), l.gone⟩ : Gr)]).length, x ≠ lb ∧ w.heap.size + 2 ≤ x := fun x hx => by
            rcases List.mem_append.1 hx with hx | hx
            · exact S5.dd x (List.mem_append_left _ hx)
            · have : x = gg := by simpa [ownBs] using hx
              subst this; exact ⟨hgg.1, hgg.2.1⟩
          have S6 := S5.after (r := 2) (u := .slice (some ⟨gg, 0, none⟩) (q + 1) cap2) (l' := { l with grs := gs ++ [⟨IntKind.i64.wrap (ver + 1), l.gone⟩] }) hgr hg1 hg2 (fun j hj hn => Hg3.out.1 j (by rw [← Hn.out]; exact hj) hn) (by omega) rfl rfl rfl rfl hi5 hg5 hd5
          have hR6 := (own_room hown1 (by simp)).setFar (o := t * 4 + 2) (u := .slice (some ⟨gg, 0, none⟩) (q + 1) cap2) hgg.1
          have h6 := (h5.keep hgr.size fun x hx => hgr.block x (by have := h5.lt; omega) fun e => by have := Option.some.inj e; omega).setNew (b := lb) (o := t * 4 + 2) (u := .slice (some ⟨gg, 0, none⟩) (q + 1) cap2) hCL
          have HM : Hid ((match (w6.setCell ⟨lb, t * 4 + 2, none⟩ (.slice (some ⟨gg, 0, none⟩) (q + 1) cap2)).cell? ⟨lb, t * 4 + 2, none⟩ with | some (.slice _ z _) => 30 - z | _ => 0) < (match wr.cell? ⟨lb, t * 4 + 2, none⟩ with | some (.slice _ z _) => 30 - z | _ => 0)) := by
            show (match (w6.setCell ⟨lb, t * 4 + 2, none⟩ (.slice (some ⟨gg, 0, none⟩) (q + 1) cap2)).cell? ⟨lb, t * 4 + 2, none⟩ with | some (.slice _ z _) => 30 - z | _ => 0) < (match wr.cell? ⟨lb, t * 4 + 2, none⟩ with | some (.slice _ z _) => 30 - z | _ => 0)
            rw [S6.c2, S4.c2]
            show 30 - (q + 1) < 30 - q
            omega
          exact ⟨⟨gs ++ [⟨IntKind.i64.wrap (ver + 1), l.gone⟩], gg, cap2, _, a5, by rw [hlen]; exact Ho1.out, h6, by rw [hlen]; exact S6, by rw [hlen]; exact hR6, hgg.1, hgg.2.1, hgg.2.2, by rw [hlen]; exact Nat.le_add_left 1 q, by rw [hlen]; exact Ho2.out⟩, HM.out⟩
        have hca : (wc.alloc (.cells #[.int .i64 (IntKind.i64.wrap (ver + 1)), .int .i64 l.gone] 40)).cell? ⟨lb, t * 4 + 2, none⟩ = some (.slice (some ⟨g, 0, none⟩) q c) := (World.cell?_of_block (a := ⟨lb, t * 4 + 2, none⟩) (Below.heap_alloc _ _ _ S5.lt)).trans S5.c2
        go_upto_region 30 with fail
        have hwe : IntKind.i64.wrap ((q : Int) - 1) = ((q - 1 : Nat) : Int) := by rw [IntKind.wrap_i64]; omega
        have hwr1 : 0 ≤ IntKind.i64.wrap ((q : Int) - 1) := by rw [hwe]; omega
        have hwr2 : IntKind.i64.wrap ((q : Int) - 1) < (q : Int) := by rw [hwe]; omega
        have hcv3 : wc.cell? ⟨g, (IntKind.i64.wrap ((q : Int) - 1)).toNat * 2, none⟩ = some (.int .i64 ver) := by rw [hwe, Int.toNat_natCast]; exact hcv
        clear hwe
        have Hq30 : Hid (29 - q < 30 - q) := by show 29 - q < 30 - q; omega
        clear hz5 hgz hlbz hcv hq21
        have HSa : Hid (∀ X, (wc.alloc X).cell? ⟨lb, t * 4, none⟩ = some (.int .i64 l.gone)) := fun X => (cell_keep (Below.heap_alloc _ _ _ S5.lt)).trans S5.c0
        have HS6 : Hid (∀ w6, wc.grownBy w6 (some g) → w6.cell? ⟨lb, t * 4, none⟩ = some (.int .i64 l.gone)) := fun w6 hgr => (cell_keep (hgr.block lb S5.lt fun e => hg1 (Option.some.inj e).symm)).trans S5.c0
        replace c0 : wc.cell? ⟨lb, t * 4, none⟩ = some (.int .i64 l.gone) := c0
        clear Hb hs0 hs1 hrn Hgo HW HG hA hA' hn1 hnc hcm ha1 hw2 FW FG hw30 hw1 hg30 Hnw Hng hG0' Hg1 ha3 zW hFlo hFne HF0 Hl hL0 h4 Hg3 hcc2 ha4 S4 hR4 hL1 hL2 hcc1 HQ Hq2 ha5 h5 k5 S5 hR5 Ho1 Ho2 Hsz ha hm hCl hfew Hn ht hlo hCL hg2
        have hS0 : wc.drew.cell? ⟨lb, t * 4, none⟩ = some (.int .i64 l.gone) ∧ wc.drew.cell? ⟨lb, t * 4 + 2, none⟩ = some (.slice (some ⟨g, 0, none⟩) q c) := ⟨c0, c2⟩
        refine wp_region_Z (S := fun W => W.cell? ⟨lb, t * 4, none⟩ = some (.int .i64 l.gone) ∧ W.cell? ⟨lb, t * 4 + 2, none⟩ = some (.slice (some ⟨g, 0, none⟩) q c)) (z := 28) (by kernel_rfl) ?_
        first | refine wpAnyZ_takeL (i := 0) (v := ?_) rfl (by kernel_rfl) (by kernel_rfl) (by kernel_rfl) (by kernel_rfl) (fun _ _ _ h => h) (by rfl) ?_ hS0 ?_
        rotate_left
        · intro x hx
          obtain ⟨x0, x2⟩ := hx
          first | (go_simp; done) | (go_simp; with_reducible rfl)
        simp only [Act.put, List.setIfInBounds_toArray, List.set_cons_zero, List.set_cons_succ]
        first | refine wpAnyZ_takeL (i := 1) (v := ?_) rfl (by kernel_rfl) (by kernel_rfl) (by kernel_rfl) (by kernel_rfl) (fun _ _ _ h => h) (by rfl) ?_ hS0 ?_
        rotate_left
        · intro x hx
          obtain ⟨x0, x2⟩ := hx
          first | (go_simp; done) | (go_simp; with_reducible rfl)
        simp only [Act.put, List.setIfInBounds_toArray, List.set_cons_zero, List.set_cons_succ]
        first | refine wpAnyZ_takeL (i := 2) (v := ?_) rfl (by kernel_rfl) (by kernel_rfl) (by kernel_rfl) (by kernel_rfl) (fun _ _ _ h => h) (by rfl) ?_ hS0 ?_
        rotate_left
        · intro x hx
          obtain ⟨x0, x2⟩ := hx
          first | (go_simp; done) | (go_simp; with_reducible rfl)
        simp only [Act.put, List.setIfInBounds_toArray, List.set_cons_zero, List.set_cons_succ]
        first | refine wpAnyZ_takeL (i := 3) (v := ?_) rfl (by kernel_rfl) (by kernel_rfl) (by kernel_rfl) (by kernel_rfl) (fun _ _ _ h => h) (by rfl) ?_ hS0 ?_
        rotate_left
        · intro x hx
          obtain ⟨x0, x2⟩ := hx
          first | (go_simp; done) | (go_simp; with_reducible rfl)
        simp only [Act.put, List.setIfInBounds_toArray, List.set_cons_zero, List.set_cons_succ]
        first | refine wpAnyZ_takeL (i := 4) (v := ?_) rfl (by kernel_rfl) (by kernel_rfl) (by kernel_rfl) (by kernel_rfl) (fun _ _ _ h => h) (by rfl) ?_ hS0 ?_
        rotate_left
        · intro x hx
          obtain ⟨x0, x2⟩ := hx
          first | (go_simp; done) | (go_simp; with_reducible rfl)
        simp only [Act.put, List.setIfInBounds_toArray, List.set_cons_zero, List.set_cons_succ]
        first | refine wpAnyZ_takeL (i := 5) (v := ?_) rfl (by kernel_rfl) (by kernel_rfl) (by kernel_rfl) (by kernel_rfl) (fun _ _ _ h => h) (by rfl) ?_ hS0 ?_
        rotate_left
        · intro x hx
          obtain ⟨x0, x2⟩ := hx
          first | (go_simp; done) | (go_simp; with_reducible rfl)
        simp only [Act.put, List.setIfInBounds_toArray, List.set_cons_zero, List.set_cons_succ]
        first | refine wpAnyZ_takeL (i := 6) (v := ?_) rfl (by kernel_rfl) (by kernel_rfl) (by kernel_rfl) (by kernel_rfl) (fun _ _ _ h => h) (by rfl) ?_ hS0 ?_
        rotate_left
        · intro x hx
          obtain ⟨x0, x2⟩ := hx
          first | (go_simp; done) | (go_simp; with_reducible rfl)
        simp only [Act.put, List.setIfInBounds_toArray, List.set_cons_zero, List.set_cons_succ]
        first | refine wpAnyZ_takeL (i := 7) (v := ?_) rfl (by kernel_rfl) (by kernel_rfl) (by kernel_rfl) (by kernel_rfl) (fun _ _ _ h => h) (by rfl) ?_ hS0 ?_
        rotate_left
        · intro x hx
          obtain ⟨x0, x2⟩ := hx
          first | (go_simp; done) | (go_simp; with_reducible rfl)
        simp only [Act.put, List.setIfInBounds_toArray, List.set_cons_zero, List.set_cons_succ]
        first | refine wpAnyZ_takeL (i := 8) (v := ?_) rfl (by kernel_rfl) (by kernel_rfl) (by kernel_rfl) (by kernel_rfl) (fun _ _ _ h => h) (by rfl) ?_ hS0 ?_
        rotate_left
        · intro x hx
          obtain ⟨x0, x2⟩ := hx
          first | (go_simp; done) | (go_simp; with_reducible rfl)
        simp only [Act.put, List.setIfInBounds_toArray, List.set_cons_zero, List.set_cons_succ]
        first | refine wpAnyZ_takeL (i := 9) (v := ?_) rfl (by kernel_rfl) (by kernel_rfl) (by kernel_rfl) (by kernel_rfl) (fun _ _ _ h => h) (by rfl) ?_ hS0 ?_
        rotate_left
        · intro x hx
          obtain ⟨x0, x2⟩ := hx
          first | (go_simp; done) | (go_simp; with_reducible rfl)
        simp only [Act.put, List.setIfInBounds_toArray, List.set_cons_zero, List.set_cons_succ]
        first | refine wpAnyZ_takeL (i := 10) (v := ?_) rfl (by kernel_rfl) (by kernel_rfl) (by kernel_rfl) (by kernel_rfl) (fun _ _ _ h => h) (by rfl) ?_ hS0 ?_
        rotate_left
        · intro x hx
          obtain ⟨x0, x2⟩ := hx
          first | (go_simp; done) | (go_simp; with_reducible rfl)
        simp only [Act.put, List.setIfInBounds_toArray, List.set_cons_zero, List.set_cons_succ]
        first | refine wpAnyZ_takeL (i := 11) (v := ?_) rfl (by kernel_rfl) (by kernel_rfl) (by kernel_rfl) (by kernel_rfl) (fun _ _ _ h => h) (by rfl) ?_ hS0 ?_
        rotate_left
        · intro x hx
          obtain ⟨x0, x2⟩ := hx
          first | (go_simp; done) | (go_simp; with_reducible rfl)
        simp only [Act.put, List.setIfInBounds_toArray, List.set_cons_zero, List.set_cons_succ]
        first | refine wpAnyZ_takeL (i := 12) (v := ?_) rfl (by kernel_rfl) (by kernel_rfl) (by kernel_rfl) (by kernel_rfl) (fun _ _ _ h => h) (by rfl) ?_ hS0 ?_
        rotate_left
        · intro x hx
          obtain ⟨x0, x2⟩ := hx
          first | (go_simp; done) | (go_simp; with_reducible rfl)
        simp only [Act.put, List.setIfInBounds_toArray, List.set_cons_zero, List.set_cons_succ]
        first | refine wpAnyZ_takeL (i := 13) (v := ?_) rfl (by kernel_rfl) (by kernel_rfl) (by kernel_rfl) (by kernel_rfl) (fun _ _ _ h => h) (by rfl) ?_ hS0 ?_
        rotate_left
        · intro x hx
          obtain ⟨x0, x2⟩ := hx
          first | (go_simp; done) | (go_simp; with_reducible rfl)
        simp only [Act.put, List.setIfInBounds_toArray, List.set_cons_zero, List.set_cons_succ]
        first | refine wpAnyZ_takeL (i := 14) (v := ?_) rfl (by kernel_rfl) (by kernel_rfl) (by kernel_rfl) (by kernel_rfl) (fun _ _ _ h => h) (by rfl) ?_ hS0 ?_
        rotate_left
        · intro x hx
          obtain ⟨x0, x2⟩ := hx
          first | (go_simp; done) | (go_simp; with_reducible rfl)
        simp only [Act.put, List.setIfInBounds_toArray, List.set_cons_zero, List.set_cons_succ]
        first | refine wpAnyZ_takeL (i := 15) (v := ?_) rfl (by kernel_rfl) (by kernel_rfl) (by kernel_rfl) (by kernel_rfl) (fun _ _ _ h => h) (by rfl) ?_ hS0 ?_
        rotate_left
        · intro x hx
          obtain ⟨x0, x2⟩ := hx
          first | (go_simp; done) | (go_simp; with_reducible rfl)
        simp only [Act.put, List.setIfInBounds_toArray, List.set_cons_zero, List.set_cons_succ]
        first | refine wpAnyZ_takeL (i := 16) (v := ?_) rfl (by kernel_rfl) (by kernel_rfl) (by kernel_rfl) (by kernel_rfl) (fun _ _ _ h => h) (by rfl) ?_ hS0 ?_
        rotate_left
        · intro x hx
          obtain ⟨x0, x2⟩ := hx
          first | (go_simp; done) | (go_simp; with_reducible rfl)
        simp only [Act.put, List.setIfInBounds_toArray, List.set_cons_zero, List.set_cons_succ]
        first | refine wpAnyZ_takeL (i := 19) (v := ?_) rfl (by kernel_rfl) (by kernel_rfl) (by kernel_rfl) (by kernel_rfl) (fun _ _ _ h => h) (by rfl) ?_ hS0 ?_
        rotate_left
        · intro x hx
          obtain ⟨x0, x2⟩ := hx
          first | (go_simp; done) | (go_simp; with_reducible rfl)
        simp only [Act.put, List.setIfInBounds_toArray, List.set_cons_zero, List.set_cons_succ]
        first | refine wpAnyZ_takeL (i := 20) (v := ?_) rfl (by kernel_rfl) (by kernel_rfl) (by kernel_rfl) (by kernel_rfl) (fun _ _ _ h => h) (by rfl) ?_ hS0 ?_
        rotate_left
        · intro x hx
          obtain ⟨x0, x2⟩ := hx
          first | (go_simp; done) | (go_simp; with_reducible rfl)
        simp only [Act.put, List.setIfInBounds_toArray, List.set_cons_zero, List.set_cons_succ]
        first | refine wpAnyZ_takeL (i := 21) (v := ?_) rfl (by kernel_rfl) (by kernel_rfl) (by kernel_rfl) (by kernel_rfl) (fun _ _ _ h => h) (by rfl) ?_ hS0 ?_
        rotate_left
        · intro x hx
          obtain ⟨x0, x2⟩ := hx
          first | (go_simp; done) | (go_simp; with_reducible rfl)
        simp only [Act.put, List.setIfInBounds_toArray, List.set_cons_zero, List.set_cons_succ]
        first | refine wpAnyZ_takeL (i := 22) (v := ?_) rfl (by kernel_rfl) (by kernel_rfl) (by kernel_rfl) (by kernel_rfl) (fun _ _ _ h => h) (by rfl) ?_ hS0 ?_
        rotate_left
        · intro x hx
          obtain ⟨x0, x2⟩ := hx
          first | (go_simp; done) | (go_simp; with_reducible rfl)
        simp only [Act.put, List.setIfInBounds_toArray, List.set_cons_zero, List.set_cons_succ]
        refine wpAnyZ_oneL (i := 17) (by kernel_rfl) rfl (fun K hK => ?_)
        go_simp
        refine hK.out _ _ (fun _ => hS0) ?_
        clear hK K
        first | refine wpAnyZ_takeL (i := 18) (v := ?_) rfl (by kernel_rfl) (by kernel_rfl) (by kernel_rfl) (by kernel_rfl) (fun _ _ _ h => h) (by rfl) ?_ hS0 ?_
        rotate_left
        · intro x hx
          obtain ⟨x0, x2⟩ := hx
          first | (go_simp; done) | (go_simp; with_reducible rfl)
        simp only [Act.put, List.setIfInBounds_toArray, List.set_cons_zero, List.set_cons_succ]
        first | refine wpAnyZ_takeL (i := 23) (v := ?_) rfl (by kernel_rfl) (by kernel_rfl) (by kernel_rfl) (by kernel_rfl) (fun _ _ _ h => h) (by rfl) ?_ hS0 ?_
        rotate_left
        · intro x hx
          obtain ⟨x0, x2⟩ := hx
          first | (go_simp; done) | (go_simp; with_reducible rfl)
        simp only [Act.put, List.setIfInBounds_toArray, List.set_cons_zero, List.set_cons_succ]
        refine wpAnyZ_oneL (i := 24) (by kernel_rfl) rfl (fun K hK => ?_)
        go_simp
        refine hK.out _ _ (fun _ => ⟨HSa.out _, hca⟩) ?_
        clear hK K
        refine wpAnyZ_oneL (i := 25) (by kernel_rfl) rfl (fun K hK => ?_)
        refine step_append_lies _ (by rfl) _ _ _ (by rfl) (w.heap.size + 2) 40 iG _ 2 16 Tryd.underlying36 hiG hzG0 hzG1 hzG2 rfl hq0 (.slice (some ⟨g, 0, none⟩) q c) q (grCells gs) (by rfl) (by first | exact hRow.alloc _ | exact (hRow.alloc _).drew)
              ⟨wc.heap.size, 0, none⟩ 1 1 [.int .i64 (IntKind.i64.wrap (ver + 1)), .int .i64 l.gone] (by rfl) (by rfl) (World.news_of_block (cs := #[.int .i64 (IntKind.i64.wrap (ver + 1)), .int .i64 l.gone]) (t := 40) (fr := (0, 0)) (heap_alloc_new wc _)) hone
              hq1 h63 hby (hbase _) (wc.heap.size + 1) (hHH _) ?_
        intro gg cap2 w6 hown1 hgrow hat hlt
        obtain ⟨f5, c5, hgr⟩ := Hfc.out _ hgrow
        have hS6 : w6.cell? ⟨lb, t * 4, none⟩ = some (.int .i64 l.gone) ∧ w6.cell? ⟨lb, t * 4 + 2, none⟩ = some (.slice (some ⟨g, 0, none⟩) q c) := ⟨HS6.out _ hgr, c5⟩
        refine hK.out _ _ (fun _ => hS6) ?_
        clear hK K
        simp only [Act.put, List.setIfInBounds_toArray, List.set_cons_zero, List.set_cons_succ]
        refine wpAnyZ_oneL (i := 26) (by kernel_rfl) rfl (fun K hK => ?_)
        go_simp
        refine hK.out _ _ (fun _ => hS6) ?_
        clear hK K
        refine wpAnyZ_oneL (i := 27) (by kernel_rfl) rfl (fun K hK => ?_)
        go_simp
        refine hK.out _ _ (fun _ => hS6) ?_
        clear hK K
        refine wpAnyZ_oneL (i := 28) (by kernel_rfl) rfl (fun K hK => ?_)
        go_simp
        refine hK.out _ _ (fun h => absurd rfl h) ?_
        clear hK K
        refine wpAnyZ_done (by kernel_rfl) ?_
        obtain ⟨hF1, hF2⟩ := Hfin.out gg cap2 w6 hown1 hgr hat
        have HF1 : Hid _ := hF1
        have HF2 : Hid _ := hF2
        clear hF1 hF2 hown1 hgrow hgr hat
        go_wp2_with fail
        go_roundw
        case rel => exact HF1.out
        case measure => first | exact Hq30.out | exact HF2.out

end Go.Proofs.YtnaaheddhgpnoaaDoor
