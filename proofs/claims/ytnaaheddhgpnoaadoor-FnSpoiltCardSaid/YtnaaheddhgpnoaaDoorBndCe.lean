import Derived.Test.YtnaaheddhgpnoaaDoorBndK
import Derived.Deep.RegionLaw
import Derived.Deep.RegionHeld3
import Derived.Deep.AppendLies
namespace Go.Proofs.YtnaaheddhgpnoaaDoor
open Go.ChangeShapes Go.WideShapes Go.ChangeAt Go.RowKit

set_option maxHeartbeats 16000000 in
set_option maxRecDepth 100000 in
theorem bend_c5 (C : Nat) (v : Value) (a m : Nat) (k : Bk) (w : World) :
    (bendPack C v a m k w).1 5 := by
  intro ha hm hCl Hb hs0 hs1 la ln lc q0 lc1 hrn Hgo W1 n hfew HW HG Hn hA hA' hn1 lb hnc hcm u6 u7 u8 u9 u10 u11 u12 u13 u14 u15 u16 u17 u18 u19 u20 u21 u22 u23 u24 u25 u26 u27 u28 u29 u30 u31 u32 u33 u34 u35 u36 u37 u38 u39 u40 u41 u42 u43 u44 u45 u46 u47 u48 u49 u50 u51 u52 u53 u54 u55 u56 u57 u58 u59 u60 u61 u62 u63 u64 u65 u66 u67 u68 u69 u70 u71 u72 u73 u74 u75 u76 u77 u78 u79 u80 u81 u82 u83 u84 u85 u86 u87 u88 u89 u90 u91 u92 u93 u94 u95 u96 u97 u98 u99 u100 u101 u102 u103 u104 u105 u106 u107 u108 u109 u110 u111 u112 u113 u114 u115 u116 u117 u118 u119 u120 u121 u122 u123 u124 u125 u126 u127 u128 u129 u130 u131 u132 u133 u134 u135 u136 u137 u138 u139 u140 u141 u142 u143 u144 u145 u146 u147 u148 u149 u150 u151 u152 u153 u154 u155 u156 u157 u158 u159 u160 u161 u162 u163 u164 u165 u166 u167 u168 u169 u170 u171 u172 u173 u174 u175 u176 u177 u178 u179 u180 u181 u182 u183 u184 u185 u186 u187 u188 u189 u190 u191 u192 u193 u194 u195 u196 u197 u198 u199 t a1 ht ha1 l d1 d2 D cw hw2 cg hg2 wb gb FW FG nw hw30 hw1 ng hg30 hg1 Hnw Hng hG0' Hg1 w3 a3 ha3 h3 St3 hRW3 hRG3 zW e0 e1 e2 e3 y0 y1 y2 fl fo hlo hCL J0 K1 b1 b2
  have hgo := Hgo
  clear hgo
  have Hp1 : Hid (Calls Tryd.prog 54 #[.pointer (some ⟨C, 0, none⟩), .int .i64 (ng : Int)] w3.drew fun e w' => (∃ r : Nat, e = .returned (.int .i64 (r : Int)) ∧ r < ng) ∧ (∃ a', a' ≤ a + 20 ∧ CurAt w' C v a') ∧ Chg [C] w3 w') := (pick_any C v a3 _ _ h3.drew (by omega) (by omega)).mono fun e w' ⟨⟨r, q1, q2, q3⟩, ⟨a', q4, q5⟩, q6⟩ => ⟨⟨r, q1, pick_lt q2 q3 Hg1.out⟩, ⟨a', by omega, q5⟩, (Chg.refl [C] w3).drew.trans q6⟩
  have Hp2 : Hid (∀ W a', a' ≤ a + 20 → CurAt W C v a' → Chg [C] w3 W → Calls Tryd.prog 54 #[.pointer (some ⟨C, 0, none⟩), .int .i64 3] W fun e w' => (∃ r : Nat, e = .returned (.int .i64 (r : Int))) ∧ (∃ a', a' ≤ a + 30 ∧ CurAt w' C v a') ∧ Chg [C] w3 w') := fun W a' h1 h2 h3 => (pick_any C v a' 3 _ h2 (by omega) (by omega)).mono fun e w' ⟨⟨r, q1, _, _⟩, ⟨a', q4, q5⟩, q6⟩ => ⟨⟨r, q1⟩, ⟨a', by omega, q5⟩, h3.trans q6⟩
  have hCg : C < gb := by have := FG.lo; omega
  have HC : Hid (∀ W, Chg [C] w3 W → W.cell? ⟨lb, t * 4 + 2, none⟩ = some (.slice (some ⟨gb, 0, none⟩) ng cg) ∧ (∀ x, W.frozen? ⟨gb, x, none⟩ = false) ∧ ∀ q, q < ng → ∃ x : Int, W.cell? ⟨gb, q * 2, none⟩ = some (.int .i64 x)) := fun W hW => ⟨(St3.chg1 hW hCl).c2, (hRG3.chg1 hW (by omega)).free, fun q hq => by obtain ⟨x, _, hx, _⟩ := (St3.chg1 hW hCl).grs.cells (q := q) (by rw [Hng.out]; exact hq); exact ⟨x, hx⟩⟩
  have Hfin : Hid (∀ (w6 : World) (r5 a6 : Nat) (z : Int), r5 < ng → a6 ≤ a + 30 → CurAt w6 C v a6 → Chg [C] w3 w6 → (fun W => ∃ (bo : Bool) (se : Int) (l' : Ln) (vw' vg' : Value) (d1' d2' : List Nat) (a' : Nat), a' ≤ a + 90 ∧ CurAt W C v a' ∧ 0 ≤ se ∧ se ≤ 1000 ∧ l'.way.length ≤ m + 30 ∧ l'.grs.length ≤ m + 30 ∧ BdSt C w W lb lc1 t { k with ok := bo, sec := se } l' vw' vg' d1' d2' D) (w6.setCell ⟨gb, r5 * 2, none⟩ (.int .i64 z))) := fun w6 r5 a6 z hr5 ha6 h6 k6 => ⟨k.ok, k.sec, _, _, _, d1, d2, a6, by omega, h6.setNew hCg, hs0, hs1, by show l.way.length ≤ _; rw [Hnw.out]; omega, by show (setGr _ _ _ _).length ≤ _; rw [setGr_len, Hng.out]; omega, (St3.chg1 k6 hCl).leash (q := r5) (s := 0) FG.ne FG.lo (fun j hj hn => FG.off j (by rw [← Hn.out]; exact hj) hn) FG.own (by rw [Hng.out]; exact hr5) (by omega) _⟩
  go_upto_region 23 with fail
  go_region_with (first
    | (go_at_call 54; (with_reducible refine (Hp2.out w5 a5 ha5 h5 k5).mono ?_); rintro _ w6 ⟨⟨r6, rfl⟩, ⟨a6, ha6, h6⟩, k6⟩; obtain ⟨z2', fg, hc6⟩ := HC.out w6 k6; obtain ⟨cx', hcx'⟩ := hc6 r5 hr5)
    | (go_at_call 54; (with_reducible refine Hp1.out.mono ?_); rintro _ w5 ⟨⟨r5, rfl, hr5⟩, ⟨a5, ha5, h5⟩, k5⟩; obtain ⟨z2, _, hc5⟩ := HC.out w5 k5; obtain ⟨cx, hcx⟩ := hc5 r5 hr5; have hr5' : (r5 : Int) < (ng : Int) := Int.ofNat_lt.2 hr5))
  all_goals (
    go_wp2_with fail
    go_meet
    exact Hfin.out w6 r5 a6 _ hr5 ha6 h6 k6)

end Go.Proofs.YtnaaheddhgpnoaaDoor
