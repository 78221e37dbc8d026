import Derived.Test.YtnaaheddhgpnoaaDoorBndK
import Derived.Deep.RegionLaw
import Derived.Deep.RegionHeld3
import Derived.Deep.AppendLies
namespace Go.Proofs.YtnaaheddhgpnoaaDoor
open Go.ChangeShapes Go.WideShapes Go.ChangeAt Go.RowKit

set_option maxHeartbeats 16000000 in
set_option maxRecDepth 100000 in
theorem bend_c0 (C : Nat) (v : Value) (a m : Nat) (k : Bk) (w : World) :
    (bendPack C v a m k w).1 0 := by
  intro ha hm hCl Hb hs0 hs1 la ln lc q0 lc1 hrn Hgo W1 n hfew HW HG Hn hA hA' hn1 lb hnc hcm u6 u7 u8 u9 u10 u11 u12 u13 u14 u15 u16 u17 u18 u19 u20 u21 u22 u23 u24 u25 u26 u27 u28 u29 u30 u31 u32 u33 u34 u35 u36 u37 u38 u39 u40 u41 u42 u43 u44 u45 u46 u47 u48 u49 u50 u51 u52 u53 u54 u55 u56 u57 u58 u59 u60 u61 u62 u63 u64 u65 u66 u67 u68 u69 u70 u71 u72 u73 u74 u75 u76 u77 u78 u79 u80 u81 u82 u83 u84 u85 u86 u87 u88 u89 u90 u91 u92 u93 u94 u95 u96 u97 u98 u99 u100 u101 u102 u103 u104 u105 u106 u107 u108 u109 u110 u111 u112 u113 u114 u115 u116 u117 u118 u119 u120 u121 u122 u123 u124 u125 u126 u127 u128 u129 u130 u131 u132 u133 u134 u135 u136 u137 u138 u139 u140 u141 u142 u143 u144 u145 u146 u147 u148 u149 u150 u151 u152 u153 u154 u155 u156 u157 u158 u159 u160 u161 u162 u163 u164 u165 u166 u167 u168 u169 u170 u171 u172 u173 u174 u175 u176 u177 u178 u179 u180 u181 u182 u183 u184 u185 u186 u187 u188 u189 u190 u191 u192 u193 u194 u195 u196 u197 u198 u199 t a1 ht ha1 l d1 d2 D cw hw2 cg hg2 wb gb FW FG nw hw30 hw1 ng hg30 hg1 Hnw Hng hG0' Hg1 w3 a3 ha3 h3 St3 hRW3 hRG3 zW e0 e1 e2 e3 y0 y1 y2 fl fo hlo hCL J0 K1 b1 b2
  have hgo := Hgo
  clear hgo
  go_wp2_with fail
  refine (pick_any C v a3 6 _ h3 (by omega) (by omega)).mono ?_
  rintro _ w5 ⟨⟨r5, rfl, _, hr5⟩, ⟨a5, ha5, h5⟩, k5⟩
  replace hr5 := hr5 (by omega)
  have St5 := St3.chg1 k5 hCl
  clear St3 e0 e1 e2 e3 y0 y1 y2 fl fo k5 h3 hRW3 hRG3
  have e0 := St5.c0
  have e1 := St5.c1
  have e2 := St5.c2
  have e3 := St5.c3
  have fl : ∀ x, w5.frozen? ⟨lb, x, none⟩ = false := fun x => St5.free x
  go_wp2_with fail
  go_meet
  exact ⟨k.ok, k.sec, { l with gone := (r5 : Int) - 1 }, _, _, d1, d2, a5, by omega, h5.setNew hCL, hs0, hs1, by show l.way.length ≤ _; rw [Hnw.out]; omega, by show l.grs.length ≤ _; rw [Hng.out]; omega, St5.turn (r := 0) (by omega) rfl rfl rfl rfl St5.ints St5.grs St5.dd⟩

set_option maxHeartbeats 16000000 in
set_option maxRecDepth 100000 in
theorem bend_c1 (C : Nat) (v : Value) (a m : Nat) (k : Bk) (w : World) :
    (bendPack C v a m k w).1 1 := by
  intro ha hm hCl Hb hs0 hs1 la ln lc q0 lc1 hrn Hgo W1 n hfew HW HG Hn hA hA' hn1 lb hnc hcm u6 u7 u8 u9 u10 u11 u12 u13 u14 u15 u16 u17 u18 u19 u20 u21 u22 u23 u24 u25 u26 u27 u28 u29 u30 u31 u32 u33 u34 u35 u36 u37 u38 u39 u40 u41 u42 u43 u44 u45 u46 u47 u48 u49 u50 u51 u52 u53 u54 u55 u56 u57 u58 u59 u60 u61 u62 u63 u64 u65 u66 u67 u68 u69 u70 u71 u72 u73 u74 u75 u76 u77 u78 u79 u80 u81 u82 u83 u84 u85 u86 u87 u88 u89 u90 u91 u92 u93 u94 u95 u96 u97 u98 u99 u100 u101 u102 u103 u104 u105 u106 u107 u108 u109 u110 u111 u112 u113 u114 u115 u116 u117 u118 u119 u120 u121 u122 u123 u124 u125 u126 u127 u128 u129 u130 u131 u132 u133 u134 u135 u136 u137 u138 u139 u140 u141 u142 u143 u144 u145 u146 u147 u148 u149 u150 u151 u152 u153 u154 u155 u156 u157 u158 u159 u160 u161 u162 u163 u164 u165 u166 u167 u168 u169 u170 u171 u172 u173 u174 u175 u176 u177 u178 u179 u180 u181 u182 u183 u184 u185 u186 u187 u188 u189 u190 u191 u192 u193 u194 u195 u196 u197 u198 u199 t a1 ht ha1 l d1 d2 D cw hw2 cg hg2 wb gb FW FG nw hw30 hw1 ng hg30 hg1 Hnw Hng hG0' Hg1 w3 a3 ha3 h3 St3 hRW3 hRG3 zW e0 e1 e2 e3 y0 y1 y2 fl fo hlo hCL J0 K1 b1 b2
  have hgo := Hgo
  clear hgo
  obtain ⟨iW, hiW, hzW0, hzW1, hzW2⟩ := info_parts Tryd.infoInt
  have hsw : IntKind.i64.wrap (k.sec + 2) ≤ 1048576 := by rw [IntKind.wrap_i64]; omega
  have Hq : Hid (Calls Tryd.prog 54 #[.pointer (some ⟨C, 0, none⟩), .int .i64 (IntKind.i64.wrap (k.sec + 2))] w3.drew fun e w' => (∃ r : Nat, e = .returned (.int .i64 (r : Int))) ∧ (∃ a', a' ≤ a + 20 ∧ CurAt w' C v a') ∧ Chg [C] w3 w') := (pick_any C v a3 _ _ h3.drew (by omega) hsw).mono fun e w' ⟨⟨r, q1, _, _⟩, ⟨a', q4, q5⟩, q6⟩ => ⟨⟨r, q1⟩, ⟨a', by omega, q5⟩, (Chg.refl [C] w3).drew.trans q6⟩
  have hwbz : wb < w3.heap.size := by have := FW.hi; omega
  have hlbz : lb < w3.heap.size := St3.lt
  have hne1 : ¬ lb = wb := fun h => FW.ne h.symm
  have hz3 : w.heap.size + 2 ≤ w3.heap.size := by omega
  clear hsw
  go_upto_region 14 with fail
  go_region_law (first
    | (refine step_append_lies _ (by rfl) _ _ _ (by rfl) (w.heap.size + 2) 3 iW _ 1 8 Tryd.underlying35 hiW hzW0 hzW1 hzW2 rfl (by omega) (.slice (some ⟨wb, 0, none⟩) nw cw) nw (l.way.map fun x => Value.int .i64 x) (by rfl) (hRow5.alloc _)
        ⟨w5.heap.size, 0, none⟩ 1 1 [.int .i64 (IntKind.i64.wrap ((r5 : Int) - 1))] (by rfl) (by rfl) (World.news_of_block (cs := #[.int .i64 (IntKind.i64.wrap ((r5 : Int) - 1))]) (t := 3) (fr := (0, 0)) (heap_alloc_new w5 _)) (by simp [Value.oneCell'])
        (by omega) (by unfold maxLen; omega) (by omega) (by simp; omega) (w5.heap.size + 1) (by simp) ?_; intro gg cap2 w6 hown1 hgrow hat hlt; have f6 : w6.frozen? ⟨lb, t * 4 + 1, none⟩ = false := (by rw [hgrow.frozen_far _ (by simp; omega) (by simp [Value.ownBlock]; omega)]; exact hfa); have c6 : w6.cell? ⟨lb, t * 4 + 1, none⟩ = some (.slice (some ⟨wb, 0, none⟩) nw cw) := (by rw [hgrow.cell_far _ (by simp; omega) (by simp [Value.ownBlock]; omega)]; exact hca))
    | (go_simp; go_at_call 54; (with_reducible refine Hq.out.mono ?_); rintro _ w5 ⟨⟨r5, rfl⟩, ⟨a5, ha5, h5⟩, k5⟩; have St5 := St3.chg1 k5 hCl; have hz5 := k5.size; have z1 := St5.c1; have f5 := St5.free (t * 4 + 1); have hRow5 := row_ints (hRW3.chg1 k5 (by omega)) St5.ints; rw [Hnw.out] at hRow5; have hca : (w5.alloc (.cells #[.int .i64 (IntKind.i64.wrap ((r5 : Int) - 1))] 3)).cell? ⟨lb, t * 4 + 1, none⟩ = some (.slice (some ⟨wb, 0, none⟩) nw cw) := (World.cell?_of_block (a := ⟨lb, t * 4 + 1, none⟩) (Below.heap_alloc _ _ _ St5.lt)).trans z1; have hfa : (w5.alloc (.cells #[.int .i64 (IntKind.i64.wrap ((r5 : Int) - 1))] 3)).frozen? ⟨lb, t * 4 + 1, none⟩ = false := (World.frozen?_of_block (a := ⟨lb, t * 4 + 1, none⟩) (Below.heap_alloc _ _ _ St5.lt)).trans f5))
  all_goals (
    have hgr : w5.grownBy w6 (some wb) := ⟨hgrow.os, hgrow.tape, hgrow.output, Nat.le_trans (by simp) hgrow.size, fun q hq hne => (hgrow.block q (by simp; omega) hne).trans (Below.heap_alloc _ _ _ hq)⟩
    have hgg : gg ≠ lb ∧ w.heap.size + 2 ≤ gg := by
      rcases hat with hat | hat
      · obtain rfl : wb = gg := Option.some.inj hat
        exact ⟨FW.ne, FW.lo⟩
      · omega
    have hown2 := own_ints (xs := l.way ++ [IntKind.i64.wrap ((r5 : Int) - 1)]) (v := .slice (some ⟨gg, 0, none⟩) (nw + 1) cap2) (T := 3) (B := w.heap.size + 2) (w := w6) (by simpa [Hnw.out] using hown1) (by simp)
    have hi5 := hown2.1
    have hg5 : GrsAt w6 (.slice (some ⟨gb, 0, none⟩) ng cg) l.grs d2 := St5.grs.keep fun x hx => hgr.block x (St5.grs.lt x hx) fun h => FW.own (by rw [← Option.some.inj h]; exact hx)
    have hd5 : ∀ x ∈ ownBs (.slice (some ⟨gg, 0, none⟩) (nw + 1) cap2) (l.way ++ [IntKind.i64.wrap ((r5 : Int) - 1)]).length ++ d2, x ≠ lb ∧ w.heap.size + 2 ≤ x := fun x hx => by
      rcases List.mem_append.1 hx with hx | hx
      · have : x = gg := by simpa [ownBs] using hx
        subst this; exact hgg
      · exact St5.dd x (List.mem_append_right _ hx)
    have St6 := St5.after (r := 1) (u := .slice (some ⟨gg, 0, none⟩) (nw + 1) cap2) (l' := { l with way := l.way ++ [IntKind.i64.wrap ((r5 : Int) - 1)] }) hgr FW.ne FW.lo (fun j hj hn => FW.off j (by rw [← Hn.out]; exact hj) hn) (by omega) rfl rfl rfl rfl hi5 hg5 hd5
    have h6 := (h5.keep hgr.size fun x hx => hgr.block x (by have := h5.lt; omega) fun e => by have := Option.some.inj e; have := FW.lo; omega).setNew (b := lb) (o := t * 4 + 1) (u := .slice (some ⟨gg, 0, none⟩) (nw + 1) cap2) hCL
    clear hown1 hown2 hgrow hat hi5 hg5 hd5 hgr f6 c6 hca hfa
    go_wp2_with fail
    go_meet
    exact ⟨k.ok, k.sec, _, _, _, _, _, a5, by omega, h6, hs0, hs1, by show (l.way ++ [IntKind.i64.wrap ((r5 : Int) - 1)]).length ≤ _; rw [List.length_append, Hnw.out]; simp; omega, by show l.grs.length ≤ _; rw [Hng.out]; omega, St6⟩)

set_option maxHeartbeats 16000000 in
set_option maxRecDepth 100000 in
theorem bend_c2 (C : Nat) (v : Value) (a m : Nat) (k : Bk) (w : World) :
    (bendPack C v a m k w).1 2 := by
  intro ha hm hCl Hb hs0 hs1 la ln lc q0 lc1 hrn Hgo W1 n hfew HW HG Hn hA hA' hn1 lb hnc hcm u6 u7 u8 u9 u10 u11 u12 u13 u14 u15 u16 u17 u18 u19 u20 u21 u22 u23 u24 u25 u26 u27 u28 u29 u30 u31 u32 u33 u34 u35 u36 u37 u38 u39 u40 u41 u42 u43 u44 u45 u46 u47 u48 u49 u50 u51 u52 u53 u54 u55 u56 u57 u58 u59 u60 u61 u62 u63 u64 u65 u66 u67 u68 u69 u70 u71 u72 u73 u74 u75 u76 u77 u78 u79 u80 u81 u82 u83 u84 u85 u86 u87 u88 u89 u90 u91 u92 u93 u94 u95 u96 u97 u98 u99 u100 u101 u102 u103 u104 u105 u106 u107 u108 u109 u110 u111 u112 u113 u114 u115 u116 u117 u118 u119 u120 u121 u122 u123 u124 u125 u126 u127 u128 u129 u130 u131 u132 u133 u134 u135 u136 u137 u138 u139 u140 u141 u142 u143 u144 u145 u146 u147 u148 u149 u150 u151 u152 u153 u154 u155 u156 u157 u158 u159 u160 u161 u162 u163 u164 u165 u166 u167 u168 u169 u170 u171 u172 u173 u174 u175 u176 u177 u178 u179 u180 u181 u182 u183 u184 u185 u186 u187 u188 u189 u190 u191 u192 u193 u194 u195 u196 u197 u198 u199 t a1 ht ha1 l d1 d2 D cw hw2 cg hg2 wb gb FW FG nw hw30 hw1 ng hg30 hg1 Hnw Hng hG0' Hg1 w3 a3 ha3 h3 St3 hRW3 hRG3 zW e0 e1 e2 e3 y0 y1 y2 fl fo hlo hCL J0 K1 b1 b2
  have hgo := Hgo
  clear hgo
  by_cases hN0 : 0 < nw
  · have hN0' : (0 : Int) < (nw : Int) := by omega
    have hN1 : (1 : Int) ≤ (nw : Int) := by omega
    by_cases hcw : cw = 1
    · subst hcw
      obtain rfl : nw = 1 := by omega
      obtain ⟨d', hi', hs'⟩ := St3.ints.drop (m := 1) (by rw [Hnw.out]; omega) 0 (by rw [Hnw.out]; omega)
      go_wp2_with fail
      go_meet
      exact ⟨k.ok, k.sec, { l with way := l.way.drop 1 }, _, _, d', d2, a3, by omega, h3.setNew hCL, hs0, hs1, by show (l.way.drop 1).length ≤ _; rw [List.length_drop, Hnw.out]; omega, by show l.grs.length ≤ _; rw [Hng.out]; omega, St3.turn (r := 1) (l' := { l with way := l.way.drop 1 }) (by omega) rfl rfl rfl rfl hi' St3.grs (fun x hx => St3.dd x (by rcases List.mem_append.1 hx with hx | hx; exact List.mem_append_left _ (hs' x hx); exact List.mem_append_right _ hx))⟩
    · obtain ⟨d', hi', hs'⟩ := St3.ints.drop (m := 1) (by rw [Hnw.out]; omega) 1 (fun _ => rfl)
      go_wp2_with fail
      go_meet
      exact ⟨k.ok, k.sec, { l with way := l.way.drop 1 }, _, _, d', d2, a3, by omega, h3.setNew hCL, hs0, hs1, by show (l.way.drop 1).length ≤ _; rw [List.length_drop, Hnw.out]; omega, by show l.grs.length ≤ _; rw [Hng.out]; omega, St3.turn (r := 1) (l' := { l with way := l.way.drop 1 }) (by omega) rfl rfl rfl rfl hi' St3.grs (fun x hx => St3.dd x (by rcases List.mem_append.1 hx with hx | hx; exact List.mem_append_left _ (hs' x hx); exact List.mem_append_right _ hx))⟩
  · have hN0' : ¬ (0 : Int) < (nw : Int) := by omega
    go_wp2_with fail
    go_meet
    exact ⟨k.ok, k.sec, l, _, _, d1, d2, a3, by omega, h3, hs0, hs1, by rw [Hnw.out]; omega, by rw [Hng.out]; omega, St3⟩

set_option maxHeartbeats 16000000 in
set_option maxRecDepth 100000 in
theorem bend_c3 (C : Nat) (v : Value) (a m : Nat) (k : Bk) (w : World) :
    (bendPack C v a m k w).1 3 := by
  intro ha hm hCl Hb hs0 hs1 la ln lc q0 lc1 hrn Hgo W1 n hfew HW HG Hn hA hA' hn1 lb hnc hcm u6 u7 u8 u9 u10 u11 u12 u13 u14 u15 u16 u17 u18 u19 u20 u21 u22 u23 u24 u25 u26 u27 u28 u29 u30 u31 u32 u33 u34 u35 u36 u37 u38 u39 u40 u41 u42 u43 u44 u45 u46 u47 u48 u49 u50 u51 u52 u53 u54 u55 u56 u57 u58 u59 u60 u61 u62 u63 u64 u65 u66 u67 u68 u69 u70 u71 u72 u73 u74 u75 u76 u77 u78 u79 u80 u81 u82 u83 u84 u85 u86 u87 u88 u89 u90 u91 u92 u93 u94 u95 u96 u97 u98 u99 u100 u101 u102 u103 u104 u105 u106 u107 u108 u109 u110 u111 u112 u113 u114 u115 u116 u117 u118 u119 u120 u121 u122 u123 u124 u125 u126 u127 u128 u129 u130 u131 u132 u133 u134 u135 u136 u137 u138 u139 u140 u141 u142 u143 u144 u145 u146 u147 u148 u149 u150 u151 u152 u153 u154 u155 u156 u157 u158 u159 u160 u161 u162 u163 u164 u165 u166 u167 u168 u169 u170 u171 u172 u173 u174 u175 u176 u177 u178 u179 u180 u181 u182 u183 u184 u185 u186 u187 u188 u189 u190 u191 u192 u193 u194 u195 u196 u197 u198 u199 t a1 ht ha1 l d1 d2 D cw hw2 cg hg2 wb gb FW FG nw hw30 hw1 ng hg30 hg1 Hnw Hng hG0' Hg1 w3 a3 ha3 h3 St3 hRW3 hRG3 zW e0 e1 e2 e3 y0 y1 y2 fl fo hlo hCL J0 K1 b1 b2
  have hgo := Hgo
  clear hgo
  go_wp2_with fail
  go_meet
  exact ⟨k.ok, k.sec, { l with grs := [] }, _, _, d1, [], a3, by omega, h3.setNew hCL, hs0, hs1, by show l.way.length ≤ _; rw [Hnw.out]; omega, by simp, St3.turn (r := 2) (l' := { l with grs := [] }) (by omega) rfl rfl rfl rfl St3.ints (grsAt_nil _) (by simpa using fun x hx => St3.dd x (List.mem_append_left _ hx))⟩

set_option maxHeartbeats 16000000 in
set_option maxRecDepth 100000 in
theorem bend_c4 (C : Nat) (v : Value) (a m : Nat) (k : Bk) (w : World) :
    (bendPack C v a m k w).1 4 := by
  intro ha hm hCl Hb hs0 hs1 la ln lc q0 lc1 hrn Hgo W1 n hfew HW HG Hn hA hA' hn1 lb hnc hcm u6 u7 u8 u9 u10 u11 u12 u13 u14 u15 u16 u17 u18 u19 u20 u21 u22 u23 u24 u25 u26 u27 u28 u29 u30 u31 u32 u33 u34 u35 u36 u37 u38 u39 u40 u41 u42 u43 u44 u45 u46 u47 u48 u49 u50 u51 u52 u53 u54 u55 u56 u57 u58 u59 u60 u61 u62 u63 u64 u65 u66 u67 u68 u69 u70 u71 u72 u73 u74 u75 u76 u77 u78 u79 u80 u81 u82 u83 u84 u85 u86 u87 u88 u89 u90 u91 u92 u93 u94 u95 u96 u97 u98 u99 u100 u101 u102 u103 u104 u105 u106 u107 u108 u109 u110 u111 u112 u113 u114 u115 u116 u117 u118 u119 u120 u121 u122 u123 u124 u125 u126 u127 u128 u129 u130 u131 u132 u133 u134 u135 u136 u137 u138 u139 u140 u141 u142 u143 u144 u145 u146 u147 u148 u149 u150 u151 u152 u153 u154 u155 u156 u157 u158 u159 u160 u161 u162 u163 u164 u165 u166 u167 u168 u169 u170 u171 u172 u173 u174 u175 u176 u177 u178 u179 u180 u181 u182 u183 u184 u185 u186 u187 u188 u189 u190 u191 u192 u193 u194 u195 u196 u197 u198 u199 t a1 ht ha1 l d1 d2 D cw hw2 cg hg2 wb gb FW FG nw hw30 hw1 ng hg30 hg1 Hnw Hng hG0' Hg1 w3 a3 ha3 h3 St3 hRW3 hRG3 zW e0 e1 e2 e3 y0 y1 y2 fl fo hlo hCL J0 K1 b1 b2
  have hgo := Hgo
  clear hgo
  have Hp1 : Hid (Calls Tryd.prog 54 #[.pointer (some ⟨C, 0, none⟩), .int .i64 (ng : Int)] w3.drew fun e w' => (∃ r : Nat, e = .returned (.int .i64 (r : Int)) ∧ r < ng) ∧ (∃ a', a' ≤ a + 20 ∧ CurAt w' C v a') ∧ Chg [C] w3 w') := (pick_any C v a3 _ _ h3.drew (by omega) (by omega)).mono fun e w' ⟨⟨r, q1, q2, q3⟩, ⟨a', q4, q5⟩, q6⟩ => ⟨⟨r, q1, pick_lt q2 q3 Hg1.out⟩, ⟨a', by omega, q5⟩, (Chg.refl [C] w3).drew.trans q6⟩
  have Hp2 : Hid (∀ W a', a' ≤ a + 20 → CurAt W C v a' → Chg [C] w3 W → Calls Tryd.prog 54 #[.pointer (some ⟨C, 0, none⟩), .int .i64 9] W fun e w' => (∃ r : Nat, e = .returned (.int .i64 (r : Int))) ∧ (∃ a', a' ≤ a + 30 ∧ CurAt w' C v a') ∧ Chg [C] w3 w') := fun W a' h1 h2 h3 => (pick_any C v a' 9 _ h2 (by omega) (by omega)).mono fun e w' ⟨⟨r, q1, _, _⟩, ⟨a', q4, q5⟩, q6⟩ => ⟨⟨r, q1⟩, ⟨a', by omega, q5⟩, h3.trans q6⟩
  have hCg : C < gb := by have := FG.lo; omega
  go_upto_region 21 with fail
  have hS : Hid (∀ W, Chg [C] w3 W → W.cell? ⟨lb, t * 4 + 2, none⟩ = some (.slice (some ⟨gb, 0, none⟩) ng cg)) := fun W hW => (St3.chg1 hW hCl).c2
  have d3 : Chg [C] w3 w3.drew := (Chg.refl [C] w3).drew
  have hgl : lb ≠ gb := fun e => FG.ne e.symm
  clear e0 e1 e2 e3 y0 y1 y2 fl fo
  go_region_held3 (fun W => W.cell? ⟨lb, t * 4 + 2, none⟩ = some (.slice (some ⟨gb, 0, none⟩) ng cg)) (first | exact hSs _ _ | exact hS.out _ k6 | exact hS.out _ k5 | exact hS.out _ d3)
    (first
    | (go_at_call 54; refine (Hp2.out w5 a5 ha5 h5 k5).mono ?_; rintro _ w6 ⟨⟨r6, rfl⟩, ⟨a6, ha6, h6⟩, k6⟩; have St6 := St3.chg1 k6 hCl; obtain ⟨cx', cy', hcx', hcy'⟩ := St6.grs.cells (q := r5) (by rw [Hng.out]; exact hr5); have fg := (hRG3.chg1 k6 (by omega)).free; have hSs : ∀ o u, (w6.setCell ⟨gb, o, none⟩ u).cell? ⟨lb, t * 4 + 2, none⟩ = some (.slice (some ⟨gb, 0, none⟩) ng cg) := fun o u => (cell_keep (Below.heap_setCell _ _ _ _ hgl)).trans (hS.out _ k6))
    | (go_at_call 54; refine Hp1.out.mono ?_; rintro _ w5 ⟨⟨r5, rfl, hr5⟩, ⟨a5, ha5, h5⟩, k5⟩; obtain ⟨cx, cy, hcx, hcy⟩ := (St3.chg1 k5 hCl).grs.cells (q := r5) (by rw [Hng.out]; exact hr5); have hr5' : (r5 : Int) < (ng : Int) := Int.ofNat_lt.2 hr5))
  all_goals (
    go_wp2_with fail
    go_meet
    exact ⟨k.ok, k.sec, _, _, _, d1, d2, a6, by omega, h6.setNew hCg, hs0, hs1, by show l.way.length ≤ _; rw [Hnw.out]; omega, by show (setGr _ _ _ _).length ≤ _; rw [setGr_len, Hng.out]; omega, St6.leash (q := r5) (s := 1) FG.ne FG.lo (fun j hj hn => FG.off j (by rw [← Hn.out]; exact hj) hn) FG.own (by rw [Hng.out]; exact hr5) (by omega) _⟩)

set_option maxHeartbeats 16000000 in
set_option maxRecDepth 100000 in
theorem bend_c6 (C : Nat) (v : Value) (a m : Nat) (k : Bk) (w : World) :
    (bendPack C v a m k w).1 6 := by
  intro ha hm hCl Hb hs0 hs1 la ln lc q0 lc1 hrn Hgo W1 n hfew HW HG Hn hA hA' hn1 lb hnc hcm u6 u7 u8 u9 u10 u11 u12 u13 u14 u15 u16 u17 u18 u19 u20 u21 u22 u23 u24 u25 u26 u27 u28 u29 u30 u31 u32 u33 u34 u35 u36 u37 u38 u39 u40 u41 u42 u43 u44 u45 u46 u47 u48 u49 u50 u51 u52 u53 u54 u55 u56 u57 u58 u59 u60 u61 u62 u63 u64 u65 u66 u67 u68 u69 u70 u71 u72 u73 u74 u75 u76 u77 u78 u79 u80 u81 u82 u83 u84 u85 u86 u87 u88 u89 u90 u91 u92 u93 u94 u95 u96 u97 u98 u99 u100 u101 u102 u103 u104 u105 u106 u107 u108 u109 u110 u111 u112 u113 u114 u115 u116 u117 u118 u119 u120 u121 u122 u123 u124 u125 u126 u127 u128 u129 u130 u131 u132 u133 u134 u135 u136 u137 u138 u139 u140 u141 u142 u143 u144 u145 u146 u147 u148 u149 u150 u151 u152 u153 u154 u155 u156 u157 u158 u159 u160 u161 u162 u163 u164 u165 u166 u167 u168 u169 u170 u171 u172 u173 u174 u175 u176 u177 u178 u179 u180 u181 u182 u183 u184 u185 u186 u187 u188 u189 u190 u191 u192 u193 u194 u195 u196 u197 u198 u199 t a1 ht ha1 l d1 d2 D cw hw2 cg hg2 wb gb FW FG nw hw30 hw1 ng hg30 hg1 Hnw Hng hG0' Hg1 w3 a3 ha3 h3 St3 hRW3 hRG3 zW e0 e1 e2 e3 y0 y1 y2 fl fo hlo hCL J0 K1 b1 b2
  have hgo := Hgo
  clear hgo
  go_wp2_with fail
  refine (pick_any C v a3 9 _ h3 (by omega) (by omega)).mono ?_
  rintro _ w5 ⟨⟨r5, rfl, _, hr5⟩, ⟨a5, ha5, h5⟩, k5⟩
  replace hr5 := hr5 (by omega)
  have St5 := St3.chg1 k5 hCl
  clear St3 e0 e1 e2 e3 y0 y1 y2 fl fo k5 h3 hRW3 hRG3
  have e0 := St5.c0
  have e1 := St5.c1
  have e2 := St5.c2
  have e3 := St5.c3
  have fl : ∀ x, w5.frozen? ⟨lb, x, none⟩ = false := fun x => St5.free x
  go_wp2_with fail
  go_meet
  exact ⟨k.ok, k.sec, { l with drop := (r5 : Int) - 2 }, _, _, d1, d2, a5, by omega, h5.setNew hCL, hs0, hs1, by show l.way.length ≤ _; rw [Hnw.out]; omega, by show l.grs.length ≤ _; rw [Hng.out]; omega, St5.turn (r := 3) (by omega) rfl rfl rfl rfl St5.ints St5.grs St5.dd⟩

set_option maxHeartbeats 16000000 in
set_option maxRecDepth 100000 in
theorem bend_c7 (C : Nat) (v : Value) (a m : Nat) (k : Bk) (w : World) :
    (bendPack C v a m k w).1 7 := by
  intro ha hm hCl Hb hs0 hs1 la ln lc q0 lc1 hrn Hgo W1 n hfew HW HG Hn hA hA' hn1 lb hnc hcm u6 u7 u8 u9 u10 u11 u12 u13 u14 u15 u16 u17 u18 u19 u20 u21 u22 u23 u24 u25 u26 u27 u28 u29 u30 u31 u32 u33 u34 u35 u36 u37 u38 u39 u40 u41 u42 u43 u44 u45 u46 u47 u48 u49 u50 u51 u52 u53 u54 u55 u56 u57 u58 u59 u60 u61 u62 u63 u64 u65 u66 u67 u68 u69 u70 u71 u72 u73 u74 u75 u76 u77 u78 u79 u80 u81 u82 u83 u84 u85 u86 u87 u88 u89 u90 u91 u92 u93 u94 u95 u96 u97 u98 u99 u100 u101 u102 u103 u104 u105 u106 u107 u108 u109 u110 u111 u112 u113 u114 u115 u116 u117 u118 u119 u120 u121 u122 u123 u124 u125 u126 u127 u128 u129 u130 u131 u132 u133 u134 u135 u136 u137 u138 u139 u140 u141 u142 u143 u144 u145 u146 u147 u148 u149 u150 u151 u152 u153 u154 u155 u156 u157 u158 u159 u160 u161 u162 u163 u164 u165 u166 u167 u168 u169 u170 u171 u172 u173 u174 u175 u176 u177 u178 u179 u180 u181 u182 u183 u184 u185 u186 u187 u188 u189 u190 u191 u192 u193 u194 u195 u196 u197 u198 u199 t a1 ht ha1 l d1 d2 D cw hw2 cg hg2 wb gb FW FG nw hw30 hw1 ng hg30 hg1 Hnw Hng hG0' Hg1 w3 a3 ha3 h3 St3 hRW3 hRG3 zW e0 e1 e2 e3 y0 y1 y2 fl fo hlo hCL J0 K1 b1 b2
  have hgo := Hgo
  clear hgo
  have S5 : BlkIs (w3.alloc (.cells #[.int .i64 0, .int .i64 1, .int .i64 200, .int .i64 201] 3)) w3.heap.size [.int .i64 0, .int .i64 1, .int .i64 200, .int .i64 201] 3 := BlkIs.new _ _ _
  have St4 := St3.alloc #[.int .i64 0, .int .i64 1, .int .i64 200, .int .i64 201] 3
  have h4 := h3.alloc #[.int .i64 0, .int .i64 1, .int .i64 200, .int .i64 201] 3
  have hzC : w3.heap.size ≠ C := by have := h3.lt; omega
  have hzO : w.heap.size ≠ w3.heap.size := by have := St3.out.lt; omega
  clear St3 h3 e0 e1 e2 e3 fl hRW3 hRG3
  go_wp2_with fail
  generalize (w3.alloc (.cells #[.int .i64 0, .int .i64 1, .int .i64 200, .int .i64 201] 3)) = W3 at *
  refine (pick_any C v a3 4 _ h4 (by omega) (by omega)).mono ?_
  rintro _ w5 ⟨⟨r5, rfl, _, hr5⟩, ⟨a5, ha5, h5⟩, k5⟩
  replace hr5 : r5 < 4 := by have := hr5 (by omega); omega
  have St5 := St4.chg1 k5 hCl
  have S6 := S5.chg1 k5 hzC
  obtain ⟨nn, hnn, hn0, hn1'⟩ : ∃ nn : Int, w5.cell? ⟨w3.heap.size, r5, none⟩ = some (.int .i64 nn) ∧ 0 ≤ nn ∧ nn ≤ 1000 := by
    rw [S6.cell r5]
    match r5, hr5 with
    | 0, _ => exact ⟨_, rfl, by omega, by omega⟩
    | 1, _ => exact ⟨_, rfl, by omega, by omega⟩
    | 2, _ => exact ⟨_, rfl, by omega, by omega⟩
    | 3, _ => exact ⟨_, rfl, by omega, by omega⟩
  clear St4 h4 S5 S6 k5 y0 y1 y2 fo
  obtain ⟨y0, y1, y2⟩ := St5.out.three
  rw [Hn.out] at y2
  have fo : ∀ x, w5.frozen? ⟨w.heap.size, x, none⟩ = false := fun x => St5.out.frozen x
  have hr5' : (r5 : Int) < 4 := by omega
  go_wp2_with fail
  go_meet
  exact ⟨k.ok, nn, l, _, _, d1, d2, a5, by omega, h5.setNew hCl, hn0, hn1', by rw [Hnw.out]; omega, by rw [Hng.out]; omega, St5.box k.ok nn rfl⟩

set_option maxHeartbeats 16000000 in
set_option maxRecDepth 100000 in
theorem bend_c9 (C : Nat) (v : Value) (a m : Nat) (k : Bk) (w : World) :
    (bendPack C v a m k w).1 9 := by
  intro ha hm hCl Hb hs0 hs1 la ln lc q0 lc1 hrn Hgo W1 n hfew HW HG Hn hA hA' hn1 lb hnc hcm u6 u7 u8 u9 u10 u11 u12 u13 u14 u15 u16 u17 u18 u19 u20 u21 u22 u23 u24 u25 u26 u27 u28 u29 u30 u31 u32 u33 u34 u35 u36 u37 u38 u39 u40 u41 u42 u43 u44 u45 u46 u47 u48 u49 u50 u51 u52 u53 u54 u55 u56 u57 u58 u59 u60 u61 u62 u63 u64 u65 u66 u67 u68 u69 u70 u71 u72 u73 u74 u75 u76 u77 u78 u79 u80 u81 u82 u83 u84 u85 u86 u87 u88 u89 u90 u91 u92 u93 u94 u95 u96 u97 u98 u99 u100 u101 u102 u103 u104 u105 u106 u107 u108 u109 u110 u111 u112 u113 u114 u115 u116 u117 u118 u119 u120 u121 u122 u123 u124 u125 u126 u127 u128 u129 u130 u131 u132 u133 u134 u135 u136 u137 u138 u139 u140 u141 u142 u143 u144 u145 u146 u147 u148 u149 u150 u151 u152 u153 u154 u155 u156 u157 u158 u159 u160 u161 u162 u163 u164 u165 u166 u167 u168 u169 u170 u171 u172 u173 u174 u175 u176 u177 u178 u179 u180 u181 u182 u183 u184 u185 u186 u187 u188 u189 u190 u191 u192 u193 u194 u195 u196 u197 u198 u199 t a1 ht ha1 l d1 d2 D cw hw2 cg hg2 wb gb FW FG nw hw30 hw1 ng hg30 hg1 Hnw Hng hG0' Hg1 w3 a3 ha3 h3 St3 hRW3 hRG3 zW e0 e1 e2 e3 y0 y1 y2 fl fo hlo hCL J0 K1 b1 b2
  have hgo := Hgo
  clear hgo
  go_wp2_with fail
  go_meet
  exact ⟨false, k.sec, l, _, _, d1, d2, a3, by omega, h3.setNew hCl, hs0, hs1, by rw [Hnw.out]; omega, by rw [Hng.out]; omega, St3.box false k.sec rfl⟩

set_option maxHeartbeats 16000000 in
set_option maxRecDepth 100000 in
theorem bend_c10 (C : Nat) (v : Value) (a m : Nat) (k : Bk) (w : World) :
    (bendPack C v a m k w).1 10 := by
  intro ha hm hCl Hb hs0 hs1 la ln lc q0 lc1 hrn Hgo W1 n hfew HW HG Hn hA hA' hn1 lb hnc hcm u6 u7 u8 u9 u10 u11 u12 u13 u14 u15 u16 u17 u18 u19 u20 u21 u22 u23 u24 u25 u26 u27 u28 u29 u30 u31 u32 u33 u34 u35 u36 u37 u38 u39 u40 u41 u42 u43 u44 u45 u46 u47 u48 u49 u50 u51 u52 u53 u54 u55 u56 u57 u58 u59 u60 u61 u62 u63 u64 u65 u66 u67 u68 u69 u70 u71 u72 u73 u74 u75 u76 u77 u78 u79 u80 u81 u82 u83 u84 u85 u86 u87 u88 u89 u90 u91 u92 u93 u94 u95 u96 u97 u98 u99 u100 u101 u102 u103 u104 u105 u106 u107 u108 u109 u110 u111 u112 u113 u114 u115 u116 u117 u118 u119 u120 u121 u122 u123 u124 u125 u126 u127 u128 u129 u130 u131 u132 u133 u134 u135 u136 u137 u138 u139 u140 u141 u142 u143 u144 u145 u146 u147 u148 u149 u150 u151 u152 u153 u154 u155 u156 u157 u158 u159 u160 u161 u162 u163 u164 u165 u166 u167 u168 u169 u170 u171 u172 u173 u174 u175 u176 u177 u178 u179 u180 u181 u182 u183 u184 u185 u186 u187 u188 u189 u190 u191 u192 u193 u194 u195 u196 u197 u198 u199 t a1 ht ha1 l d1 d2 D cw hw2 cg hg2 wb gb FW FG nw hw30 hw1 ng hg30 hg1 Hnw Hng hG0' Hg1 w3 a3 ha3 h3 St3 hRW3 hRG3 zW e0 e1 e2 e3 y0 y1 y2 fl fo hlo hCL J0 K1 b1 b2
  have hgo := Hgo
  clear hgo
  go_wp2_with fail
  refine (pick_any C v a3 3 _ h3 (by omega) (by omega)).mono ?_
  rintro _ w5 ⟨⟨r5, rfl, _, hr5⟩, ⟨a5, ha5, h5⟩, k5⟩
  replace hr5 := hr5 (by omega)
  have St5 := St3.chg1 k5 hCl
  clear St3 e0 e1 e2 e3 y0 y1 y2 fl fo k5 h3 hRW3 hRG3
  have e0 := St5.c0
  have fl : ∀ x, w5.frozen? ⟨lb, x, none⟩ = false := fun x => St5.free x
  have St6 := St5.turn (r := 0) (u := .int .i64 (1000000 - (r5 : Int))) (l' := { l with gone := 1000000 - (r5 : Int) }) (by omega) rfl rfl rfl rfl St5.ints St5.grs St5.dd
  have h6 := h5.setNew (b := lb) (o := t * 4) (u := .int .i64 (1000000 - (r5 : Int))) hCL
  go_upto_region 10 with fail
  replace St6 : BdSt C w (w5.setCell ⟨lb, t * 4, none⟩ (.int .i64 (1000000 - (r5 : Int)))) lb lc1 t k { l with gone := 1000000 - (r5 : Int) } (.slice (some ⟨wb, 0, none⟩) nw cw) (.slice (some ⟨gb, 0, none⟩) ng cg) d1 d2 D := St6
  clear St5 h5 e0 fl
  generalize (w5.setCell ⟨lb, t * 4, none⟩ (.int .i64 (1000000 - (r5 : Int)))) = W6 at *
  have e0 := St6.c0
  have e1 := St6.c1
  have e2 := St6.c2
  have fl : ∀ x, W6.frozen? ⟨lb, x, none⟩ = false := fun x => St6.free x
  have Hq : Hid (Calls Tryd.prog 54 #[.pointer (some ⟨C, 0, none⟩), .int .i64 2] W6.drew fun e w' => (∃ r : Nat, e = .returned (.int .i64 (r : Int))) ∧ (∃ a', a' ≤ a + 20 ∧ CurAt w' C v a') ∧ Chg [C] W6 w') := (pick_any C v a5 2 _ h6.drew (by omega) (by omega)).mono fun e w' ⟨⟨r, q1, _, _⟩, ⟨a', q4, q5⟩, q6⟩ => ⟨⟨r, q1⟩, ⟨a', by omega, q5⟩, (Chg.refl [C] W6).drew.trans q6⟩
  have hS : Hid (∀ W, Chg [C] W6 W → W.cell? ⟨lb, t * 4, none⟩ = some (.int .i64 (1000000 - (r5 : Int))) ∧ W.cell? ⟨lb, t * 4 + 1, none⟩ = some (.slice (some ⟨wb, 0, none⟩) nw cw)) := fun W hW => ⟨(St6.chg1 hW hCl).c0, (St6.chg1 hW hCl).c1⟩
  have d6 : Chg [C] W6 W6.drew := (Chg.refl [C] W6).drew
  clear e0 e1 e2 fl
  go_region_held3 (fun W => W.cell? ⟨lb, t * 4, none⟩ = some (.int .i64 (1000000 - (r5 : Int))) ∧ W.cell? ⟨lb, t * 4 + 1, none⟩ = some (.slice (some ⟨wb, 0, none⟩) nw cw)) (first | exact hSs _ _ | exact hS.out _ (k7.alloc _ _) | exact hS.out _ k7 | exact hS.out _ d6)
    (first
    | (go_at_call 54; refine Hq.out.mono ?_; rintro _ w7 ⟨⟨r7, rfl⟩, ⟨a7, ha7, h7⟩, k7⟩; have St7 := St6.chg1 k7 hCl; have z2 := St7.c2; have fl7 : ∀ x, w7.frozen? ⟨lb, x, none⟩ = false := fun x => St7.free x; have hl7 := St7.lt; have hSs : ∀ X u, ((w7.setCell ⟨lb, t * 4 + 2, none⟩ u).alloc X).cell? ⟨lb, t * 4, none⟩ = some (.int .i64 (1000000 - (r5 : Int))) ∧ ((w7.setCell ⟨lb, t * 4 + 2, none⟩ u).alloc X).cell? ⟨lb, t * 4 + 1, none⟩ = some (.slice (some ⟨wb, 0, none⟩) nw cw) := fun X u => (by rw [← World.setCell_alloc_past _ _ _ _ hl7]; exact ⟨(cell_set_ne (by omega)).trans ((cell_keep (Below.heap_alloc _ _ _ hl7)).trans St7.c0), (cell_set_ne (by omega)).trans ((cell_keep (Below.heap_alloc _ _ _ hl7)).trans St7.c1)⟩)))
  all_goals (
    go_wp2_with fail
    go_meet
    rw [← World.setCell_alloc_past _ _ _ _ hl7]
    exact ⟨k.ok, k.sec, { l with gone := 1000000 - (r5 : Int), grs := [⟨_, _⟩] }, _, _, d1, [w7.heap.size], a7, by omega, (h7.alloc _ _).setNew hCL, hs0, hs1, by show l.way.length ≤ _; rw [Hnw.out]; omega, by simp, (St7.alloc _ _).turn (r := 2) (l' := { l with gone := 1000000 - (r5 : Int), grs := [⟨_, _⟩] }) (by omega) rfl rfl rfl rfl (St7.alloc _ _).ints (GrsAt.new1 w7 _ _ _) (fun x hx => by rcases List.mem_append.1 hx with hx | hx; exact St7.dd x (List.mem_append_left _ hx); obtain rfl : x = w7.heap.size := (by simpa using hx); omega)⟩)

end Go.Proofs.YtnaaheddhgpnoaaDoor
