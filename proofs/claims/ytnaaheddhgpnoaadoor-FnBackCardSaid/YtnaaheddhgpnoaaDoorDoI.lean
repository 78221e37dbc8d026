import Derived.Test.YtnaaheddhgpnoaaDoorBeh1
import Derived.Test.YtnaaheddhgpnoaaDoorBeh2
import Derived.Test.YtnaaheddhgpnoaaDoorBeh3
namespace Go.Proofs.YtnaaheddhgpnoaaDoor
open Go.ChangeShapes Go.WideShapes Go.ChangeAt Go.RowKit

theorem behind_any (k : Bk) (e : Ev) (v : Value) (bs : List Nat) (w : World) (a0 a1 a2 : Addr) (h : BkAt w v k bs) (he : Errs w a0 a1 a2) (hyes : EvOk k e) (hop : e.op ≠ 4) (h4 : (doLn k e).1 ≠ 4) :
    Calls Tryd.prog 38 #[v, .agg #[.int .i64 e.op, .int .i64 e.train, .int .i64 e.n]] w fun r w' => RetBeh w k e a0 a1 a2 r w' := by
  have o0 := hyes.o0
  have o1 := hyes.o1
  have : e.op = 1 ∨ e.op = 2 ∨ e.op = 3 ∨ e.op = 5 := by omega
  rcases this with h1 | h1 | h1 | h1
  · exact behind_1 k e v bs w a0 a1 a2 h he hyes h1 h4
  · exact behind_2 k e v bs w a0 a1 a2 h he hyes h1 h4
  · exact behind_3 k e v bs w a0 a1 a2 h he hyes h1
  · exact behind_5 k e v bs w a0 a1 a2 h he hyes h1

theorem doLn_codes (k : Bk) (e : Ev) (h4 : (doLn k e).1 ≠ 4) : 0 ≤ (doLn k e).1 ∧ (doLn k e).1 ≤ 3 := by
  unfold doLn lineDo at *
  (repeat' split) <;> simp_all

set_option maxHeartbeats 2000000 in
set_option maxRecDepth 100000 in
theorem implDo_any (k : Bk) (e : Ev) (v : Value) (bs : List Nat) (w : World) (a0 a1 a2 : Addr) (h : BkAt w v k bs) (he : Errs w a0 a1 a2) (hyes : EvOk k e) (hop : e.op ≠ 4) (h4 : (doLn k e).1 ≠ 4) :
    Calls Tryd.prog 18 #[v, .agg #[.int .i64 e.op, .int .i64 e.train, .int .i64 e.n]] w fun r w' => ∃ vl bs', r = .returned (.agg #[.int .i64 (doLn k e).1, .bool k.ok, .int .i64 k.sec, vl]) ∧ LnsAt w' vl (doBk k e).lns bs' ∧ Below w.heap.size w w' ∧ ∀ x ∈ bs', w.heap.size ≤ x := by
  have hK := h
  have HE : Hid (∀ W, Below w.heap.size w W → Errs W a0 a1 a2) := fun W hw => he.below hw he.lt
  obtain ⟨vl, rfl, hLs⟩ := h
  obtain ⟨a, nn, ca, rfl⟩ := hLs.slice
  have HB : Hid (∀ W, BkAt W (.agg #[.bool k.ok, .int .i64 k.sec, .slice a nn ca]) k bs → Errs W a0 a1 a2 → Calls Tryd.prog 38 #[.agg #[.bool k.ok, .int .i64 k.sec, .slice a nn ca], .agg #[.int .i64 e.op, .int .i64 e.train, .int .i64 e.n]] W fun r w' => ∃ vl bs1, r = .returned (.tuple #[.agg #[.bool k.ok, .int .i64 k.sec, vl], errV a0 a1 a2 (doLn k e).1]) ∧ LnsAt w' vl (doBk k e).lns bs1 ∧ Below W.heap.size W w' ∧ ∀ x ∈ bs1, W.heap.size ≤ x) := fun W h1 h2 => behind_any k e _ bs W a0 a1 a2 h1 h2 hyes hop h4
  have hcs := doLn_codes k e h4
  have HCo : Hid (∀ W, Errs W a0 a1 a2 → Calls Tryd.prog 41 #[errV a0 a1 a2 (doLn k e).1] W fun r w' => r = .returned (.int .i64 (doLn k e).1) ∧ w' = W) := fun W h1 => codeOf_any a0 a1 a2 _ W h1 hcs
  have bA : Below w.heap.size w (((w.alloc (.cells #[.bool k.ok, .int .i64 k.sec, .slice a nn ca] 32)).alloc (.cells #[.int .i64 e.op, .int .i64 e.train, .int .i64 e.n] 46)).alloc (.cells #[.int .i64 0, .bool false, .int .i64 0, .slice none 0 0] 34)) := below3 w _ _ _
  have eR : BlkIs (((w.alloc (.cells #[.bool k.ok, .int .i64 k.sec, .slice a nn ca] 32)).alloc (.cells #[.int .i64 e.op, .int .i64 e.train, .int .i64 e.n] 46)).alloc (.cells #[.int .i64 0, .bool false, .int .i64 0, .slice none 0 0] 34)) (w.heap.size + 1 + 1) [.int .i64 0, .bool false, .int .i64 0, .slice none 0 0] 34 := BlkIs.new3 _ _ _ _ _
  have hAz : (((w.alloc (.cells #[.bool k.ok, .int .i64 k.sec, .slice a nn ca] 32)).alloc (.cells #[.int .i64 e.op, .int .i64 e.train, .int .i64 e.n] 46)).alloc (.cells #[.int .i64 0, .bool false, .int .i64 0, .slice none 0 0] 34)).heap.size = w.heap.size + 3 := by simp
  generalize (doLn k e).1 = c at *
  generalize (doBk k e).lns = ls' at *
  clear he hLs hyes hop h4 hcs
  go_enter Tryd.func18, Tryd.ntmps18
  go_wp2_with fail
  generalize ((w.alloc (.cells #[.bool k.ok, .int .i64 k.sec, .slice a nn ca] 32)).alloc (.cells #[.int .i64 e.op, .int .i64 e.train, .int .i64 e.n] 46)).alloc (.cells #[.int .i64 0, .bool false, .int .i64 0, .slice none 0 0] 34) = A at *
  refine (HB.out _ (hK.below bA hK.lt) (HE.out _ bA)).mono ?_
  rintro _ w1 ⟨vl1, bs1, rfl, hls1, hb1, hlo1⟩
  obtain ⟨la, ln, lc, rfl⟩ := hls1.slice
  have b1 := bA.trans (hb1.mono bA.size)
  have eR1 := eR.below hb1 eR.lt
  obtain ⟨r0, r1, r2, r3⟩ := eR1.four
  have z1 := hb1.size
  have HL1 : Hid (LnsAt w1 (.slice la ln lc) ls' bs1) := hls1
  have HLo : Hid (∀ x ∈ bs1, A.heap.size ≤ x) := hlo1
  generalize hev : errV a0 a1 a2 c = ev at *
  clear hev hls1 hlo1 eR
  have bF : Below w1.heap.size w1 (w1.alloc (.cells #[.bool k.ok, .int .i64 k.sec, .slice la ln lc] 32)) := (Below.refl _ _).alloc (Nat.le_refl _) _
  have eF : BlkIs (w1.alloc (.cells #[.bool k.ok, .int .i64 k.sec, .slice la ln lc] 32)) w1.heap.size [.bool k.ok, .int .i64 k.sec, .slice la ln lc] 32 := BlkIs.new _ _ _
  have eR2 := eR1.below bF eR1.lt
  have b2 := b1.trans (bF.mono b1.size)
  have HCF : Hid (Calls Tryd.prog 41 #[ev] (w1.alloc (.cells #[.bool k.ok, .int .i64 k.sec, .slice la ln lc] 32)).drew fun r w' => r = .returned (.int .i64 c) ∧ w' = (w1.alloc (.cells #[.bool k.ok, .int .i64 k.sec, .slice la ln lc] 32)).drew) := HCo.out _ (HE.out _ b2.drew)
  have HLF : Hid (LnsAt (w1.alloc (.cells #[.bool k.ok, .int .i64 k.sec, .slice la ln lc] 32)) (.slice la ln lc) ls' bs1) := HL1.out.below bF HL1.out.lt
  go_wp2_with fail
  clear r0 r1 r2 r3 eR1
  generalize (w1.alloc (.cells #[.bool k.ok, .int .i64 k.sec, .slice la ln lc] 32)) = F at *
  obtain ⟨f0, f1, f2⟩ := eF.three
  obtain ⟨r0, r1, r2, r3⟩ := eR2.four
  have rf : ∀ x, F.frozen? ⟨w.heap.size + 1 + 1, x, none⟩ = false := fun x => eR2.frozen x
  go_region_with (first
    | (go_at_call 41; refine (Calls.mono HCF.out ?_); rintro _ w2 ⟨rfl, rfl⟩))
  all_goals (
    go_wp2
    refine bodyPost_ret (v := .agg #[.int .i64 c, .bool k.ok, .int .i64 k.sec, .slice la ln lc]) (by simp [results, Tryd.results18, go_sem, r0, r1, r2, r3]) rfl ⟨_, bs1, rfl, HLF.out.keep fun x hx => ?_, ?_, fun x hx => by have := HLo.out x hx; omega⟩
    · have hx2 := HLo.out x hx
      have hne : x ≠ w.heap.size + 1 + 1 := by omega
      change ((((F.setCell ⟨w.heap.size + 1 + 1, 0, none⟩ _).setCell ⟨w.heap.size + 1 + 1, 1, none⟩ _).setCell ⟨w.heap.size + 1 + 1, 2, none⟩ _).setCell ⟨w.heap.size + 1 + 1, 3, none⟩ _).heap[x]? = F.heap[x]?
      rw [Below.heap_setCell _ _ _ _ hne, Below.heap_setCell _ _ _ _ hne, Below.heap_setCell _ _ _ _ hne, Below.heap_setCell _ _ _ _ hne]
    · exact ((((b2.setCell (by simp; omega) _).setCell (by simp; omega) _).setCell (by simp; omega) _).setCell (by simp; omega) _).drew)

end Go.Proofs.YtnaaheddhgpnoaaDoor
