import Derived.Test.YtnaaheddhgpnoaaDoorRunI
import Derived.Test.YtnaaheddhgpnoaaDoorBackK
namespace Go.Proofs.YtnaaheddhgpnoaaDoor
open Go.ChangeShapes Go.WideShapes Go.ChangeAt Go.RowKit

/-- Bytes in memory. -/
def BysAt (w : World) (v : Value) : Prop := ∃ a n cap, v = .slice a n cap ∧ n ≤ cap ∧ cap ≤ maxLen ∧ (n = 0 ∨ ∃ b o, a = some ⟨b, o, none⟩ ∧ b < w.heap.size ∧ ∀ i, i < n → ∃ x : Nat, x < 256 ∧ w.cell? ⟨b, o + i, none⟩ = some (.int .u8 x))
theorem BysAt.below {w w' : World} {v : Value} (h : BysAt w v) (hb : Below w.heap.size w w') : BysAt w' v := by
  obtain ⟨a, n, cap, h1, h2, h3, h⟩ := h
  refine ⟨a, n, cap, h1, h2, h3, ?_⟩
  rcases h with h | ⟨b, o, ha, hl, hc⟩
  · exact Or.inl h
  · exact Or.inr ⟨b, o, ha, Nat.lt_of_lt_of_le hl hb.size, fun i hi => by obtain ⟨x, hx, e⟩ := hc i hi; exact ⟨x, hx, ((bcell hb).1 _ _ hl).trans e⟩⟩

set_option maxHeartbeats 1000000 in
theorem wByte_any (v : Value) (j : Nat) (w : World) (h : BysAt w v) :
    Calls Tryd.prog 17 #[v, .int .i64 (j : Int)] w fun e w' => (∃ x : Nat, x < 256 ∧ e = .returned (.int .i64 (x : Int))) ∧ w' = w := by
  obtain ⟨a, n, cap, rfl, h2, h3, h⟩ := h
  unfold maxLen at h3
  by_cases hn : n = 0
  · subst hn
    go_enter Tryd.func17, Tryd.ntmps17
    go_wp2
    go_ret
    exact ⟨⟨0, by omega, rfl⟩, rfl⟩
  · rcases h with h | ⟨b, o, rfl, hl, hc⟩
    · exact absurd h hn
    have hlt : j % n < n := Nat.mod_lt _ (by omega)
    obtain ⟨x, hx, hcell⟩ := hc (j % n) hlt
    have hn' : ((n : Int) == 0) = false := by simp; omega
    clear hc
    go_enter Tryd.func17, Tryd.ntmps17
    go_wp2
    go_ret
    exact ⟨⟨x, hx, rfl⟩, rfl⟩

def evCells (es : List Ev) : List Value := es.flatMap fun e => [.int .i64 e.op, .int .i64 e.train, .int .i64 e.n]
theorem Tryd.infoEv : (Tryd.prog.info? 46).map (fun i => (i.zero, i.size, i.bytes)) = some (some (.agg #[.int .i64 0, .int .i64 0, .int .i64 0]), 3, 24) := by kernel_rfl

theorem evCells_len : ∀ es : List Ev, (evCells es).length = es.length * 3
  | [] => rfl
  | e :: es => by
    have := evCells_len es
    simp only [evCells, List.flatMap_cons, List.length_append, List.length_cons, List.length_nil] at *
    omega
theorem evCells_at : ∀ (es : List Ev) (j : Nat), j < es.length → (evCells es)[j * 3]? = some (.int .i64 (es[j]?.getD ev0).op) ∧ (evCells es)[j * 3 + 1]? = some (.int .i64 (es[j]?.getD ev0).train) ∧ (evCells es)[j * 3 + 2]? = some (.int .i64 (es[j]?.getD ev0).n)
  | [], j, h => by simp at h
  | e :: es, 0, _ => by simp [evCells]
  | e :: es, j + 1, h => by
    have ih := evCells_at es j (by simpa using h)
    have hc : ∀ r, (evCells (e :: es))[(j + 1) * 3 + r]? = (evCells es)[j * 3 + r]? := fun r => by
      show ([Value.int .i64 e.op, .int .i64 e.train, .int .i64 e.n] ++ evCells es)[(j + 1) * 3 + r]? = _
      rw [List.getElem?_append_right (by simp; omega)]
      congr 1
      simp
      omega
    have h0 := hc 0
    simp only [Nat.add_zero] at h0
    rw [h0, hc 1, hc 2]
    simpa using ih
theorem own_evs {w : World} {B T : Nat} {v : Value} {es : List Ev} (h : w.ownsRow B T 3 v es.length (evCells es)) (hn : 0 < es.length) : ∃ b, EvsAt w v es [b] ∧ B ≤ b := by
  have hv : v ≠ .slice none 0 0 := by
    rintro rfl
    rcases h.2 with ⟨_, h0⟩ | ⟨g, cap, cur, hv, _⟩
    · omega
    · simp at hv
  obtain ⟨g, cap, rfl, hB, hk, h1, h2, hc⟩ := own_facts h hv
  refine ⟨g, ⟨_, cap, rfl, h1, h2, Or.inr ⟨g, 0, rfl, rfl, hk.lt, fun i hi => ?_⟩⟩, hB⟩
  obtain ⟨e0, e1, e2⟩ := evCells_at es i hi
  exact ⟨hc _ _ e0, by have := hc _ _ e1; rwa [← Nat.add_assoc] at this, by have := hc _ _ e2; rwa [← Nat.add_assoc] at this⟩

end Go.Proofs.YtnaaheddhgpnoaaDoor
