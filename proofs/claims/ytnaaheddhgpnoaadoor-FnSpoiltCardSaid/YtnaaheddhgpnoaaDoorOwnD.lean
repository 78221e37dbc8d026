/-
  WHO OWNS WHICH SECTION, AS DATA: what a map by section holds while the Ways are read. No function of the program is named here.
-/
import Derived.Test.YtnaaheddhgpnoaaDoorOkD
import Derived.Maps.OwnSet
import Derived.Maps.OwnOps
namespace Go.Proofs.YtnaaheddhgpnoaaDoor
open Go.RowKit Go.Maps

def sect (ls : List Ln) (i c : Nat) : Int := (ls[i]?.getD ln0).way[c]?.getD 0
def wlen (ls : List Ln) (i : Nat) : Nat := (ls[i]?.getD ln0).way.length
/-- Place c of line i has been read, when line k is being read at place a. -/
structure SeenP (ls : List Ln) (k a i c : Nat) : Prop where
  line : i < ls.length
  place : c < wlen ls i
  past : i < k ∨ (i = k ∧ c < a)

structure OwnInv (ls : List Ln) (k a : Nat) (D : DataW Unit) : Prop where
  uniq : ∀ i c i' c', SeenP ls k a i c → SeenP ls k a i' c' → sect ls i c = sect ls i' c' → i = i' ∧ c = c'
  mem : ∀ x, Maps.has D (.int .i64 x) = true ↔ ∃ i c, SeenP ls k a i c ∧ sect ls i c = x
  val : ∀ i c, SeenP ls k a i c → ∀ z, D.atKey (.int .i64 (sect ls i c)) z = .lit (.int .i64 i)
  ismap : Maps.IsMap D

theorem OwnInv.start (ls : List Ln) : OwnInv ls 0 0 (.map []) :=
  ⟨fun i c _ _ h => by have := h.past; omega, fun x => ⟨fun h => by simp [Maps.has_eq] at h, fun ⟨i, c, h, _⟩ => by have := h.past; omega⟩, fun i c h => by have := h.past; omega, isMap_empty⟩

theorem key_ne {x y : Int} (h : x ≠ y) : (Lit.int .i64 x) ≠ (Lit.int .i64 y) := fun e => h (by simpa using e)

theorem OwnInv.step {ls : List Ln} {k a : Nat} {D : DataW Unit} (h : OwnInv ls k a D) (hk : k < ls.length) (ha : a < wlen ls k) (hno : Maps.has D (.int .i64 (sect ls k a)) = false) :
    OwnInv ls k (a + 1) (D.put (.int .i64 (sect ls k a)) (.lit (.int .i64 k))) := by
  have new : ∀ i c, SeenP ls k (a + 1) i c → SeenP ls k a i c ∨ (i = k ∧ c = a) := fun i c hs => by
    have := hs.past
    by_cases e : i = k ∧ c = a
    · exact Or.inr e
    · exact Or.inl ⟨hs.line, hs.place, by omega⟩
  have old : ∀ i c, SeenP ls k a i c → SeenP ls k (a + 1) i c := fun i c hs => ⟨hs.line, hs.place, by have := hs.past; omega⟩
  have ne : ∀ i c, SeenP ls k a i c → sect ls i c ≠ sect ls k a := fun i c hs e => by
    have := (h.mem (sect ls k a)).2 ⟨i, c, hs, e⟩
    rw [this] at hno
    exact Bool.noConfusion hno
  refine ⟨fun i c i' c' h1 h2 e => ?_, fun x => ?_, fun i c h1 z => ?_, h.ismap.put _ _⟩
  · rcases new i c h1 with h1 | ⟨rfl, rfl⟩ <;> rcases new i' c' h2 with h2 | ⟨rfl, rfl⟩
    · exact h.uniq _ _ _ _ h1 h2 e
    · exact absurd e (ne _ _ h1)
    · exact absurd e.symm (ne _ _ h2)
    · exact ⟨rfl, rfl⟩
  · by_cases e : x = sect ls k a
    · subst e
      rw [has_put_same (k := .int .i64 (sect ls k a)) h.ismap (show WideAt.IsKeyLit (.int .i64 (sect ls k a)) from trivial)]
      exact ⟨fun _ => ⟨k, a, ⟨hk, ha, Or.inr ⟨rfl, by omega⟩⟩, rfl⟩, fun _ => rfl⟩
    · rw [has_put_other (key_ne e), h.mem]
      constructor
      · rintro ⟨i, c, hs, hx⟩; exact ⟨i, c, old _ _ hs, hx⟩
      · rintro ⟨i, c, hs, hx⟩
        rcases new i c hs with hs | ⟨rfl, rfl⟩
        · exact ⟨i, c, hs, hx⟩
        · exact absurd hx.symm e
  · rcases new i c h1 with h1 | ⟨rfl, rfl⟩
    · rw [atKey_put_other (key_ne (ne _ _ h1))]; exact h.val i c h1 z
    · exact atKey_put_same (k := .int .i64 (sect ls i c)) h.ismap (show WideAt.IsKeyLit (.int .i64 (sect ls i c)) from trivial) _ _

theorem OwnInv.next {ls : List Ln} {k : Nat} {D : DataW Unit} (h : OwnInv ls k (wlen ls k) D) : OwnInv ls (k + 1) 0 D := by
  have iff : ∀ i c, SeenP ls (k + 1) 0 i c ↔ SeenP ls k (wlen ls k) i c := fun i c => by
    constructor
    · intro hs
      have h1 := hs.past
      have h2 := hs.place
      refine ⟨hs.line, hs.place, ?_⟩
      by_cases e : i = k
      · subst e; exact Or.inr ⟨rfl, h2⟩
      · exact Or.inl (by omega)
    · intro hs
      have h1 := hs.past
      exact ⟨hs.line, hs.place, Or.inl (by omega)⟩
  exact ⟨fun i c i' c' h1 h2 => h.uniq i c i' c' ((iff _ _).1 h1) ((iff _ _).1 h2), fun x => by rw [h.mem]; simp only [iff], fun i c h1 => h.val i c ((iff _ _).1 h1), h.ismap⟩

/-- A section that is met again. -/
theorem OwnInv.twice {ls : List Ln} {k a : Nat} {D : DataW Unit} (h : OwnInv ls k a D) (hk : k < ls.length) (ha : a < wlen ls k) (hy : Maps.has D (.int .i64 (sect ls k a)) = true) : ¬ Once ls := by
  intro ho
  obtain ⟨i, c, hs, e⟩ := (h.mem _).1 hy
  have h1 := ho.two i k hs.line hk c a hs.place ha e
  subst h1
  have h2 := ho.one i hk c a hs.place ha e
  have := hs.past
  omega

theorem OwnInv.once {ls : List Ln} {D : DataW Unit} (h : OwnInv ls ls.length 0 D) : Once ls :=
  ⟨fun i hi a b ha hb e => (h.uniq i a i b ⟨hi, ha, Or.inl hi⟩ ⟨hi, hb, Or.inl hi⟩ e).2, fun i j hi hj a b ha hb e => (h.uniq i a j b ⟨hi, ha, Or.inl hi⟩ ⟨hj, hb, Or.inl hj⟩ e).1⟩

/-- The map behind all lines: who owns a section. -/
structure OwnersD (ls : List Ln) (D : DataW Unit) : Prop where
  mem : ∀ x, Maps.has D (.int .i64 x) = true ↔ ∃ i c, i < ls.length ∧ c < wlen ls i ∧ sect ls i c = x
  val : ∀ i c, i < ls.length → c < wlen ls i → ∀ z, D.atKey (.int .i64 (sect ls i c)) z = .lit (.int .i64 i)
theorem OwnInv.done {ls : List Ln} {D : DataW Unit} (h : OwnInv ls ls.length 0 D) : OwnersD ls D :=
  ⟨fun x => by rw [h.mem]; exact ⟨fun ⟨i, c, hs, e⟩ => ⟨i, c, hs.line, hs.place, e⟩, fun ⟨i, c, h1, h2, e⟩ => ⟨i, c, ⟨h1, h2, Or.inl h1⟩, e⟩⟩, fun i c h1 h2 => h.val i c ⟨h1, h2, Or.inl h1⟩⟩

end Go.Proofs.YtnaaheddhgpnoaaDoor
