/-
  CODES OF LINES AND THE CODE OF A BOOK; sections seen. No function of the program is named here.
-/
import Derived.Test.YtnaaheddhgpnoaaDoorOwnD
import Derived.Test.YtnaaheddhgpnoaaDoorToD
namespace Go.Proofs.YtnaaheddhgpnoaaDoor
open Go.RowKit

/-- No line has a code in 2 .. 1 + q. -/
def NoneBelow (k : Bk) (q : Nat) : Prop := ∀ i, i < k.lns.length → ∀ c, LineCode k.sec (k.lns[i]?.getD ln0) c → c = 0 ∨ 2 + (q : Int) ≤ c

theorem LineCode.one {sec : Int} {l : Ln} {c d : Int} (h : LineCode sec l c) (g : LineCode sec l d) : c = d := by
  unfold LineCode at h g
  by_cases W : WayOk sec l <;> by_cases G : GrsOk l <;> by_cases D : DropOk l <;> simp [W, G, D] at h g <;> omega
theorem LineCode.range {sec : Int} {l : Ln} {c : Int} (h : LineCode sec l c) : c = 0 ∨ (2 ≤ c ∧ c ≤ 4) := by
  unfold LineCode at h
  omega
theorem LineCode.exists (sec : Int) (l : Ln) : ∃ c, LineCode sec l c := by
  by_cases W : WayOk sec l
  · by_cases G : GrsOk l
    · by_cases D : DropOk l
      · exact ⟨0, Or.inr (Or.inr (Or.inr ⟨rfl, W, G, D⟩))⟩
      · exact ⟨4, Or.inr (Or.inr (Or.inl ⟨rfl, W, G, D⟩))⟩
    · exact ⟨3, Or.inr (Or.inl ⟨rfl, W, G⟩)⟩
  · exact ⟨2, Or.inl ⟨rfl, W⟩⟩
theorem none_zero (k : Bk) : NoneBelow k 0 := fun i _ c h => by have := h.range; omega
theorem none_step {k : Bk} {q : Nat} (h : NoneBelow k q) (hn : ∀ i, i < k.lns.length → ¬ LineCode k.sec (k.lns[i]?.getD ln0) (2 + (q : Int))) : NoneBelow k (q + 1) := fun i hi c hc => by
  rcases h i hi c hc with h0 | h0
  · exact Or.inl h0
  · refine Or.inr ?_
    have : c ≠ 2 + (q : Int) := fun e => hn i hi (e ▸ hc)
    omega
theorem none_way {k : Bk} {q : Nat} (h : NoneBelow k q) (hq : 1 ≤ q) : AllWay k := fun i hi => by
  obtain ⟨c, hc⟩ := LineCode.exists k.sec (k.lns[i]?.getD ln0)
  have := h i hi c hc
  unfold LineCode at hc
  rcases hc with ⟨rfl, _⟩ | ⟨_, h, _⟩ | ⟨_, h, _⟩ | ⟨_, h, _⟩
  · omega
  · exact h
  · exact h
  · exact h
theorem none_grs {k : Bk} {q : Nat} (h : NoneBelow k q) (hq : 2 ≤ q) : AllGrs k := fun i hi => by
  obtain ⟨c, hc⟩ := LineCode.exists k.sec (k.lns[i]?.getD ln0)
  have := h i hi c hc
  unfold LineCode at hc
  rcases hc with ⟨rfl, _⟩ | ⟨rfl, _⟩ | ⟨_, _, h, _⟩ | ⟨_, _, h, _⟩
  · omega
  · omega
  · exact h
  · exact h
theorem none_drop {k : Bk} {q : Nat} (h : NoneBelow k q) (hq : 3 ≤ q) : AllDrop k := fun i hi => by
  obtain ⟨c, hc⟩ := LineCode.exists k.sec (k.lns[i]?.getD ln0)
  have := h i hi c hc
  unfold LineCode at hc
  rcases hc with ⟨rfl, _⟩ | ⟨rfl, _⟩ | ⟨rfl, _⟩ | ⟨_, _, _, h⟩
  · omega
  · omega
  · omega
  · exact h
theorem code_found {k : Bk} {q i : Nat} (F : FrameOk k) (h : NoneBelow k q) (hq : q < 3) (hi : i < k.lns.length) (hc : LineCode k.sec (k.lns[i]?.getD ln0) (2 + (q : Int))) : RetCode (.returned (.int .i64 (2 + (q : Int)))) k := by
  match q, hq, h, hc with
  | 0, _, h, hc =>
    refine RetCode.c2 F fun ha => ?_
    rcases hc with ⟨_, hw⟩ | ⟨e, _⟩ | ⟨e, _⟩ | ⟨e, _⟩
    · exact hw (ha i hi)
    all_goals omega
  | 1, _, h, hc =>
    refine RetCode.c3 F (none_way h (Nat.le_refl _)) fun ha => ?_
    rcases hc with ⟨e, _⟩ | ⟨_, _, hw⟩ | ⟨e, _⟩ | ⟨e, _⟩
    · omega
    · exact hw (ha i hi)
    all_goals omega
  | 2, _, h, hc =>
    refine RetCode.c4 F (none_way h (by omega)) (none_grs h (Nat.le_refl _)) fun ha => ?_
    rcases hc with ⟨e, _⟩ | ⟨e, _⟩ | ⟨_, _, _, hw⟩ | ⟨e, _⟩
    · omega
    · omega
    · exact hw (ha i hi)
    · omega

/-- Which sections have been seen. -/
structure SeenInv (ls : List Ln) (k a : Nat) (f : Nat → Bool) : Prop where
  uniq : ∀ i c i' c', SeenP ls k a i c → SeenP ls k a i' c' → sect ls i c = sect ls i' c' → i = i' ∧ c = c'
  mem : ∀ x : Nat, f x = true ↔ ∃ i c, SeenP ls k a i c ∧ sect ls i c = x
theorem SeenInv.start (ls : List Ln) : SeenInv ls 0 0 (fun _ => false) :=
  ⟨fun i c _ _ h => by have := h.past; omega, fun x => ⟨fun h => (by cases h), fun ⟨i, c, h, _⟩ => by have := h.past; omega⟩⟩
theorem SeenInv.step {ls : List Ln} {k a x : Nat} {f : Nat → Bool} (h : SeenInv ls k a f) (hk : k < ls.length) (ha : a < wlen ls k) (hx : sect ls k a = x) (hno : f x = false) :
    SeenInv ls k (a + 1) (fun y => if y = x then true else f y) := by
  have new : ∀ i c, SeenP ls k (a + 1) i c → SeenP ls k a i c ∨ (i = k ∧ c = a) := fun i c hs => by
    have := hs.past
    by_cases e : i = k ∧ c = a
    · exact Or.inr e
    · exact Or.inl ⟨hs.line, hs.place, by omega⟩
  have old : ∀ i c, SeenP ls k a i c → SeenP ls k (a + 1) i c := fun i c hs => ⟨hs.line, hs.place, by have := hs.past; omega⟩
  have ne : ∀ i c, SeenP ls k a i c → sect ls i c ≠ sect ls k a := fun i c hs e => by
    have := (h.mem x).2 ⟨i, c, hs, e.trans hx⟩
    rw [this] at hno
    exact Bool.noConfusion hno
  refine ⟨fun i c i' c' h1 h2 e => ?_, fun y => ?_⟩
  · rcases new i c h1 with h1 | ⟨rfl, rfl⟩ <;> rcases new i' c' h2 with h2 | ⟨rfl, rfl⟩
    · exact h.uniq _ _ _ _ h1 h2 e
    · exact absurd e (ne _ _ h1)
    · exact absurd e.symm (ne _ _ h2)
    · exact ⟨rfl, rfl⟩
  · by_cases e : y = x
    · subst e
      simp only [if_true]
      exact ⟨fun _ => ⟨k, a, ⟨hk, ha, Or.inr ⟨rfl, by omega⟩⟩, hx⟩, fun _ => trivial⟩
    · simp only [if_neg e]
      rw [h.mem]
      constructor
      · rintro ⟨i, c, hs, hy⟩; exact ⟨i, c, old _ _ hs, hy⟩
      · rintro ⟨i, c, hs, hy⟩
        rcases new i c hs with hs | ⟨rfl, rfl⟩
        · exact ⟨i, c, hs, hy⟩
        · rw [hx] at hy
          exact absurd (by omega) e
theorem SeenInv.next {ls : List Ln} {k : Nat} {f : Nat → Bool} (h : SeenInv ls k (wlen ls k) f) : SeenInv ls (k + 1) 0 f := by
  have iff : ∀ i c, SeenP ls (k + 1) 0 i c ↔ SeenP ls k (wlen ls k) i c := fun i c => by
    constructor
    · intro hs
      have h1 := hs.past
      have h2 := hs.place
      refine ⟨hs.line, hs.place, ?_⟩
      by_cases e : i = k
      · subst e; exact Or.inr ⟨rfl, h2⟩
      · exact Or.inl (by omega)
    · intro hs
      have h1 := hs.past
      exact ⟨hs.line, hs.place, Or.inl (by omega)⟩
  exact ⟨fun i c i' c' h1 h2 => h.uniq i c i' c' ((iff _ _).1 h1) ((iff _ _).1 h2), fun x => by rw [h.mem]; simp only [iff]⟩
theorem SeenInv.twice {ls : List Ln} {k a x : Nat} {f : Nat → Bool} (h : SeenInv ls k a f) (hk : k < ls.length) (ha : a < wlen ls k) (hx : sect ls k a = x) (hy : f x = true) : ¬ Once ls := by
  intro ho
  obtain ⟨i, c, hs, e⟩ := (h.mem _).1 hy
  have h1 := ho.two i k hs.line hk c a hs.place ha (e.trans hx.symm)
  subst h1
  have h2 := ho.one i hk c a hs.place ha (e.trans hx.symm)
  have := hs.past
  omega
theorem SeenInv.once {ls : List Ln} {f : Nat → Bool} (h : SeenInv ls ls.length 0 f) : Once ls :=
  ⟨fun i hi a b ha hb e => (h.uniq i a i b ⟨hi, ha, Or.inl hi⟩ ⟨hi, hb, Or.inl hi⟩ e).2, fun i j hi hj a b ha hb e => (h.uniq i a j b ⟨hi, ha, Or.inl hi⟩ ⟨hj, hb, Or.inl hj⟩ e).1⟩

/-- The line in whose Way section s is. -/
def OwnerIs (k : Bk) (s r : Int) : Prop :=
  (¬ Right k ∧ r = -1) ∨ (Right k ∧ ∃ i c, i < k.lns.length ∧ c < wlen k.lns i ∧ sect k.lns i c = s ∧ r = (i : Int)) ∨ (Right k ∧ (∀ i c, i < k.lns.length → c < wlen k.lns i → sect k.lns i c ≠ s) ∧ r = -1)
theorem OwnerIs.one {k : Bk} {s r q : Int} (h : OwnerIs k s r) (g : OwnerIs k s q) : r = q := by
  rcases h with ⟨h1, rfl⟩ | ⟨h1, i, c, h2, h3, h4, rfl⟩ | ⟨h1, h2, rfl⟩ <;> rcases g with ⟨g1, rfl⟩ | ⟨g1, j, d, g2, g3, g4, rfl⟩ | ⟨g1, g2, rfl⟩
  · rfl
  · exact absurd g1 h1
  · rfl
  · exact absurd h1 g1
  · have := h1.once.two i j h2 g2 c d h3 g3 (h4.trans g4.symm)
    rw [this]
  · exact absurd h4 (g2 i c h2 h3)
  · rfl
  · exact absurd g4 (h2 j d g2 g3)
  · rfl
def RetOwner (e : Ending) (k : Bk) (s : Int) : Prop := ∃ r, e = .returned (.int .i64 r) ∧ OwnerIs k s r
theorem RetOwner.wrong {k : Bk} {s : Int} (h : ¬ Right k) : RetOwner (.returned (.int .i64 (-1))) k s := ⟨-1, rfl, Or.inl ⟨h, rfl⟩⟩
theorem RetOwner.is {k : Bk} {s : Int} {i c : Nat} (h : Right k) (h1 : i < k.lns.length) (h2 : c < wlen k.lns i) (h3 : sect k.lns i c = s) : RetOwner (.returned (.int .i64 (i : Int))) k s := ⟨i, rfl, Or.inr (Or.inl ⟨h, i, c, h1, h2, h3, rfl⟩)⟩
theorem RetOwner.none {k : Bk} {s : Int} (h : Right k) (h1 : ∀ i c, i < k.lns.length → c < wlen k.lns i → sect k.lns i c ≠ s) : RetOwner (.returned (.int .i64 (-1))) k s := ⟨-1, rfl, Or.inr (Or.inr ⟨h, h1, rfl⟩)⟩

/-- The reach of line t. -/
def ReachIs (k : Bk) (t r : Int) : Prop := (¬ (Right k ∧ 0 ≤ t ∧ t ≤ (k.lns.length : Int) - 1) ∧ r = -1) ∨ (Right k ∧ ∃ i : Nat, t = i ∧ i < k.lns.length ∧ r = mostOf (k.lns[i]?.getD ln0).grs)
theorem ReachIs.one {k : Bk} {t r q : Int} (h : ReachIs k t r) (g : ReachIs k t q) : r = q := by
  rcases h with ⟨h1, rfl⟩ | ⟨h1, i, h2, h3, rfl⟩ <;> rcases g with ⟨g1, rfl⟩ | ⟨g1, j, g2, g3, rfl⟩
  · rfl
  · exact absurd ⟨g1, by omega, by omega⟩ h1
  · exact absurd ⟨h1, by omega, by omega⟩ g1
  · have : i = j := by omega
    rw [this]
def RetReach (e : Ending) (k : Bk) (t : Int) : Prop := ∃ r, e = .returned (.int .i64 r) ∧ ReachIs k t r
theorem RetReach.no {k : Bk} {t : Int} (h : ¬ (Right k ∧ 0 ≤ t ∧ t ≤ (k.lns.length : Int) - 1)) : RetReach (.returned (.int .i64 (-1))) k t := ⟨-1, rfl, Or.inl ⟨h, rfl⟩⟩
theorem RetReach.is {k : Bk} {i : Nat} (h : Right k) (hi : i < k.lns.length) : RetReach (.returned (.int .i64 (mostOf (k.lns[i]?.getD ln0).grs))) k i := ⟨_, rfl, Or.inr ⟨h, i, rfl, hi, rfl⟩⟩

/-- The row of flags in memory. -/
structure FlagRow (W wr : World) (S m : Nat) (f : Nat → Bool) : Prop where
  below : Below S W wr
  lt : S < wr.heap.size
  free : ∀ o, wr.frozen? ⟨S, o, none⟩ = false
  cell : ∀ x, x < m → wr.cell? ⟨S, x, none⟩ = some (.bool (f x))
theorem FlagRow.start (w : World) (m : Nat) (t : TypeId) : FlagRow w (w.alloc (.cells (madeCells #[.bool false] m) t)) w.heap.size m (fun _ => false) := by
  refine ⟨(Below.refl _ _).alloc (Nat.le_refl _) _, by simp, fun _ => frozen_alloc_new, fun x hx => ?_⟩
  rw [cell_alloc_new]
  have e : (madeCells #[.bool false] m)[x]? = some ((madeCells #[.bool false] m)[x]'(by rw [size_madeCells]; exact hx)) := Array.getElem?_eq_getElem _
  rw [e]
  simp [madeCells, Nat.mod_one]
theorem FlagRow.set {w wr : World} {S m x : Nat} {f : Nat → Bool} (h : FlagRow w wr S m f) (hx : x < m) : FlagRow w (wr.setCell ⟨S, x, none⟩ (.bool true)) S m (fun y => if y = x then true else f y) := by
  refine ⟨h.below.setCell (Nat.le_refl _) _, by rw [World.size_setCell]; exact h.lt, fun o => by rw [World.frozen?_setCell]; exact h.free o, fun y hy => ?_⟩
  by_cases e : y = x
  · subst e
    simp only [if_true]
    exact World.cell?_setCell_same _ _ _ (h.cell y hy)
  · rw [cell_set_ne (Ne.symm e)]
    simp only [if_neg e]
    exact h.cell y hy
theorem FlagRow.alloc {w wr : World} {S m : Nat} {f : Nat → Bool} (h : FlagRow w wr S m f) (c : Array Value) (t : TypeId) : FlagRow w (wr.alloc (.cells c t)) S m f :=
  ⟨h.below.alloc (Nat.le_of_lt h.lt) _, by simp; exact Nat.lt_succ_of_lt h.lt, fun o => by rw [frozen?_alloc_cells]; exact h.free o, fun x hx => by rw [cell_keep (Below.heap_alloc _ _ _ h.lt)]; exact h.cell x hx⟩

end Go.Proofs.YtnaaheddhgpnoaaDoor
