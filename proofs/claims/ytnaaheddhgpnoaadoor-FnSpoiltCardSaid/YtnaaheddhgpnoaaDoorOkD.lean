/-
  WHEN A BOOK IS RIGHT, AS DATA. No function of the program is named here.
-/
import Derived.Test.YtnaaheddhgpnoaaDoorData
namespace Go.Proofs.YtnaaheddhgpnoaaDoor
open Go.RowKit

def mostTo (gs : List Gr) : Nat → Int
  | 0 => 0
  | i + 1 => max (mostTo gs i) (gs[i]?.getD gr0).cel
/-- The most Cells, 0 at least. -/
def mostOf (gs : List Gr) : Int := mostTo gs gs.length
def totD (l : Ln) : Int := l.gone + l.way.length

def I64 (n : Int) : Prop := -9223372036854775808 ≤ n ∧ n ≤ 9223372036854775807
structure Gr.wf (g : Gr) : Prop where
  ver : I64 g.ver
  cel : I64 g.cel
structure Ln.wf (l : Ln) : Prop where
  gone : I64 l.gone
  drop : I64 l.drop
  way : ∀ i, i < l.way.length → I64 (l.way[i]?.getD 0)
  grs : ∀ i, i < l.grs.length → (l.grs[i]?.getD gr0).wf
structure Bk.wf (k : Bk) : Prop where
  sec : I64 k.sec
  lns : ∀ i, i < k.lns.length → (k.lns[i]?.getD ln0).wf

theorem mostTo_nonneg (gs : List Gr) : ∀ i, 0 ≤ mostTo gs i
  | 0 => Int.le_refl _
  | i + 1 => by have := mostTo_nonneg gs i; simp only [mostTo]; omega
theorem mostTo_i64 (gs : List Gr) (h : ∀ i, i < gs.length → (gs[i]?.getD gr0).wf) : ∀ i, i ≤ gs.length → mostTo gs i ≤ 9223372036854775807
  | 0, _ => by simp [mostTo]
  | i + 1, hi => by
    have h1 := mostTo_i64 gs h i (by omega)
    have h2 := (h i (by omega)).cel.2
    simp only [mostTo]; omega

structure FrameOk (k : Bk) : Prop where
  ok : k.ok = true
  lo : 1 ≤ k.sec
  hi : k.sec ≤ 200
  few : k.lns.length ≤ 20

structure WayHead (l : Ln) : Prop where
  lo : 0 ≤ l.gone
  hi : l.gone ≤ 1000000
  len : l.way.length ≤ 100
  tot : totD l ≤ 1000000
structure WayOk (sec : Int) (l : Ln) : Prop where
  head : WayHead l
  each : ∀ i, i < l.way.length → 0 ≤ l.way[i]?.getD 0 ∧ l.way[i]?.getD 0 ≤ sec - 1

structure GrOk (l : Ln) (i : Nat) : Prop where
  c0 : 0 ≤ (l.grs[i]?.getD gr0).cel
  c1 : (l.grs[i]?.getD gr0).cel ≤ totD l
  v0 : 0 ≤ (l.grs[i]?.getD gr0).ver
  v1 : (l.grs[i]?.getD gr0).ver ≤ 1000000
  next : 0 < i → (l.grs[i]?.getD gr0).ver = (l.grs[i - 1]?.getD gr0).ver + 1
structure GrsOk (l : Ln) : Prop where
  some : 1 ≤ l.grs.length
  few : l.grs.length ≤ 20
  each : ∀ i, i < l.grs.length → GrOk l i
  reach : l.gone ≤ mostOf l.grs

def lastCel (l : Ln) : Int := (l.grs[l.grs.length - 1]?.getD gr0).cel
structure DropIn (l : Ln) : Prop where
  lo : l.gone ≤ l.drop
  hi : l.drop ≤ totD l - 1
  last : lastCel l ≤ l.drop
  far : totD l ≤ mostOf l.grs
def DropOk (l : Ln) : Prop := l.drop = -1 ∨ DropIn l

/-- No section stands in two places of the Ways. -/
structure Once (ls : List Ln) : Prop where
  one : ∀ i, i < ls.length → ∀ a b, a < (ls[i]?.getD ln0).way.length → b < (ls[i]?.getD ln0).way.length → (ls[i]?.getD ln0).way[a]?.getD 0 = (ls[i]?.getD ln0).way[b]?.getD 0 → a = b
  two : ∀ i j, i < ls.length → j < ls.length → ∀ a b, a < (ls[i]?.getD ln0).way.length → b < (ls[j]?.getD ln0).way.length → (ls[i]?.getD ln0).way[a]?.getD 0 = (ls[j]?.getD ln0).way[b]?.getD 0 → i = j

def AllWay (k : Bk) : Prop := ∀ i, i < k.lns.length → WayOk k.sec (k.lns[i]?.getD ln0)
def AllGrs (k : Bk) : Prop := ∀ i, i < k.lns.length → GrsOk (k.lns[i]?.getD ln0)
def AllDrop (k : Bk) : Prop := ∀ i, i < k.lns.length → DropOk (k.lns[i]?.getD ln0)
structure Right (k : Bk) : Prop where
  frame : FrameOk k
  way : AllWay k
  grs : AllGrs k
  drop : AllDrop k
  once : Once k.lns

/-- The first code of a book. -/
def BookCode (k : Bk) (c : Int) : Prop :=
  (c = 1 ∧ ¬ FrameOk k) ∨ (c = 2 ∧ FrameOk k ∧ ¬ AllWay k) ∨ (c = 3 ∧ FrameOk k ∧ AllWay k ∧ ¬ AllGrs k) ∨ (c = 4 ∧ FrameOk k ∧ AllWay k ∧ AllGrs k ∧ ¬ AllDrop k) ∨
    (c = 5 ∧ FrameOk k ∧ AllWay k ∧ AllGrs k ∧ AllDrop k ∧ ¬ Once k.lns) ∨ (c = 0 ∧ Right k)
theorem right_iff (k : Bk) : Right k ↔ FrameOk k ∧ AllWay k ∧ AllGrs k ∧ AllDrop k ∧ Once k.lns := ⟨fun h => ⟨h.1, h.2, h.3, h.4, h.5⟩, fun h => ⟨h.1, h.2.1, h.2.2.1, h.2.2.2.1, h.2.2.2.2⟩⟩
theorem BookCode.one {k : Bk} {c d : Int} (h : BookCode k c) (g : BookCode k d) : c = d := by
  unfold BookCode at h g
  rw [right_iff] at h g
  by_cases F : FrameOk k <;> by_cases W : AllWay k <;> by_cases G : AllGrs k <;> by_cases D : AllDrop k <;> by_cases O : Once k.lns <;> simp [F, W, G, D, O] at h g <;> omega
theorem BookCode.zero {k : Bk} {c : Int} (h : BookCode k c) : c = 0 ↔ Right k := by
  constructor
  · rintro rfl
    rcases h with ⟨h, _⟩ | ⟨h, _⟩ | ⟨h, _⟩ | ⟨h, _⟩ | ⟨h, _⟩ | ⟨_, h⟩ <;> first | exact h | omega
  · exact fun hr => h.one (Or.inr (Or.inr (Or.inr (Or.inr (Or.inr ⟨rfl, hr⟩)))))
theorem BookCode.small {k : Bk} {c : Int} (h : BookCode k c) : 0 ≤ c ∧ c ≤ 5 := by
  rcases h with ⟨h, _⟩ | ⟨h, _⟩ | ⟨h, _⟩ | ⟨h, _⟩ | ⟨h, _⟩ | ⟨h, _⟩ <;> omega

/-- It returned the answer to the question p. -/
def RetB (e : Ending) (p : Prop) : Prop := ∃ b, e = .returned (.bool b) ∧ (b = true ↔ p)
theorem RetB.yes {p : Prop} (h : p) : RetB (.returned (.bool true)) p := ⟨true, rfl, by simpa using h⟩
theorem RetB.no {p : Prop} (h : ¬ p) : RetB (.returned (.bool false)) p := ⟨false, rfl, by simpa using h⟩
theorem RetB.of {p : Prop} {b : Bool} (h : b = true ↔ p) : RetB (.returned (.bool b)) p := ⟨b, rfl, h⟩

/-- It returned the first code of the book. -/
def RetCode (e : Ending) (k : Bk) : Prop := ∃ c, e = .returned (.int .i64 c) ∧ BookCode k c
theorem RetCode.c1 {k : Bk} (h : ¬ FrameOk k) : RetCode (.returned (.int .i64 1)) k := ⟨1, rfl, Or.inl ⟨rfl, h⟩⟩
theorem RetCode.c2 {k : Bk} (f : FrameOk k) (h : ¬ AllWay k) : RetCode (.returned (.int .i64 2)) k := ⟨2, rfl, Or.inr (Or.inl ⟨rfl, f, h⟩)⟩
theorem RetCode.c3 {k : Bk} (f : FrameOk k) (g : AllWay k) (h : ¬ AllGrs k) : RetCode (.returned (.int .i64 3)) k := ⟨3, rfl, Or.inr (Or.inr (Or.inl ⟨rfl, f, g, h⟩))⟩
theorem RetCode.c4 {k : Bk} (f : FrameOk k) (g : AllWay k) (g' : AllGrs k) (h : ¬ AllDrop k) : RetCode (.returned (.int .i64 4)) k := ⟨4, rfl, Or.inr (Or.inr (Or.inr (Or.inl ⟨rfl, f, g, g', h⟩)))⟩
theorem RetCode.c5 {k : Bk} (f : FrameOk k) (g : AllWay k) (g' : AllGrs k) (d : AllDrop k) (h : ¬ Once k.lns) : RetCode (.returned (.int .i64 5)) k := ⟨5, rfl, Or.inr (Or.inr (Or.inr (Or.inr (Or.inl ⟨rfl, f, g, g', d, h⟩))))⟩
theorem RetCode.c0 {k : Bk} (f : FrameOk k) (g : AllWay k) (g' : AllGrs k) (d : AllDrop k) (h : Once k.lns) : RetCode (.returned (.int .i64 0)) k := ⟨0, rfl, Or.inr (Or.inr (Or.inr (Or.inr (Or.inr ⟨rfl, f, g, g', d, h⟩))))⟩
theorem all_step {P : Nat → Prop} {k : Nat} (h : ∀ i, i < k → P i) (hk : P k) : ∀ i, i < k + 1 → P i := fun i hi => by
  by_cases e : i = k
  · subst e; exact hk
  · exact h i (by omega)

/-- The code of one line by itself. -/
def LineCode (sec : Int) (l : Ln) (c : Int) : Prop :=
  (c = 2 ∧ ¬ WayOk sec l) ∨ (c = 3 ∧ WayOk sec l ∧ ¬ GrsOk l) ∨ (c = 4 ∧ WayOk sec l ∧ GrsOk l ∧ ¬ DropOk l) ∨ (c = 0 ∧ WayOk sec l ∧ GrsOk l ∧ DropOk l)

/-- It returned the code of the line. -/
def RetLine (e : Ending) (sec : Int) (l : Ln) : Prop := ∃ c, e = .returned (.int .i64 c) ∧ LineCode sec l c
theorem RetLine.c2 {sec : Int} {l : Ln} (h : ¬ WayOk sec l) : RetLine (.returned (.int .i64 2)) sec l := ⟨2, rfl, Or.inl ⟨rfl, h⟩⟩
theorem RetLine.c3 {sec : Int} {l : Ln} (g : WayOk sec l) (h : ¬ GrsOk l) : RetLine (.returned (.int .i64 3)) sec l := ⟨3, rfl, Or.inr (Or.inl ⟨rfl, g, h⟩)⟩
theorem RetLine.c4 {sec : Int} {l : Ln} (g : WayOk sec l) (g' : GrsOk l) (h : ¬ DropOk l) : RetLine (.returned (.int .i64 4)) sec l := ⟨4, rfl, Or.inr (Or.inr (Or.inl ⟨rfl, g, g', h⟩))⟩
theorem RetLine.c0 {sec : Int} {l : Ln} (g : WayOk sec l) (g' : GrsOk l) (h : DropOk l) : RetLine (.returned (.int .i64 0)) sec l := ⟨0, rfl, Or.inr (Or.inr (Or.inr ⟨rfl, g, g', h⟩))⟩

end Go.Proofs.YtnaaheddhgpnoaaDoor
