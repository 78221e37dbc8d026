/-
  A BOOK THAT IS COPIED BY append: rows with room, lines appended. No function of the program is named here.
-/
import Derived.Test.YtnaaheddhgpnoaaDoorToD
namespace Go.Proofs.YtnaaheddhgpnoaaDoor
open Go.RowKit

def KindAt (w : World) (b : Nat) (t : TypeId) : Prop := ∃ c, w.heap[b]? = some (.cells c t (0, 0))
/-- A slice that is not nil, all of whose room is there and may be written. -/
def RoomAt (w : World) (v : Value) (sz : Nat) (t : TypeId) (B : Nat) : Prop :=
  ∃ b n cap cur, v = .slice (some ⟨b, 0, none⟩) n cap ∧ w.heap[b]? = some (.cells cur t (0, 0)) ∧ B ≤ b ∧ n ≤ cap ∧ cap ≤ maxLen ∧ cur.size = cap * sz
theorem RoomAt.keep {w w' : World} {v : Value} {sz B : Nat} {t : TypeId} (h : RoomAt w v sz t B) (hk : ∀ b, KindAt w b t → B ≤ b → w'.heap[b]? = w.heap[b]?) : RoomAt w' v sz t B := by
  obtain ⟨b, n, cap, cur, rfl, h1, h2, h3⟩ := h
  exact ⟨b, n, cap, cur, rfl, (hk b ⟨cur, h1⟩ h2).trans h1, h2, h3⟩
theorem KindAt.keep {w w' : World} {b : Nat} {t : TypeId} (h : KindAt w b t) (hk : w'.heap[b]? = w.heap[b]?) : KindAt w' b t := by
  obtain ⟨c, hc⟩ := h
  exact ⟨c, hk.trans hc⟩
theorem KindAt.ne {w : World} {b b' : Nat} {t t' : TypeId} (h : KindAt w b t) (h' : KindAt w b' t') (ht : t ≠ t') : b ≠ b' := by
  rintro rfl
  obtain ⟨c, hc⟩ := h
  obtain ⟨c', hc'⟩ := h'
  rw [hc] at hc'
  simp only [Option.some.injEq, Obj.cells.injEq] at hc'
  exact ht hc'.2.1
theorem KindAt.lt {w : World} {b : Nat} {t : TypeId} (h : KindAt w b t) : b < w.heap.size := by
  obtain ⟨c, hc⟩ := h
  exact (Array.getElem?_eq_some_iff.1 hc).1
theorem KindAt.free {w : World} {b : Nat} {t : TypeId} (h : KindAt w b t) (o : Nat) : w.frozen? ⟨b, o, none⟩ = false := by
  obtain ⟨c, hc⟩ := h
  unfold World.frozen?
  rw [hc]
  simp
theorem own_kind {w : World} {B T n size : Nat} {v : Value} {xs : List Value} (h : w.ownsRow B T size v n xs) : ∀ b, v.ownBlock = some b → KindAt w b T := by
  intro b hb
  rcases h.2 with ⟨rfl, _⟩ | ⟨g, cap, cur, rfl, _, hg, _⟩
  · simp [Value.ownBlock] at hb
  · simp only [Value.ownBlock, Option.some.injEq] at hb
    subst hb
    exact ⟨cur, hg⟩

/-- The block of an owned row where it holds something. -/
def ownBs (v : Value) (n : Nat) : List Nat := if n = 0 then [] else match v with | .slice (some a) _ _ => [a.block] | _ => []

theorem own_facts {w : World} {B T n size : Nat} {v : Value} {xs : List Value} (h : w.ownsRow B T size v n xs) (hv : v ≠ .slice none 0 0) :
    ∃ g cap, v = .slice (some ⟨g, 0, none⟩) n cap ∧ B ≤ g ∧ KindAt w g T ∧ n ≤ cap ∧ cap ≤ maxLen ∧ ∀ j u, xs[j]? = some u → w.cell? ⟨g, 0 + j, none⟩ = some u := by
  have hc := fun g => h.cells (g := g)
  rcases h.2 with ⟨h1, _⟩ | ⟨g, cap, cur, rfl, hB, hg, hnc, hcm, _⟩
  · exact absurd h1 hv
  · refine ⟨g, cap, rfl, hB, ⟨cur, hg⟩, hnc, hcm, fun j u hu => ?_⟩
    have := hc g rfl j u hu
    rwa [Addr.add_lit] at this
theorem own_room {w : World} {B T n size : Nat} {v : Value} {xs : List Value} (h : w.ownsRow B T size v n xs) (hv : v ≠ .slice none 0 0) : RoomAt w v size T B := by
  rcases h.2 with ⟨h1, _⟩ | ⟨g, cap, cur, rfl, hB, hg, hnc, hcm, hcs, _⟩
  · exact absurd h1 hv
  · exact ⟨g, n, cap, cur, rfl, hg, hB, hnc, hcm, hcs⟩

theorem ints_cells (xs : List Int) {j : Nat} (h : j < xs.length) : (xs.map fun x => Value.int .i64 x)[j]? = some (.int .i64 (xs[j]?.getD 0)) := by simp [h]
theorem own_ints {w : World} {B T : Nat} {v : Value} {xs : List Int} (h : w.ownsRow B T 1 v xs.length (xs.map fun x => Value.int .i64 x)) (hv : v ≠ .slice none 0 0) :
    IntsAt w v xs (ownBs v xs.length) ∧ RoomAt w v 1 T B ∧ (∀ b ∈ ownBs v xs.length, KindAt w b T ∧ B ≤ b) ∧ (ownBs v xs.length).Nodup := by
  have hrm := own_room h hv
  obtain ⟨g, cap, rfl, hB, hk, hnc, hcm, hc⟩ := own_facts h hv
  refine ⟨⟨_, cap, rfl, hnc, hcm, ?_⟩, hrm, ?_, ?_⟩
  · by_cases e : xs.length = 0
    · exact Or.inl ⟨e, by simp [ownBs, e]⟩
    · exact Or.inr ⟨g, 0, rfl, by simp [ownBs, e], hk.lt, fun i hi => hc i _ (ints_cells xs hi)⟩
  · intro b hb
    unfold ownBs at hb
    split at hb
    · simp at hb
    · have : b = g := by simpa using hb
      subst this; exact ⟨hk, hB⟩
  · unfold ownBs
    split <;> simp

def grCells (gs : List Gr) : List Value := gs.flatMap fun g => [.int .i64 g.ver, .int .i64 g.cel]
theorem grCells_len : ∀ gs : List Gr, (grCells gs).length = gs.length * 2
  | [] => rfl
  | g :: gs => by have := grCells_len gs; simp only [grCells, List.flatMap_cons, List.length_append, List.length_cons, List.length_nil] at *; omega
theorem grCells_at : ∀ (gs : List Gr) (j : Nat), j < gs.length → (grCells gs)[j * 2]? = some (.int .i64 (gs[j]?.getD gr0).ver) ∧ (grCells gs)[j * 2 + 1]? = some (.int .i64 (gs[j]?.getD gr0).cel)
  | [], j, h => by simp at h
  | g :: gs, 0, _ => ⟨rfl, rfl⟩
  | g :: gs, j + 1, h => by
    have := grCells_at gs j (by simpa using h)
    simp only [grCells, List.flatMap_cons] at this ⊢
    refine ⟨?_, ?_⟩
    · rw [List.getElem?_append_right (by simp; omega)]
      simp only [List.length_cons, List.length_nil]
      rw [show (j + 1) * 2 - (0 + 1 + 1) = j * 2 by omega, this.1]; simp
    · rw [List.getElem?_append_right (by simp; omega)]
      simp only [List.length_cons, List.length_nil]
      rw [show (j + 1) * 2 + 1 - (0 + 1 + 1) = j * 2 + 1 by omega, this.2]; simp
theorem own_grs {w : World} {B T : Nat} {v : Value} {gs : List Gr} (h : w.ownsRow B T 2 v gs.length (grCells gs)) (hv : v ≠ .slice none 0 0) :
    GrsAt w v gs (ownBs v gs.length) ∧ RoomAt w v 2 T B ∧ (∀ b ∈ ownBs v gs.length, KindAt w b T ∧ B ≤ b) ∧ (ownBs v gs.length).Nodup := by
  have hrm := own_room h hv
  obtain ⟨g, cap, rfl, hB, hk, hnc, hcm, hc⟩ := own_facts h hv
  refine ⟨⟨_, cap, rfl, hnc, hcm, ?_⟩, hrm, ?_, ?_⟩
  · by_cases e : gs.length = 0
    · exact Or.inl ⟨e, by simp [ownBs, e]⟩
    · exact Or.inr ⟨g, 0, rfl, by simp [ownBs, e], hk.lt, fun i hi => ⟨hc _ _ (grCells_at gs i hi).1, by have := hc _ _ (grCells_at gs i hi).2; rwa [← Nat.add_assoc] at this⟩⟩
  · intro b hb
    unfold ownBs at hb
    split at hb
    · simp at hb
    · have : b = g := by simpa using hb
      subst this; exact ⟨hk, hB⟩
  · unfold ownBs
    split <;> simp

theorem row_ints {w : World} {B T : Nat} {v : Value} {xs : List Int} {bs : List Nat} (h : RoomAt w v 1 T B) (hi : IntsAt w v xs bs) : w.ownsRow B T 1 v xs.length (xs.map fun x => Value.int .i64 x) := by
  obtain ⟨b, n, cap, cur, rfl, h1, h2, h3, h4, h5⟩ := h
  obtain ⟨a', c', hv, _, _, hi⟩ := hi
  simp only [Value.slice.injEq] at hv
  obtain ⟨rfl, rfl, rfl⟩ := hv
  refine ⟨by simp, Or.inr ⟨b, cap, cur, rfl, h2, h1, h3, h4, h5, List.ext_getElem? fun i => ?_⟩⟩
  by_cases e : i < xs.length
  · rcases hi with ⟨h0, _⟩ | ⟨b', o', he, _, _, hc⟩
    · omega
    · simp only [Option.some.injEq, Addr.mk.injEq, and_true] at he
      obtain ⟨rfl, rfl⟩ := he
      have := hc i e
      unfold World.cell? at this
      rw [h1] at this
      simp only [Nat.zero_add] at this
      rw [List.getElem?_take_of_lt (by omega), Array.getElem?_toList, ints_cells xs e]
      exact this
  · rw [List.getElem?_eq_none (by simp; omega), List.getElem?_eq_none (by simp; omega)]
theorem row_grs {w : World} {B T : Nat} {v : Value} {gs : List Gr} {bs : List Nat} (h : RoomAt w v 2 T B) (hi : GrsAt w v gs bs) : w.ownsRow B T 2 v gs.length (grCells gs) := by
  obtain ⟨b, n, cap, cur, rfl, h1, h2, h3, h4, h5⟩ := h
  obtain ⟨a', c', hv, _, _, hi⟩ := hi
  simp only [Value.slice.injEq] at hv
  obtain ⟨rfl, rfl, rfl⟩ := hv
  refine ⟨grCells_len gs, Or.inr ⟨b, cap, cur, rfl, h2, h1, h3, h4, h5, List.ext_getElem? fun i => ?_⟩⟩
  by_cases e : i < gs.length * 2
  · rcases hi with ⟨h0, _⟩ | ⟨b', o', he, _, _, hc⟩
    · omega
    · simp only [Option.some.injEq, Addr.mk.injEq, and_true] at he
      obtain ⟨rfl, rfl⟩ := he
      rw [List.getElem?_take_of_lt e, Array.getElem?_toList]
      have hc := hc (i / 2) (by omega)
      have hg := grCells_at gs (i / 2) (by omega)
      unfold World.cell? at hc
      rw [h1] at hc
      simp only [Nat.zero_add] at hc
      rcases Nat.mod_two_eq_zero_or_one i with h2 | h2
      · have e2 : i / 2 * 2 = i := by omega
        rw [e2] at hc hg
        exact hc.1.trans hg.1.symm
      · have e2 : i / 2 * 2 + 1 = i := by omega
        rw [e2] at hc hg
        exact hc.2.trans hg.2.symm
  · rw [List.getElem?_eq_none (by simp; omega), List.getElem?_eq_none (by rw [grCells_len]; omega)]

/-- 'append(T{}, xs...)': a row of the call's own, whatever xs is. -/
theorem wpList_append_copy {P : Program} (w : World) {ops : Array Oper} {rest : List Oper} {o : Oper} {a : Act} {Q : Exit → Act → World → Prop} (hgd : o.guard = none) (s x : Operand) (t : TypeId)
    (ho : o.op = .call { callee := .builtin .append, args := #[s, x], argTypes := #[t, t] })
    (base : Nat) (e : TypeId) (i : TypeInfo) (z : Value) (size bytes : Nat) (ht : P.underlying t = some (.slice e)) (hi : P.info? e = some i) (hz : i.zero = some z)
    (hsize : i.size = size) (hby : i.bytes = bytes) (hzs : z.cells.size = size) (hsz : 0 < size)
    (g : Nat) (hs : a.eval s = .slice (some ⟨g, 0, none⟩) 0 0) (hg : BlkIs w g [] e) (hbg : base ≤ g)
    (ao : Option Addr) (n c : Nat) (news : List Value) (hx : a.eval x = .slice ao n c) (hnone : ao = none → n = 0) (hl : news.length = n * size) (hnews : ∀ ad, ao = some ad → ∀ j u, news[j]? = some u → w.cell? (ad.add j) = some u)
    (h1 : ∀ u ∈ news, u.oneCell' = true) (h63 : n ≤ maxLen) (hbytes : n * bytes ≤ 140737488355328) (hbase : base ≤ w.heap.size)
    (h : ∀ v' w', w'.ownsRow base e size v' n news → w.grownBy w' (some g) → v' ≠ .slice none 0 0 → wpList P ops Q rest (a.put o.dst v') w') : wpList P ops Q (o :: rest) a w := by
  have hown : w.ownsRow base e size (.slice (some ⟨g, 0, none⟩) 0 0) 0 [] := ⟨by simp, .inr ⟨g, 0, #[], rfl, hbg, hg, Nat.le_refl _, Nat.zero_le _, by simp, by simp⟩⟩
  cases ao with
  | some ad =>
    refine wpList_append_own w hgd s x t ho base e i z size bytes ht hi hz hsize hby hzs hsz _ 0 [] hs hown ad n c news hx hl (hnews ad rfl) h1 (by omega) (by rw [Nat.zero_add]; exact hbytes) hbase fun v' w' h2 h3 h4 => ?_
    rw [Nat.zero_add, List.nil_append] at h2
    exact h v' w' h2 h3 fun e => by have := (h4.1 e).1; simp at this
  | none =>
    obtain rfl := hnone rfl
    have hnews0 : news = [] := List.eq_nil_of_length_eq_zero (by simpa using hl)
    subst hnews0
    refine wpList_plain hgd fun K hK => ?_
    have hrun : (Builtin.append_ #[t, t] o.type #[.slice (some ⟨g, 0, none⟩) 0 0, .slice none 0 c]).run P w = .ok (.slice (some ⟨g, 0, none⟩) 0 0) w := by
      simp [Builtin.append_, run_underlying ht, sizeOf, typeInfo, hi, Builtin.lenOf, Builtin.firstCells, storeCells]
    unfold Oper.wp
    simp [execOp, ho, resolve, invoke, builtin, hs, hx, hrun, Result.andThen]
    exact hK _ _ (h _ w hown (World.grownBy.refl _ _) (by simp))

theorem src_keep {wr W : World} {p : Addr} {u : Value} (h : wr.cell? p = some u) (hb : Below wr.heap.size wr W) : W.cell? p = some u := (hb.cell (World.block_lt_of_cell? wr p h)).trans h
/-- A block that is not the row that grew. -/
theorem BlkIs.grew {w w' : World} {b : Nat} {g : Option Nat} {c : List Value} {t : TypeId} (h : BlkIs w b c t) (hg : w.grownBy w' g) (hb : some b ≠ g) : BlkIs w' b c t := h.keep (hg.block b h.lt hb)
theorem grew_below {w w' : World} {g B : Nat} (hg : w.grownBy w' (some g)) (hB : B ≤ g) (hs : B ≤ w.heap.size) : Below B w w' := ⟨hg.os, hg.tape, hg.output, hg.size, fun k hk => hg.block k (by omega) fun e => by simp only [Option.some.injEq] at e; omega⟩
theorem BlkIs.new3 (w : World) (X Y : Obj) (c : List Value) (t : TypeId) : BlkIs (((w.alloc X).alloc Y).alloc (.cells c.toArray t)) (w.heap.size + 1 + 1) c t := by
  have := BlkIs.new ((w.alloc X).alloc Y) c t
  rwa [World.size_alloc, World.size_alloc] at this
theorem BlkIs.new2 (w : World) (X : Obj) (c : List Value) (t : TypeId) : BlkIs ((w.alloc X).alloc (.cells c.toArray t)) (w.heap.size + 1) c t := by
  have := BlkIs.new (w.alloc X) c t
  rwa [World.size_alloc] at this
theorem below3 (w : World) (X Y Z : Obj) : Below w.heap.size w (((w.alloc X).alloc Y).alloc Z) := (((Below.refl _ _).alloc (Nat.le_refl _) _).alloc (by simp) _).alloc (by simp; omega) _

theorem BlkIs.newS (w : World) (p : Addr) (u : Value) (c : List Value) (t : TypeId) : BlkIs ((w.setCell p u).alloc (.cells c.toArray t)) w.heap.size c t := by
  have := BlkIs.new (w.setCell p u) c t
  rwa [World.size_setCell] at this
theorem grownBy_set (w : World) (b o : Nat) (u : Value) : w.grownBy (w.setCell ⟨b, o, none⟩ u) (some b) := ⟨rfl, rfl, rfl, by simp, fun k _ hne => Below.heap_setCell _ _ _ _ fun (e : k = b) => hne (by rw [e])⟩
theorem own_set {w : World} {B T n size b o : Nat} {v : Value} {xs : List Value} (h : w.ownsRow B T size v n xs) (hb : v.ownBlock ≠ some b) (u : Value) : (w.setCell ⟨b, o, none⟩ u).ownsRow B T size v n xs := h.kept (grownBy_set w b o u) (Or.inr hb)
theorem lnVals_cells (w : World) (p : Addr) (q : Value) (l : Ln) (v1 v2 : Value) (t : TypeId) (j : Nat) (u : Value) (h : ([Value.int .i64 l.gone, v1, v2, .int .i64 l.drop] : List Value)[j]? = some u) : ((w.setCell p q).alloc (.cells #[.int .i64 l.gone, v1, v2, .int .i64 l.drop] t)).cell? ((⟨w.heap.size, 0, none⟩ : Addr).add j) = some u := by
  have hb := BlkIs.newS w p q [.int .i64 l.gone, v1, v2, .int .i64 l.drop] t
  rw [Addr.add_lit, Nat.zero_add]
  exact (hb.cell j).trans h

theorem lnVals_one (l : Ln) (a1 a2 : Option Addr) (n1 n2 c1 c2 : Nat) : ∀ u ∈ ([Value.int .i64 l.gone, .slice a1 n1 c1, .slice a2 n2 c2, .int .i64 l.drop] : List Value), u.oneCell' = true := by
  intro u hu
  simp only [List.mem_cons, List.not_mem_nil, or_false] at hu
  rcases hu with rfl | rfl | rfl | rfl <;> rfl

theorem RoomAt.mono {w : World} {v : Value} {sz B B' : Nat} {t : TypeId} (h : RoomAt w v sz t B) (hB : B' ≤ B) : RoomAt w v sz t B' := by
  obtain ⟨b, n, cap, cur, h1, h2, h3, h4⟩ := h
  exact ⟨b, n, cap, cur, h1, h2, Nat.le_trans hB h3, h4⟩

def lnOf (ls : List Ln) (j : Nat) : Ln := ls[j]?.getD ln0
def lnVals (l : Ln) (vw vg : Value) : List Value := [.int .i64 l.gone, vw, vg, .int .i64 l.drop]

structure CpInv (wr : World) (B T TW TG : Nat) (vl : Value) (k : Nat) (L : Nat → Ln) (VW VG : Nat → Value) (DW DG : Nat → List Nat) : Prop where
  own : wr.ownsRow B T 4 vl k ((List.range k).flatMap fun j => lnVals (L j) (VW j) (VG j))
  ints : ∀ j, j < k → IntsAt wr (VW j) (L j).way (DW j) ∧ RoomAt wr (VW j) 1 TW B
  grs : ∀ j, j < k → GrsAt wr (VG j) (L j).grs (DG j) ∧ RoomAt wr (VG j) 2 TG B
  kind : ∀ j, j < k → (∀ b ∈ DW j, KindAt wr b TW ∧ B ≤ b) ∧ ∀ b ∈ DG j, KindAt wr b TG ∧ B ≤ b
  nd : ((List.range k).flatMap fun j => DW j ++ DG j).Nodup
  apart : ∀ i j, i < k → j < k → i ≠ j → (VW i).ownBlock ≠ (VW j).ownBlock ∧ (VG i).ownBlock ≠ (VG j).ownBlock

theorem RoomAt.own {w : World} {v : Value} {sz B : Nat} {t : TypeId} (h : RoomAt w v sz t B) : ∃ b, v.ownBlock = some b ∧ KindAt w b t ∧ B ≤ b := by
  obtain ⟨b, n, cap, cur, rfl, h1, h2, _⟩ := h
  exact ⟨b, rfl, ⟨cur, h1⟩, h2⟩

theorem CpInv.start (w : World) (B T TW TG : Nat) (L : Nat → Ln) : CpInv w B T TW TG (.slice none 0 0) 0 L (fun _ => .slice none 0 0) (fun _ => .slice none 0 0) (fun _ => []) (fun _ => []) :=
  ⟨World.ownsRow_nil _ _ _ _, fun j hj => by omega, fun j hj => by omega, fun j hj => by omega, by simp, fun i j hi => by omega⟩

/-- What has turned: the lines' own row, and a block ahead of all. -/
theorem CpInv.keep {wr w' : World} {B T TW TG k : Nat} {vl : Value} {L : Nat → Ln} {VW VG : Nat → Value} {DW DG : Nat → List Nat} (h : CpInv wr B T TW TG vl k L VW VG DW DG) (hTW : T ≠ TW) (hTG : T ≠ TG)
    (hk : ∀ b, b < wr.heap.size → B ≤ b → some b ≠ vl.ownBlock → w'.heap[b]? = wr.heap[b]?) :
    (∀ j, j < k → IntsAt w' (VW j) (L j).way (DW j) ∧ RoomAt w' (VW j) 1 TW B) ∧ (∀ j, j < k → GrsAt w' (VG j) (L j).grs (DG j) ∧ RoomAt w' (VG j) 2 TG B) ∧
    (∀ j, j < k → (∀ b ∈ DW j, KindAt w' b TW ∧ B ≤ b) ∧ ∀ b ∈ DG j, KindAt w' b TG ∧ B ≤ b) := by
  have kw : ∀ b, KindAt wr b TW → B ≤ b → w'.heap[b]? = wr.heap[b]? := fun b hb hB => hk b hb.lt hB fun e => (own_kind h.own b e.symm).ne hb hTW rfl
  have kg : ∀ b, KindAt wr b TG → B ≤ b → w'.heap[b]? = wr.heap[b]? := fun b hb hB => hk b hb.lt hB fun e => (own_kind h.own b e.symm).ne hb hTG rfl
  refine ⟨fun j hj => ⟨(h.ints j hj).1.keep fun b hb => ?_, (h.ints j hj).2.keep kw⟩, fun j hj => ⟨(h.grs j hj).1.keep fun b hb => ?_, (h.grs j hj).2.keep kg⟩, fun j hj => ⟨fun b hb => ?_, fun b hb => ?_⟩⟩
  · have := (h.kind j hj).1 b hb; exact kw b this.1 this.2
  · have := (h.kind j hj).2 b hb; exact kg b this.1 this.2
  · have := (h.kind j hj).1 b hb; exact ⟨this.1.keep (kw b this.1 this.2), this.2⟩
  · have := (h.kind j hj).2 b hb; exact ⟨this.1.keep (kg b this.1 this.2), this.2⟩

theorem flat_upd {α : Type} (f : Nat → List α) (k : Nat) (x : List α) : (List.range (k + 1)).flatMap (fun j => if j = k then x else f j) = (List.range k).flatMap f ++ x := by
  rw [List.range_succ, List.flatMap_append]
  congr 1
  · rw [List.flatMap_def, List.flatMap_def]
    congr 1
    refine List.map_congr_left fun j hj => ?_
    rw [if_neg (by have := List.mem_range.1 hj; omega)]
  · simp

theorem CpInv.step {wr w' : World} {B T TW TG k : Nat} {vl v' vw vg : Value} {L : Nat → Ln} {VW VG : Nat → Value} {DW DG : Nat → List Nat} {dw dg : List Nat} (h : CpInv wr B T TW TG vl k L VW VG DW DG) (hTW : T ≠ TW) (hTG : T ≠ TG) (hWG : TW ≠ TG)
    (hk : ∀ b, b < wr.heap.size → B ≤ b → some b ≠ vl.ownBlock → w'.heap[b]? = wr.heap[b]?)
    (hown : w'.ownsRow B T 4 v' (k + 1) (((List.range k).flatMap fun j => lnVals (L j) (VW j) (VG j)) ++ lnVals (L k) vw vg))
    (hi : IntsAt w' vw (L k).way dw ∧ RoomAt w' vw 1 TW B) (hg : GrsAt w' vg (L k).grs dg ∧ RoomAt w' vg 2 TG B) (kw : ∀ b ∈ dw, KindAt w' b TW ∧ B ≤ b) (kg : ∀ b ∈ dg, KindAt w' b TG ∧ B ≤ b)
    (nw : dw.Nodup) (ng : dg.Nodup) (fw : ∀ b ∈ dw, wr.heap.size ≤ b) (fg : ∀ b ∈ dg, wr.heap.size ≤ b) (rw_ : ∀ b, vw.ownBlock = some b → wr.heap.size ≤ b) (rg_ : ∀ b, vg.ownBlock = some b → wr.heap.size ≤ b) :
    CpInv w' B T TW TG v' (k + 1) L (fun j => if j = k then vw else VW j) (fun j => if j = k then vg else VG j) (fun j => if j = k then dw else DW j) (fun j => if j = k then dg else DG j) := by
  obtain ⟨k1, k2, k3⟩ := h.keep hTW hTG hk
  have e1 : ((List.range (k + 1)).flatMap fun j => lnVals (L j) (if j = k then vw else VW j) (if j = k then vg else VG j)) = ((List.range k).flatMap fun j => lnVals (L j) (VW j) (VG j)) ++ lnVals (L k) vw vg := by
    rw [← flat_upd (fun j => lnVals (L j) (VW j) (VG j)) k]
    congr 1
    funext j
    by_cases e : j = k
    · subst e; simp
    · simp [e]
  have e2 : ((List.range (k + 1)).flatMap fun j => (if j = k then dw else DW j) ++ (if j = k then dg else DG j)) = ((List.range k).flatMap fun j => DW j ++ DG j) ++ (dw ++ dg) := by
    rw [← flat_upd (fun j => DW j ++ DG j) k]
    congr 1
    funext j
    by_cases e : j = k
    · subst e; simp
    · simp [e]
  refine ⟨by rw [e1]; exact hown, fun j hj => ?_, fun j hj => ?_, fun j hj => ?_, ?_, fun i j hi hj hne => ?_⟩
  · by_cases e : j = k
    · subst e; simp only [if_true]; exact hi
    · simp only [if_neg e]; exact k1 j (by omega)
  · by_cases e : j = k
    · subst e; simp only [if_true]; exact hg
    · simp only [if_neg e]; exact k2 j (by omega)
  · by_cases e : j = k
    · subst e; simp only [if_true]; exact ⟨kw, kg⟩
    · simp only [if_neg e]; exact k3 j (by omega)
  · rw [e2, List.nodup_append]
    refine ⟨h.nd, ?_, fun a ha b hb e => ?_⟩
    · rw [List.nodup_append]
      exact ⟨nw, ng, fun a ha b hb e => (kw a ha).1.ne (kg b hb).1 hWG e⟩
    · obtain ⟨j, hj, hm⟩ := List.mem_flatMap.1 ha
      have hj' := List.mem_range.1 hj
      have hlt : a < wr.heap.size := by
        rcases List.mem_append.1 hm with hm | hm
        · exact ((h.kind j hj').1 a hm).1.lt
        · exact ((h.kind j hj').2 a hm).1.lt
      have hge : wr.heap.size ≤ b := by
        rcases List.mem_append.1 hb with hb | hb
        · exact fw b hb
        · exact fg b hb
      omega
  · have old : ∀ q, q < k → (VW q).ownBlock ≠ vw.ownBlock ∧ (VG q).ownBlock ≠ vg.ownBlock := fun q hq => by
      obtain ⟨b, hb, hkb, _⟩ := (h.ints q hq).2.own
      obtain ⟨b', hb', hkb', _⟩ := (h.grs q hq).2.own
      refine ⟨fun e => ?_, fun e => ?_⟩
      · have := rw_ b (e.symm.trans hb); have := hkb.lt; omega
      · have := rg_ b' (e.symm.trans hb'); have := hkb'.lt; omega
    by_cases ei : i = k
    · subst ei
      have ej : j ≠ i := fun e => hne e.symm
      simp only [if_true, if_neg ej]
      have := old j (by omega)
      exact ⟨this.1.symm, this.2.symm⟩
    · by_cases ej : j = k
      · subst ej
        simp only [if_true, if_neg ei]
        exact old i (by omega)
      · simp only [if_neg ei, if_neg ej]
        exact h.apart i j (by omega) (by omega) hne

/-- The lines of a copy, as they lie: a row of their own. -/
theorem CpInv.lines {wr : World} {B T TW TG k : Nat} {vl : Value} {L : Nat → Ln} {VW VG : Nat → Value} {DW DG : Nat → List Nat} (h : CpInv wr B T TW TG vl k L VW VG DW DG) (hk : 0 < k) :
    ∃ b cap, vl = .slice (some ⟨b, 0, none⟩) k cap ∧ B ≤ b ∧ KindAt wr b T ∧ k ≤ cap ∧ cap ≤ maxLen ∧ ∀ j, j < k → wr.cell? ⟨b, j * 4, none⟩ = some (.int .i64 (L j).gone) ∧ wr.cell? ⟨b, j * 4 + 1, none⟩ = some (VW j) ∧ wr.cell? ⟨b, j * 4 + 2, none⟩ = some (VG j) ∧ wr.cell? ⟨b, j * 4 + 3, none⟩ = some (.int .i64 (L j).drop) := by
  have hv : vl ≠ .slice none 0 0 := by
    rintro rfl
    rcases h.own.2 with ⟨_, h0⟩ | ⟨g, cap, cur, hv, _⟩
    · omega
    · simp at hv
  obtain ⟨g, cap, rfl, hB, hkd, hnc, hcm, hc⟩ := own_facts h.own hv
  refine ⟨g, cap, rfl, hB, hkd, hnc, hcm, fun j hj => ?_⟩
  have h4 := (flat4 (fun j => lnVals (L j) (VW j) (VG j)) (fun _ => rfl) k).2 j
  have hcell : ∀ r u, r < 4 → (lnVals (L j) (VW j) (VG j))[r]? = some u → wr.cell? ⟨g, j * 4 + r, none⟩ = some u := fun r u hr hu => by
    have := hc (j * 4 + r) u (by rw [h4 r hj hr]; exact hu)
    rwa [Nat.zero_add] at this
  exact ⟨hcell 0 _ (by omega) rfl, hcell 1 _ (by omega) rfl, hcell 2 _ (by omega) rfl, hcell 3 _ (by omega) rfl⟩

theorem own_mono {w : World} {B B' T n size : Nat} {v : Value} {xs : List Value} (h : w.ownsRow B T size v n xs) (hB : B' ≤ B) : w.ownsRow B' T size v n xs := by
  refine ⟨h.1, ?_⟩
  rcases h.2 with h2 | ⟨g, cap, cur, h1, h2, h3⟩
  · exact Or.inl h2
  · exact Or.inr ⟨g, cap, cur, h1, Nat.le_trans hB h2, h3⟩
theorem CpInv.mono {wr : World} {B B' T TW TG k : Nat} {vl : Value} {L : Nat → Ln} {VW VG : Nat → Value} {DW DG : Nat → List Nat} (h : CpInv wr B T TW TG vl k L VW VG DW DG) (hB : B' ≤ B) : CpInv wr B' T TW TG vl k L VW VG DW DG :=
  ⟨own_mono h.own hB, fun j hj => ⟨(h.ints j hj).1, (h.ints j hj).2.mono hB⟩, fun j hj => ⟨(h.grs j hj).1, (h.grs j hj).2.mono hB⟩,
    fun j hj => ⟨fun b hb => ⟨((h.kind j hj).1 b hb).1, Nat.le_trans hB ((h.kind j hj).1 b hb).2⟩, fun b hb => ⟨((h.kind j hj).2 b hb).1, Nat.le_trans hB ((h.kind j hj).2 b hb).2⟩⟩, h.nd, h.apart⟩
/-- A store ahead of all that is owned. -/
theorem CpInv.set {wr : World} {B T TW TG k b o : Nat} {vl : Value} {L : Nat → Ln} {VW VG : Nat → Value} {DW DG : Nat → List Nat} (h : CpInv wr B T TW TG vl k L VW VG DW DG) (hTW : T ≠ TW) (hTG : T ≠ TG) (hb : b < B) (u : Value) : CpInv (wr.setCell ⟨b, o, none⟩ u) B T TW TG vl k L VW VG DW DG := by
  obtain ⟨k1, k2, k3⟩ := h.keep (w' := wr.setCell ⟨b, o, none⟩ u) hTW hTG (fun x _ hB _ => Below.heap_setCell _ _ _ _ (show x ≠ b by omega))
  exact ⟨own_set h.own (fun e => by have := h.own.lt _ e; omega) u, k1, k2, k3, h.nd, h.apart⟩
theorem CpInv.below {wr w' : World} {B T TW TG k : Nat} {vl : Value} {L : Nat → Ln} {VW VG : Nat → Value} {DW DG : Nat → List Nat} (h : CpInv wr B T TW TG vl k L VW VG DW DG) (hTW : T ≠ TW) (hTG : T ≠ TG) (hb : Below wr.heap.size wr w') : CpInv w' B T TW TG vl k L VW VG DW DG := by
  obtain ⟨k1, k2, k3⟩ := h.keep (w' := w') hTW hTG (fun x hx _ _ => hb.block x hx)
  exact ⟨h.own.kept (row := none) ⟨hb.os, hb.tape, hb.output, hb.size, fun k hk _ => hb.block k hk⟩ (by cases hv : vl.ownBlock <;> simp), k1, k2, k3, h.nd, h.apart⟩

end Go.Proofs.YtnaaheddhgpnoaaDoor
