import Derived.Test.YtnaaheddhgpnoaaDoorRef
namespace Go.Proofs.YtnaaheddhgpnoaaDoor
open Go.ChangeShapes Go.WideShapes Go.ChangeAt Go.RowKit

set_option maxHeartbeats 400000 in
theorem kindOf_1 (e : Ev) (w : World) (hop : e.op = 1) :
    Calls Tryd.prog 71 #[.agg #[.int .i64 e.op, .int .i64 e.train, .int .i64 e.n]] w fun r w' => r = .returned (.iface 146 (.agg #[.int .i64 e.n])) ∧ Below w.heap.size w w' := by
  have p1 : (e.op == 1) = true := by simp [hop]
  have p2 : (e.op == 2) = false := by simp [hop]
  have p3 : (e.op == 3) = false := by simp [hop]
  have p4 : (e.op == 4) = false := by simp [hop]
  clear hop
  go_enter Tryd.func71, Tryd.ntmps71
  go_wp2
  go_ret
  exact ⟨rfl, (Below.refl _ _).alloc (Nat.le_refl _) _⟩

set_option maxHeartbeats 400000 in
theorem kindOf_2 (e : Ev) (w : World) (hop : e.op = 2) :
    Calls Tryd.prog 71 #[.agg #[.int .i64 e.op, .int .i64 e.train, .int .i64 e.n]] w fun r w' => r = .returned (.iface 148 (.agg #[.int .i64 e.n])) ∧ Below w.heap.size w w' := by
  have p1 : (e.op == 1) = false := by simp [hop]
  have p2 : (e.op == 2) = true := by simp [hop]
  have p3 : (e.op == 3) = false := by simp [hop]
  have p4 : (e.op == 4) = false := by simp [hop]
  clear hop
  go_enter Tryd.func71, Tryd.ntmps71
  go_wp2
  go_ret
  exact ⟨rfl, (Below.refl _ _).alloc (Nat.le_refl _) _⟩

set_option maxHeartbeats 400000 in
theorem kindOf_3 (e : Ev) (w : World) (hop : e.op = 3) :
    Calls Tryd.prog 71 #[.agg #[.int .i64 e.op, .int .i64 e.train, .int .i64 e.n]] w fun r w' => r = .returned (.iface 150 (.agg #[.int .i64 e.n])) ∧ Below w.heap.size w w' := by
  have p1 : (e.op == 1) = false := by simp [hop]
  have p2 : (e.op == 2) = false := by simp [hop]
  have p3 : (e.op == 3) = true := by simp [hop]
  have p4 : (e.op == 4) = false := by simp [hop]
  clear hop
  go_enter Tryd.func71, Tryd.ntmps71
  go_wp2
  go_ret
  exact ⟨rfl, (Below.refl _ _).alloc (Nat.le_refl _) _⟩

set_option maxHeartbeats 400000 in
theorem kindOf_4 (e : Ev) (w : World) (hop : e.op = 4) :
    Calls Tryd.prog 71 #[.agg #[.int .i64 e.op, .int .i64 e.train, .int .i64 e.n]] w fun r w' => r = .returned (.iface 152 (.agg #[.int .i64 e.n])) ∧ Below w.heap.size w w' := by
  have p1 : (e.op == 1) = false := by simp [hop]
  have p2 : (e.op == 2) = false := by simp [hop]
  have p3 : (e.op == 3) = false := by simp [hop]
  have p4 : (e.op == 4) = true := by simp [hop]
  clear hop
  go_enter Tryd.func71, Tryd.ntmps71
  go_wp2
  go_ret
  exact ⟨rfl, (Below.refl _ _).alloc (Nat.le_refl _) _⟩

set_option maxHeartbeats 400000 in
theorem kindOf_5 (e : Ev) (w : World) (hop : e.op = 5) :
    Calls Tryd.prog 71 #[.agg #[.int .i64 e.op, .int .i64 e.train, .int .i64 e.n]] w fun r w' => r = .returned (.iface 153 (.agg #[.int .i64 e.n])) ∧ Below w.heap.size w w' := by
  have p1 : (e.op == 1) = false := by simp [hop]
  have p2 : (e.op == 2) = false := by simp [hop]
  have p3 : (e.op == 3) = false := by simp [hop]
  have p4 : (e.op == 4) = false := by simp [hop]
  clear hop
  go_enter Tryd.func71, Tryd.ntmps71
  go_wp2
  go_ret
  exact ⟨rfl, (Below.refl _ _).alloc (Nat.le_refl _) _⟩

end Go.Proofs.YtnaaheddhgpnoaaDoor
