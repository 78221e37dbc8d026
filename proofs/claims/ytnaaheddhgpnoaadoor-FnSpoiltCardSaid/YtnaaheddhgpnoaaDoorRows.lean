/-
  NARROWER THAN 'FOR EVERY INPUT', by the rows' own cells (each row's printed sentence says how): FnTop: ifaces, laid · FnAlone: ifaces, laid · FnBack: ifaces, laid · FnTwo: ifaces, laid · FnSpoilt: ifaces, laid · FnExactDo: ifaces, laid.
  DERIVED. THE GIVEN ROWS OF THIS SEAT. 6 by the template 'for every input the law returns true; each argument reads behind the call as it read before'; 0 by the template 'total and deterministic' (their statements: YtnaaheddhgpnoaaDoorTotals.lean).
  GIVEN WITH THE SEED: the statements are not yours to turn. If you find one false, say at which input.
  Laid BY PROGRAM, IN A SANDBOX (cutbox-rows.mjs): the forced cells as the released guide's own fill.sh prints them over the translation b6f021d792f5a888… (all of the seat's roots in one cut). By AI agents, Wed Nov 11 2026. No macro, syntax, notation, axiom, sorry.
-/
import Derived.Test.YtnaaheddhgpnoaaDoorChecked
import GoSem.Claim
import GoSem.ClaimJoined
import GoSem.ClaimMapViews
import Derived.JoinedTies
import Derived.KernelRfl
namespace Go.Proofs.YtnaaheddhgpnoaaDoor
/- THE CELL 'sum', in the pinned program and in every row, IS THE sha256 OF THE DUMP (.gsa) THAT YtnaaheddhgpnoaaDoorProg.lean LOADS. Nothing in Lean hashes anything: it is a label: what it is worth is what the hold of that sum in a sandbox is worth. -/
noncomputable def Tryd.pinned : Pinned := { name := "ytnaaheddhgpnoaadoor", sum := "b6f021d792f5a8880a540e27d74ea52cbf4def764a49c24ebf2b8f45968820de", checked := Tryd.checked }
namespace Rows
def none {H : Type} : Left H := { results := [], args := [] }

/- WHAT THE LISTED PACKAGE-LEVEL VARIABLES READ AS WHEN THE CALL BEGINS. Each datum BY PROGRAM (the guide's laid-datum.mjs) off the statement by which the dump's own 'gosem.cut.vars' lays the variable. In a bare row this is a premise. The card (YtnaaheddhgpnoaaDoorCards.lean) ties it to the program's text. -/
def laid_loop_example_tether_impl_errNoEvent {H : Type} : DataW H := .iface "*errors.errorString" (.ptr (.agg [.lit (.string [116, 104, 101, 114, 101, 32, 105, 115, 32, 110, 111, 32, 115, 117, 99, 104, 32, 116, 104, 105, 110, 103, 32, 116, 111, 32, 100, 111])]))
def laid_loop_example_tether_impl_errUnfit {H : Type} : DataW H := .iface "*errors.errorString" (.ptr (.agg [.lit (.string [116, 104, 101, 32, 110, 117, 109, 98, 101, 114, 32, 100, 111, 101, 115, 32, 110, 111, 116, 32, 102, 105, 116, 32, 116, 104, 101, 32, 108, 105, 110, 101])]))
def laid_loop_example_tether_impl_errBound {H : Type} : DataW H := .iface "*errors.errorString" (.ptr (.agg [.lit (.string [119, 104, 97, 116, 32, 116, 104, 101, 32, 116, 114, 97, 105, 110, 32, 99, 97, 110, 32, 104, 97, 118, 101, 44, 32, 111, 114, 32, 105, 115, 32, 116, 111, 32, 103, 105, 118, 101, 32, 98, 97, 99, 107, 44, 32, 102, 111, 114, 98, 105, 100, 115, 32, 105, 116])]))

/-- 'laws.FnTop': WHATEVER THE INPUT: true; the input reads as it did. -/
def fnTopSpec : ChangeSpec := { name := "fnTop", vars := ["loop.example/tether/impl.errNoEvent", "loop.example/tether/impl.errUnfit", "loop.example/tether/impl.errBound"], fn := fun _ => fun
  | [d, g1, g2, g3] => { results := [.lit (.bool true)], args := [d], vars := [g1, g2, g3] }
  | _ => none }
def fnTopRow : OpenClaim := { program := "ytnaaheddhgpnoaadoor", sum := "b6f021d792f5a8880a540e27d74ea52cbf4def764a49c24ebf2b8f45968820de", func := "loop.example/tether/laws.FnTop", spec := "fnTop", inPlace := ["internal/reflectlite.TypeOf"], unfollowed := true, recurses := true, named := ["loop.example/tether/impl.errNoEvent", "loop.example/tether/impl.errUnfit", "loop.example/tether/impl.errBound"], ifaces := true, apart := false, laid := [("loop.example/tether/impl.errNoEvent", laid_loop_example_tether_impl_errNoEvent), ("loop.example/tether/impl.errUnfit", laid_loop_example_tether_impl_errUnfit), ("loop.example/tether/impl.errBound", laid_loop_example_tether_impl_errBound)] }
def FnTopSaid : Prop := fnTopRow.holds Tryd.pinned (OpenSpec.ofChange fnTopSpec)

/-- ITS FALSE NEIGHBOUR: 'it returns false'. Refute it at one input. -/
def fnTopWrong : ChangeSpec := { name := "fnTop", vars := ["loop.example/tether/impl.errNoEvent", "loop.example/tether/impl.errUnfit", "loop.example/tether/impl.errBound"], fn := fun _ => fun
  | [d, g1, g2, g3] => { results := [.lit (.bool false)], args := [d], vars := [g1, g2, g3] }
  | _ => none }
def FnTopWrongFalsely : Prop := fnTopRow.holds Tryd.pinned (OpenSpec.ofChange fnTopWrong)

/-- 'laws.FnAlone': WHATEVER THE INPUT: true; the input reads as it did. -/
def fnAloneSpec : ChangeSpec := { name := "fnAlone", vars := ["loop.example/tether/impl.errNoEvent", "loop.example/tether/impl.errUnfit", "loop.example/tether/impl.errBound"], fn := fun _ => fun
  | [d, g1, g2, g3] => { results := [.lit (.bool true)], args := [d], vars := [g1, g2, g3] }
  | _ => none }
def fnAloneRow : OpenClaim := { program := "ytnaaheddhgpnoaadoor", sum := "b6f021d792f5a8880a540e27d74ea52cbf4def764a49c24ebf2b8f45968820de", func := "loop.example/tether/laws.FnAlone", spec := "fnAlone", inPlace := ["internal/reflectlite.TypeOf"], unfollowed := true, recurses := true, named := ["loop.example/tether/impl.errNoEvent", "loop.example/tether/impl.errUnfit", "loop.example/tether/impl.errBound"], ifaces := true, apart := false, laid := [("loop.example/tether/impl.errNoEvent", laid_loop_example_tether_impl_errNoEvent), ("loop.example/tether/impl.errUnfit", laid_loop_example_tether_impl_errUnfit), ("loop.example/tether/impl.errBound", laid_loop_example_tether_impl_errBound)] }
def FnAloneSaid : Prop := fnAloneRow.holds Tryd.pinned (OpenSpec.ofChange fnAloneSpec)

/-- ITS FALSE NEIGHBOUR: 'it returns false'. Refute it at one input. -/
def fnAloneWrong : ChangeSpec := { name := "fnAlone", vars := ["loop.example/tether/impl.errNoEvent", "loop.example/tether/impl.errUnfit", "loop.example/tether/impl.errBound"], fn := fun _ => fun
  | [d, g1, g2, g3] => { results := [.lit (.bool false)], args := [d], vars := [g1, g2, g3] }
  | _ => none }
def FnAloneWrongFalsely : Prop := fnAloneRow.holds Tryd.pinned (OpenSpec.ofChange fnAloneWrong)

/-- 'laws.FnBack': WHATEVER THE INPUT: true; the input reads as it did. -/
def fnBackSpec : ChangeSpec := { name := "fnBack", vars := ["loop.example/tether/impl.errNoEvent", "loop.example/tether/impl.errUnfit", "loop.example/tether/impl.errBound"], fn := fun _ => fun
  | [d, g1, g2, g3] => { results := [.lit (.bool true)], args := [d], vars := [g1, g2, g3] }
  | _ => none }
def fnBackRow : OpenClaim := { program := "ytnaaheddhgpnoaadoor", sum := "b6f021d792f5a8880a540e27d74ea52cbf4def764a49c24ebf2b8f45968820de", func := "loop.example/tether/laws.FnBack", spec := "fnBack", inPlace := ["internal/reflectlite.TypeOf"], unfollowed := true, recurses := true, named := ["loop.example/tether/impl.errNoEvent", "loop.example/tether/impl.errUnfit", "loop.example/tether/impl.errBound"], ifaces := true, apart := false, laid := [("loop.example/tether/impl.errNoEvent", laid_loop_example_tether_impl_errNoEvent), ("loop.example/tether/impl.errUnfit", laid_loop_example_tether_impl_errUnfit), ("loop.example/tether/impl.errBound", laid_loop_example_tether_impl_errBound)] }
def FnBackSaid : Prop := fnBackRow.holds Tryd.pinned (OpenSpec.ofChange fnBackSpec)

/-- ITS FALSE NEIGHBOUR: 'it returns false'. Refute it at one input. -/
def fnBackWrong : ChangeSpec := { name := "fnBack", vars := ["loop.example/tether/impl.errNoEvent", "loop.example/tether/impl.errUnfit", "loop.example/tether/impl.errBound"], fn := fun _ => fun
  | [d, g1, g2, g3] => { results := [.lit (.bool false)], args := [d], vars := [g1, g2, g3] }
  | _ => none }
def FnBackWrongFalsely : Prop := fnBackRow.holds Tryd.pinned (OpenSpec.ofChange fnBackWrong)

/-- 'laws.FnTwo': WHATEVER THE INPUT: true; the input reads as it did. -/
def fnTwoSpec : ChangeSpec := { name := "fnTwo", vars := ["loop.example/tether/impl.errBound", "loop.example/tether/impl.errUnfit", "loop.example/tether/impl.errNoEvent"], fn := fun _ => fun
  | [d, g1, g2, g3] => { results := [.lit (.bool true)], args := [d], vars := [g1, g2, g3] }
  | _ => none }
def fnTwoRow : OpenClaim := { program := "ytnaaheddhgpnoaadoor", sum := "b6f021d792f5a8880a540e27d74ea52cbf4def764a49c24ebf2b8f45968820de", func := "loop.example/tether/laws.FnTwo", spec := "fnTwo", inPlace := ["(*sync.WaitGroup).Add", "internal/race.ReleaseMerge", "internal/race.Disable", "internal/race.Enable", "internal/synctest.IsInBubble", "internal/synctest.Associate[sync.WaitGroup]", "sync.fatal", "sync/atomic.OrUint64", "sync/atomic.AddUint64", "internal/race.Read", "sync/atomic.LoadUint64", "sync/atomic.StoreUint64", "internal/synctest.Disassociate[sync.WaitGroup]", "sync.runtime_Semrelease", "(*sync.WaitGroup).Done", "(*sync.WaitGroup).Wait", "internal/race.Acquire", "internal/synctest.IsAssociated[sync.WaitGroup]", "sync/atomic.CompareAndSwapUint64", "internal/race.Write", "sync.runtime_SemacquireWaitGroup", "internal/reflectlite.TypeOf"], unfollowed := true, recurses := true, named := ["loop.example/tether/impl.errBound", "loop.example/tether/impl.errUnfit", "loop.example/tether/impl.errNoEvent"], ifaces := true, apart := false, laid := [("loop.example/tether/impl.errNoEvent", laid_loop_example_tether_impl_errNoEvent), ("loop.example/tether/impl.errUnfit", laid_loop_example_tether_impl_errUnfit), ("loop.example/tether/impl.errBound", laid_loop_example_tether_impl_errBound)] }
def FnTwoSaid : Prop := fnTwoRow.holds Tryd.pinned (OpenSpec.ofChange fnTwoSpec)

/-- ITS FALSE NEIGHBOUR: 'it returns false'. Refute it at one input. -/
def fnTwoWrong : ChangeSpec := { name := "fnTwo", vars := ["loop.example/tether/impl.errBound", "loop.example/tether/impl.errUnfit", "loop.example/tether/impl.errNoEvent"], fn := fun _ => fun
  | [d, g1, g2, g3] => { results := [.lit (.bool false)], args := [d], vars := [g1, g2, g3] }
  | _ => none }
def FnTwoWrongFalsely : Prop := fnTwoRow.holds Tryd.pinned (OpenSpec.ofChange fnTwoWrong)

/-- 'laws.FnSpoilt': WHATEVER THE INPUT: true; the input reads as it did. -/
def fnSpoiltSpec : ChangeSpec := { name := "fnSpoilt", vars := ["loop.example/tether/impl.errNoEvent", "loop.example/tether/impl.errUnfit", "loop.example/tether/impl.errBound"], fn := fun _ => fun
  | [d, g1, g2, g3] => { results := [.lit (.bool true)], args := [d], vars := [g1, g2, g3] }
  | _ => none }
def fnSpoiltRow : OpenClaim := { program := "ytnaaheddhgpnoaadoor", sum := "b6f021d792f5a8880a540e27d74ea52cbf4def764a49c24ebf2b8f45968820de", func := "loop.example/tether/laws.FnSpoilt", spec := "fnSpoilt", inPlace := ["internal/reflectlite.TypeOf"], unfollowed := true, recurses := true, named := ["loop.example/tether/impl.errNoEvent", "loop.example/tether/impl.errUnfit", "loop.example/tether/impl.errBound"], ifaces := true, apart := false, laid := [("loop.example/tether/impl.errNoEvent", laid_loop_example_tether_impl_errNoEvent), ("loop.example/tether/impl.errUnfit", laid_loop_example_tether_impl_errUnfit), ("loop.example/tether/impl.errBound", laid_loop_example_tether_impl_errBound)] }
def FnSpoiltSaid : Prop := fnSpoiltRow.holds Tryd.pinned (OpenSpec.ofChange fnSpoiltSpec)

/-- ITS FALSE NEIGHBOUR: 'it returns false'. Refute it at one input. -/
def fnSpoiltWrong : ChangeSpec := { name := "fnSpoilt", vars := ["loop.example/tether/impl.errNoEvent", "loop.example/tether/impl.errUnfit", "loop.example/tether/impl.errBound"], fn := fun _ => fun
  | [d, g1, g2, g3] => { results := [.lit (.bool false)], args := [d], vars := [g1, g2, g3] }
  | _ => none }
def FnSpoiltWrongFalsely : Prop := fnSpoiltRow.holds Tryd.pinned (OpenSpec.ofChange fnSpoiltWrong)

/-- 'laws.FnExactDo': WHATEVER THE INPUT: true; the input reads as it did. -/
def fnExactDoSpec : ChangeSpec := { name := "fnExactDo", vars := ["loop.example/tether/impl.errNoEvent", "loop.example/tether/impl.errUnfit", "loop.example/tether/impl.errBound"], fn := fun _ => fun
  | [d1, d2, g1, g2, g3] => { results := [.lit (.bool true)], args := [d1, d2], vars := [g1, g2, g3] }
  | _ => none }
def fnExactDoRow : OpenClaim := { program := "ytnaaheddhgpnoaadoor", sum := "b6f021d792f5a8880a540e27d74ea52cbf4def764a49c24ebf2b8f45968820de", func := "loop.example/tether/laws.FnExactDo", spec := "fnExactDo", inPlace := ["internal/reflectlite.TypeOf"], unfollowed := true, recurses := true, named := ["loop.example/tether/impl.errNoEvent", "loop.example/tether/impl.errUnfit", "loop.example/tether/impl.errBound"], ifaces := true, apart := false, laid := [("loop.example/tether/impl.errNoEvent", laid_loop_example_tether_impl_errNoEvent), ("loop.example/tether/impl.errUnfit", laid_loop_example_tether_impl_errUnfit), ("loop.example/tether/impl.errBound", laid_loop_example_tether_impl_errBound)] }
def FnExactDoSaid : Prop := fnExactDoRow.holds Tryd.pinned (OpenSpec.ofChange fnExactDoSpec)

/-- ITS FALSE NEIGHBOUR: 'it returns false'. Refute it at one input. -/
def fnExactDoWrong : ChangeSpec := { name := "fnExactDo", vars := ["loop.example/tether/impl.errNoEvent", "loop.example/tether/impl.errUnfit", "loop.example/tether/impl.errBound"], fn := fun _ => fun
  | [d1, d2, g1, g2, g3] => { results := [.lit (.bool false)], args := [d1, d2], vars := [g1, g2, g3] }
  | _ => none }
def FnExactDoWrongFalsely : Prop := fnExactDoRow.holds Tryd.pinned (OpenSpec.ofChange fnExactDoWrong)

/- THE SECOND FORM. 'bulk': how many values and letters a reading holds, each counted each time it is reached (what is shared counts as often as it is met; a slice's spare places count too). A statement '..UptoSaid' is the law's where the arguments, and the package variables that the reading takes, are together of bulk at most 1048576: NARROWER than '..Said'. Prove '..Said' where nothing that the law and all that it calls make is longer than what came in: it says more and counts as full. Else prove '..UptoSaid'. A law counts once. -/
mutual
def uptoBulk {H : Type} : DataW H → Nat
  | .lit (.string bytes) => bytes.length + 1
  | .lit _ => 1
  | .nil => 1
  | .ptr d => uptoBulk d + 1
  | .slice elems spare => uptoBulkAll elems + uptoBulkAll spare + 1
  | .agg parts => uptoBulkAll parts + 1
  | .iface _ d => uptoBulk d + 1
  | .map entries => uptoBulkEntries entries + 1
  | .held _ => 1
def uptoBulkAll {H : Type} : List (DataW H) → Nat
  | [] => 0
  | d :: r => uptoBulk d + uptoBulkAll r
def uptoBulkEntries {H : Type} : List (Lit × DataW H) → Nat
  | [] => 0
  | x :: r => uptoBulkEntry x + uptoBulkEntries r
def uptoBulkEntry {H : Type} : Lit × DataW H → Nat
  | (.string bytes, d) => bytes.length + uptoBulk d + 1
  | (_, d) => uptoBulk d + 1
 end
def uptoSmall : (H : Type) → List (DataW H) → Bool := fun _ ds => decide (uptoBulkAll ds ≤ 1048576)
def OpenSpec.upto (s : _root_.Go.ChangeSpec) : _root_.Go.OpenSpec := { _root_.Go.OpenSpec.ofChange s with cond := some uptoSmall }

/-- 'laws.FnTop', WHERE WHAT IT READS IS OF BULK AT MOST 1048576: true; the input reads as it did. -/
def fnTopUptoRow : OpenClaim := { program := "ytnaaheddhgpnoaadoor", sum := "b6f021d792f5a8880a540e27d74ea52cbf4def764a49c24ebf2b8f45968820de", func := "loop.example/tether/laws.FnTop", spec := "fnTop", inPlace := ["internal/reflectlite.TypeOf"], unfollowed := true, recurses := true, named := ["loop.example/tether/impl.errNoEvent", "loop.example/tether/impl.errUnfit", "loop.example/tether/impl.errBound"], ifaces := true, apart := false, laid := [("loop.example/tether/impl.errNoEvent", laid_loop_example_tether_impl_errNoEvent), ("loop.example/tether/impl.errUnfit", laid_loop_example_tether_impl_errUnfit), ("loop.example/tether/impl.errBound", laid_loop_example_tether_impl_errBound)], narrowed := true }
def FnTopUptoSaid : Prop := fnTopUptoRow.holds Tryd.pinned (OpenSpec.upto fnTopSpec)

/-- 'laws.FnAlone', WHERE WHAT IT READS IS OF BULK AT MOST 1048576: true; the input reads as it did. -/
def fnAloneUptoRow : OpenClaim := { program := "ytnaaheddhgpnoaadoor", sum := "b6f021d792f5a8880a540e27d74ea52cbf4def764a49c24ebf2b8f45968820de", func := "loop.example/tether/laws.FnAlone", spec := "fnAlone", inPlace := ["internal/reflectlite.TypeOf"], unfollowed := true, recurses := true, named := ["loop.example/tether/impl.errNoEvent", "loop.example/tether/impl.errUnfit", "loop.example/tether/impl.errBound"], ifaces := true, apart := false, laid := [("loop.example/tether/impl.errNoEvent", laid_loop_example_tether_impl_errNoEvent), ("loop.example/tether/impl.errUnfit", laid_loop_example_tether_impl_errUnfit), ("loop.example/tether/impl.errBound", laid_loop_example_tether_impl_errBound)], narrowed := true }
def FnAloneUptoSaid : Prop := fnAloneUptoRow.holds Tryd.pinned (OpenSpec.upto fnAloneSpec)

/-- 'laws.FnBack', WHERE WHAT IT READS IS OF BULK AT MOST 1048576: true; the input reads as it did. -/
def fnBackUptoRow : OpenClaim := { program := "ytnaaheddhgpnoaadoor", sum := "b6f021d792f5a8880a540e27d74ea52cbf4def764a49c24ebf2b8f45968820de", func := "loop.example/tether/laws.FnBack", spec := "fnBack", inPlace := ["internal/reflectlite.TypeOf"], unfollowed := true, recurses := true, named := ["loop.example/tether/impl.errNoEvent", "loop.example/tether/impl.errUnfit", "loop.example/tether/impl.errBound"], ifaces := true, apart := false, laid := [("loop.example/tether/impl.errNoEvent", laid_loop_example_tether_impl_errNoEvent), ("loop.example/tether/impl.errUnfit", laid_loop_example_tether_impl_errUnfit), ("loop.example/tether/impl.errBound", laid_loop_example_tether_impl_errBound)], narrowed := true }
def FnBackUptoSaid : Prop := fnBackUptoRow.holds Tryd.pinned (OpenSpec.upto fnBackSpec)

/-- 'laws.FnTwo', WHERE WHAT IT READS IS OF BULK AT MOST 1048576: true; the input reads as it did. -/
def fnTwoUptoRow : OpenClaim := { program := "ytnaaheddhgpnoaadoor", sum := "b6f021d792f5a8880a540e27d74ea52cbf4def764a49c24ebf2b8f45968820de", func := "loop.example/tether/laws.FnTwo", spec := "fnTwo", inPlace := ["(*sync.WaitGroup).Add", "internal/race.ReleaseMerge", "internal/race.Disable", "internal/race.Enable", "internal/synctest.IsInBubble", "internal/synctest.Associate[sync.WaitGroup]", "sync.fatal", "sync/atomic.OrUint64", "sync/atomic.AddUint64", "internal/race.Read", "sync/atomic.LoadUint64", "sync/atomic.StoreUint64", "internal/synctest.Disassociate[sync.WaitGroup]", "sync.runtime_Semrelease", "(*sync.WaitGroup).Done", "(*sync.WaitGroup).Wait", "internal/race.Acquire", "internal/synctest.IsAssociated[sync.WaitGroup]", "sync/atomic.CompareAndSwapUint64", "internal/race.Write", "sync.runtime_SemacquireWaitGroup", "internal/reflectlite.TypeOf"], unfollowed := true, recurses := true, named := ["loop.example/tether/impl.errBound", "loop.example/tether/impl.errUnfit", "loop.example/tether/impl.errNoEvent"], ifaces := true, apart := false, laid := [("loop.example/tether/impl.errNoEvent", laid_loop_example_tether_impl_errNoEvent), ("loop.example/tether/impl.errUnfit", laid_loop_example_tether_impl_errUnfit), ("loop.example/tether/impl.errBound", laid_loop_example_tether_impl_errBound)], narrowed := true }
def FnTwoUptoSaid : Prop := fnTwoUptoRow.holds Tryd.pinned (OpenSpec.upto fnTwoSpec)

/-- 'laws.FnSpoilt', WHERE WHAT IT READS IS OF BULK AT MOST 1048576: true; the input reads as it did. -/
def fnSpoiltUptoRow : OpenClaim := { program := "ytnaaheddhgpnoaadoor", sum := "b6f021d792f5a8880a540e27d74ea52cbf4def764a49c24ebf2b8f45968820de", func := "loop.example/tether/laws.FnSpoilt", spec := "fnSpoilt", inPlace := ["internal/reflectlite.TypeOf"], unfollowed := true, recurses := true, named := ["loop.example/tether/impl.errNoEvent", "loop.example/tether/impl.errUnfit", "loop.example/tether/impl.errBound"], ifaces := true, apart := false, laid := [("loop.example/tether/impl.errNoEvent", laid_loop_example_tether_impl_errNoEvent), ("loop.example/tether/impl.errUnfit", laid_loop_example_tether_impl_errUnfit), ("loop.example/tether/impl.errBound", laid_loop_example_tether_impl_errBound)], narrowed := true }
def FnSpoiltUptoSaid : Prop := fnSpoiltUptoRow.holds Tryd.pinned (OpenSpec.upto fnSpoiltSpec)

/-- 'laws.FnExactDo', WHERE WHAT IT READS IS OF BULK AT MOST 1048576: true; the input reads as it did. -/
def fnExactDoUptoRow : OpenClaim := { program := "ytnaaheddhgpnoaadoor", sum := "b6f021d792f5a8880a540e27d74ea52cbf4def764a49c24ebf2b8f45968820de", func := "loop.example/tether/laws.FnExactDo", spec := "fnExactDo", inPlace := ["internal/reflectlite.TypeOf"], unfollowed := true, recurses := true, named := ["loop.example/tether/impl.errNoEvent", "loop.example/tether/impl.errUnfit", "loop.example/tether/impl.errBound"], ifaces := true, apart := false, laid := [("loop.example/tether/impl.errNoEvent", laid_loop_example_tether_impl_errNoEvent), ("loop.example/tether/impl.errUnfit", laid_loop_example_tether_impl_errUnfit), ("loop.example/tether/impl.errBound", laid_loop_example_tether_impl_errBound)], narrowed := true }
def FnExactDoUptoSaid : Prop := fnExactDoUptoRow.holds Tryd.pinned (OpenSpec.upto fnExactDoSpec)

end Rows
end Go.Proofs.YtnaaheddhgpnoaaDoor
