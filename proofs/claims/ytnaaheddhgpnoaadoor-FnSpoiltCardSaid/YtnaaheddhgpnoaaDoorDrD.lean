import Derived.Test.YtnaaheddhgpnoaaDoorData
namespace Go.Proofs.YtnaaheddhgpnoaaDoor

/-- What a book must have so that events can be drawn from it. -/
structure DrawOk (k : Bk) : Prop where
  few : k.lns.length ≤ 20
  sec : k.sec ≤ 1000
  way : ∀ i, i < k.lns.length → (k.lns[i]?.getD ln0).way.length ≤ 1000
  grs : ∀ i, i < k.lns.length → 1 ≤ (k.lns[i]?.getD ln0).grs.length ∧ (k.lns[i]?.getD ln0).grs.length ≤ 1000

end Go.Proofs.YtnaaheddhgpnoaaDoor
