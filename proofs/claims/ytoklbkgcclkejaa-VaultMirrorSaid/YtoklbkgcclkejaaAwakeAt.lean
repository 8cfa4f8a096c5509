/- The interpreter's run of a closed function, at the places where its pieces meet. -/
import Derived.Test.YtoklbkgcclkejaaAbsTab
import Derived.Test.YtoklbkgcclkejaaAbsPiece
namespace Go.Proofs.Ytoklbkgcclkejaa.awake
open Go.Abs
noncomputable section
abbrev l (c:List AV)(z:Nat):Heap:=.node .nil (some (.cells c z)) .nil
abbrev f (a b:Heap):Heap:=.node a none b
abbrev i (n:Nat):AV:=.int .i64 (.ofNat n)
abbrev j (n:Nat):AV:=.int .i64 (.negSucc n)
end
end Go.Proofs.Ytoklbkgcclkejaa.awake
