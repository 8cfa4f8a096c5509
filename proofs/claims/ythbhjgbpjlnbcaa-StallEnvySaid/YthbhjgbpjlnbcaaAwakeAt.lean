/- The interpreter's run of a closed function, at the places where its pieces meet. -/
import Derived.Test.YthbhjgbpjlnbcaaAbsTab
import Derived.Test.YthbhjgbpjlnbcaaAbsPiece
namespace Go.Proofs.Ythbhjgbpjlnbcaa.awake
open Go.Abs
noncomputable section
abbrev i (n:Nat):AV:=.int .i64 (.ofNat n)
abbrev j (n:Nat):AV:=.int .i64 (.negSucc n)
end
end Go.Proofs.Ythbhjgbpjlnbcaa.awake
