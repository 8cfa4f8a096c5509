/- A piece of the interpreter's run of a closed function. -/
import Derived.Test.YthbhjgbpjlnbcaaAwakeAt
import Derived.KernelRfl
set_option maxRecDepth 100000
namespace Go.Proofs.Ythbhjgbpjlnbcaa.awake
open Go.Abs
theorem piece0:isTrue (endR Try.prog Try.f14 (runL Try.prog (call Try.prog X 200) (ctxOf X 14 Try.f14) (bodyOf Try.f14) .nil none0))=true:=by kernel_rfl
end Go.Proofs.Ythbhjgbpjlnbcaa.awake
