/- A piece of the interpreter's run of a closed function. -/
import Derived.Test.YtaddkbhpocbimaaAwakeAt
import Derived.KernelRfl
set_option maxRecDepth 100000
namespace Go.Proofs.Ytaddkbhpocbimaa.awake
open Go.Abs
theorem piece2 : isTrue (endR Try.prog Try.f24 (runL Try.prog (call Try.prog X 200) (ctxOf X 24 Try.f24) (((bodyOf Try.f24).drop 3).drop 1) env1 st1)) = true := by kernel_rfl
end Go.Proofs.Ytaddkbhpocbimaa.awake
