/- A piece of the interpreter's run of a closed function. -/
import Derived.Test.YthambbefgbhnkaaAwakeAt
import Derived.KernelRfl
set_option maxRecDepth 100000
namespace Go.Proofs.Ythambbefgbhnkaa.awake
open Go.Abs
theorem piece1 : runL Try.prog (call Try.prog X 200) (ctxOf X 23 Try.f23) (((bodyOf Try.f23).drop 3).take 1) env0 st0 = .done .norm env1 [] st1 := by kernel_rfl
end Go.Proofs.Ythambbefgbhnkaa.awake
