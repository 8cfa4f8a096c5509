/- A piece of the interpreter's run of a closed function. -/
import Derived.Test.YtoolodjbfphkjaaAwakeAt
import Derived.KernelRfl
set_option maxRecDepth 100000
namespace Go.Proofs.Ytoolodjbfphkjaa.awake
open Go.Abs
theorem piece1:runL Try.prog (call Try.prog X 200) (ctxOf X 9 Try.f9) (((bodyOf Try.f9).drop 2).take 1) env0 st0=.done .norm env1 [] st1:=by kernel_rfl
end Go.Proofs.Ytoolodjbfphkjaa.awake
