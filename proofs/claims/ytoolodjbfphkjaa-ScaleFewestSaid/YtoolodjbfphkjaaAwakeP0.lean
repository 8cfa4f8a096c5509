/- A piece of the interpreter's run of a closed function. -/
import Derived.Test.YtoolodjbfphkjaaAwakeAt
import Derived.KernelRfl
set_option maxRecDepth 100000
namespace Go.Proofs.Ytoolodjbfphkjaa.awake
open Go.Abs
theorem piece0:runL Try.prog (call Try.prog X 200) (ctxOf X 9 Try.f9) ((bodyOf Try.f9).take 2) .nil none0=.done .norm env0 [] st0:=by kernel_rfl
end Go.Proofs.Ytoolodjbfphkjaa.awake
