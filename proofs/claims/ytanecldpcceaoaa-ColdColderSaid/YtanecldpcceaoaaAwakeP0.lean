/- A piece of the interpreter's run of a closed function. -/
import Derived.Test.YtanecldpcceaoaaAwakeAt
import Derived.KernelRfl
set_option maxRecDepth 100000
namespace Go.Proofs.Ytanecldpcceaoaa.awake
open Go.Abs
theorem piece0:runL Try.prog (call Try.prog X 200) (ctxOf X 13 Try.f13) ((bodyOf Try.f13).take 3) .nil none0=.done .norm env0 [] st0:=by kernel_rfl
end Go.Proofs.Ytanecldpcceaoaa.awake
