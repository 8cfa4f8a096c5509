/- A piece of the interpreter's run of a closed function. -/
import Derived.Test.YtlfalcghhckanabAwakeAt
import Derived.KernelRfl
set_option maxRecDepth 100000
namespace Go.Proofs.Ytlfalcghhckanab.awake
open Go.Abs
theorem piece0:runL Try.prog (call Try.prog X 200) (ctxOf X 15 Try.f15) ((bodyOf Try.f15).take 3) .nil none0=.done .norm env0 [] st0:=by kernel_rfl
end Go.Proofs.Ytlfalcghhckanab.awake
