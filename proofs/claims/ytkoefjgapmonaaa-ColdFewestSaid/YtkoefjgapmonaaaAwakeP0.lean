/- A piece of the interpreter's run of a closed function. -/
import Derived.Test.YtkoefjgapmonaaaAwakeAt
import Derived.KernelRfl
set_option maxRecDepth 100000
namespace Go.Proofs.Ytkoefjgapmonaaa.awake
open Go.Abs
theorem piece0:runL Try.prog (call Try.prog X 200) (ctxOf X 6 Try.f6) ((bodyOf Try.f6).take 3) .nil none0=.done .norm env0 [] st0:=by kernel_rfl
end Go.Proofs.Ytkoefjgapmonaaa.awake
