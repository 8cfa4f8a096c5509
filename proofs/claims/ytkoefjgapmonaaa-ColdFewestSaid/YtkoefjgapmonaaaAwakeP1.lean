/- A piece of the interpreter's run of a closed function. -/
import Derived.Test.YtkoefjgapmonaaaAwakeAt
import Derived.KernelRfl
set_option maxRecDepth 100000
namespace Go.Proofs.Ytkoefjgapmonaaa.awake
open Go.Abs
theorem piece1:runL Try.prog (call Try.prog X 200) (ctxOf X 6 Try.f6) (((bodyOf Try.f6).drop 3).take 1) env0 st0=.done .norm env1 [] st1:=by kernel_rfl
end Go.Proofs.Ytkoefjgapmonaaa.awake
