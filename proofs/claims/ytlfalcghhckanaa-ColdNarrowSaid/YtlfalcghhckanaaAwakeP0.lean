/- A piece of the interpreter's run of a closed function. -/
import Derived.Test.YtlfalcghhckanaaAwakeAt
import Derived.KernelRfl
set_option maxRecDepth 100000
namespace Go.Proofs.Ytlfalcghhckanaa.awake
open Go.Abs
theorem piece0:runL Try.prog (call Try.prog X 200) (ctxOf X 14 Try.f14) ((bodyOf Try.f14).take 3) .nil none0=.done .norm env0 [] st0:=by kernel_rfl
end Go.Proofs.Ytlfalcghhckanaa.awake
