/- A piece of the interpreter's run of a closed function. -/
import Derived.Test.YtihpioenbflcfaaDoorLawAt
import Derived.KernelRfl
set_option maxRecDepth 100000
namespace Go.Proofs.YtihpioenbflcfaaDoor.law
open Go.Abs
theorem piece1 : isTrue (endR Tryd.prog Tryd.f3 (runL Tryd.prog (call Tryd.prog X 200) (ctxOf X 3 Tryd.f3) ((bodyOf Tryd.f3).drop 6) env0 st0)) = true := by kernel_rfl
end Go.Proofs.YtihpioenbflcfaaDoor.law
