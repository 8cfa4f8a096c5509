/- A piece of the interpreter's run of a closed function. -/
import Derived.Test.YtdpbfpmkegafcaaDoorLawAt
import Derived.KernelRfl
set_option maxRecDepth 100000
namespace Go.Proofs.YtdpbfpmkegafcaaDoor.law
open Go.Abs
theorem piece3 : isTrue (endR Tryd.prog Tryd.f3 (runL Tryd.prog (knows 5 (call Tryd.prog X 200)) (ctxOf X 3 Tryd.f3) ((((bodyOf Tryd.f3).drop 7).drop 5).drop 1) env2 st2)) = true := by kernel_rfl
end Go.Proofs.YtdpbfpmkegafcaaDoor.law
