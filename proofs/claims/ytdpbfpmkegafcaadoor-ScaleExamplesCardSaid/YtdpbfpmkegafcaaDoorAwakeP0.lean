/- A piece of the interpreter's run of a closed function. -/
import Derived.Test.YtdpbfpmkegafcaaDoorAwakeAt
import Derived.KernelRfl
set_option maxRecDepth 100000
namespace Go.Proofs.YtdpbfpmkegafcaaDoor.awake
open Go.Abs
theorem piece0 : runL Tryd.prog (call Tryd.prog X 200) (ctxOf X 5 Tryd.f5) ((bodyOf Tryd.f5).take 2) .nil none0 = .done .norm env0 [] st0 := by kernel_rfl
end Go.Proofs.YtdpbfpmkegafcaaDoor.awake
