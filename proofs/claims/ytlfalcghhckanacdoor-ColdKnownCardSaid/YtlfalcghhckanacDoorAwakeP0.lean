/- A piece of the interpreter's run of a closed function. -/
import Derived.Test.YtlfalcghhckanacDoorAwakeAt
import Derived.KernelRfl
set_option maxRecDepth 100000
namespace Go.Proofs.YtlfalcghhckanacDoor.awake
open Go.Abs
theorem piece0 : runL Tryd.prog (call Tryd.prog X 200) (ctxOf X 6 Tryd.f6) ((bodyOf Tryd.f6).take 3) .nil none0 = .done .norm env0 [] st0 := by kernel_rfl
end Go.Proofs.YtlfalcghhckanacDoor.awake
