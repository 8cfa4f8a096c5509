/- A piece of the interpreter's run of a closed function. -/
import Derived.Test.YtlfalcghhckanacDoorLawAt
import Derived.KernelRfl
set_option maxRecDepth 100000
namespace Go.Proofs.YtlfalcghhckanacDoor.law
open Go.Abs
theorem piece3 : runLoop Tryd.prog (knows 6 (call Tryd.prog X 200)) (ctxOf X 3 Tryd.f3) 1000 ((bodyOf Tryd.f3).drop 13) env2 st2 = .done .norm env3 [] st3 := by kernel_rfl
end Go.Proofs.YtlfalcghhckanacDoor.law
