/- A piece of the interpreter's run of a closed function. -/
import Derived.Test.YtlfalcghhckanacDoorLawAt
import Derived.KernelRfl
set_option maxRecDepth 100000
namespace Go.Proofs.YtlfalcghhckanacDoor.law
open Go.Abs
theorem piece1 : runRounds Tryd.prog (knows 6 (call Tryd.prog X 200)) (ctxOf X 3 Tryd.f3) 2 ((bodyOf Tryd.f3).drop 13) env0 st0 = .done .norm env1 [] st1 := by kernel_rfl
end Go.Proofs.YtlfalcghhckanacDoor.law
