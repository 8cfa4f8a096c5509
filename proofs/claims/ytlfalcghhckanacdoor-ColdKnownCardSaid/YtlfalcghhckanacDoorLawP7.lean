/- A piece of the interpreter's run of a closed function. -/
import Derived.Test.YtlfalcghhckanacDoorLawAt
import Derived.KernelRfl
set_option maxRecDepth 100000
namespace Go.Proofs.YtlfalcghhckanacDoor.law
open Go.Abs
theorem piece7 : isTrue (endR Tryd.prog Tryd.f3 (runL Tryd.prog (knows 6 (call Tryd.prog X 200)) (ctxOf X 3 Tryd.f3) ((((((bodyOf Tryd.f3).drop 13).drop 1).drop 2).drop 1).drop 1) env6 st6)) = true := by kernel_rfl
end Go.Proofs.YtlfalcghhckanacDoor.law
