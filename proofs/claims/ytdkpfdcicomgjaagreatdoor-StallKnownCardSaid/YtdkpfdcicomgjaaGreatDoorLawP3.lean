/- A piece of the interpreter's run of a closed function. -/
import Derived.Test.YtdkpfdcicomgjaaGreatDoorLawAt
import Derived.KernelRfl
set_option maxRecDepth 100000
namespace Go.Proofs.YtdkpfdcicomgjaaGreatDoor.law
open Go.Abs
theorem piece3 : isTrue (endR Tryz.prog Tryz.f4 (runL Tryz.prog (call Tryz.prog X 200) (ctxOf X 4 Tryz.f4) ((((bodyOf Tryz.f4).drop 8).drop 4).drop 4) env2 st2)) = true := by kernel_rfl
end Go.Proofs.YtdkpfdcicomgjaaGreatDoor.law
