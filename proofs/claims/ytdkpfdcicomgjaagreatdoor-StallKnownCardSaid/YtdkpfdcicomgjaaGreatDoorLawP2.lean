/- A piece of the interpreter's run of a closed function. -/
import Derived.Test.YtdkpfdcicomgjaaGreatDoorLawAt
import Derived.KernelRfl
set_option maxRecDepth 100000
namespace Go.Proofs.YtdkpfdcicomgjaaGreatDoor.law
open Go.Abs
theorem piece2 : runL Tryz.prog (call Tryz.prog X 200) (ctxOf X 4 Tryz.f4) ((((bodyOf Tryz.f4).drop 8).drop 4).take 4) env1 st1 = .done .norm env2 [] st2 := by kernel_rfl
end Go.Proofs.YtdkpfdcicomgjaaGreatDoor.law
