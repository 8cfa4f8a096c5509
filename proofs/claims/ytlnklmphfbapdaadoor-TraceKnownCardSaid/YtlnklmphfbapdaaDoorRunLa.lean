/- A piece of the interpreter's run of a closed function. -/
import Derived.Test.YtlnklmphfbapdaaDoorRunBt
import Derived.KernelRfl
set_option maxRecDepth 100000
namespace Go.Proofs.YtlnklmphfbapdaaDoor.law
open Go.Abs
theorem piece0 : runL Tryd.prog (knows 5 lsam.cl) (ctxOf X 3 Tryd.f3) ((bodyOf Tryd.f3).take 7) .nil none0 = .done .norm env0 [] st0 := by kernel_rfl
end Go.Proofs.YtlnklmphfbapdaaDoor.law
set_option maxRecDepth 100000
namespace Go.Proofs.YtlnklmphfbapdaaDoor.law
open Go.Abs
theorem piece1 : runL Tryd.prog (knows 5 lsam.cl) (ctxOf X 3 Tryd.f3) (((bodyOf Tryd.f3).drop 7).take 1) env0 st0 = .done .norm env1 [] st1 := by kernel_rfl
end Go.Proofs.YtlnklmphfbapdaaDoor.law
set_option maxRecDepth 100000
namespace Go.Proofs.YtlnklmphfbapdaaDoor.law
open Go.Abs
theorem piece2 : runL Tryd.prog (knows 5 lsam.cl) (ctxOf X 3 Tryd.f3) ((((bodyOf Tryd.f3).drop 7).drop 1).take 3) env1 st1 = .done .norm env2 [] st2 := by kernel_rfl
end Go.Proofs.YtlnklmphfbapdaaDoor.law
set_option maxRecDepth 100000
namespace Go.Proofs.YtlnklmphfbapdaaDoor.law
open Go.Abs
theorem piece3 : runL Tryd.prog (knows 5 lsam.cl) (ctxOf X 3 Tryd.f3) (((((bodyOf Tryd.f3).drop 7).drop 1).drop 3).take 2) env2 st2 = .done .norm env3 [] st3 := by kernel_rfl
end Go.Proofs.YtlnklmphfbapdaaDoor.law
set_option maxRecDepth 100000
namespace Go.Proofs.YtlnklmphfbapdaaDoor.law
open Go.Abs
theorem piece4 : runRounds Tryd.prog (knows 5 lsam.cl) (ctxOf X 3 Tryd.f3) 1 (((((bodyOf Tryd.f3).drop 7).drop 1).drop 3).drop 2) env3 st3 = .done .norm env4 [] st4 := by kernel_rfl
end Go.Proofs.YtlnklmphfbapdaaDoor.law
