/- A piece of the interpreter's run of a closed function. -/
import Derived.Test.YtlnklmphfbapdaaDoorRunBt
import Derived.KernelRfl
set_option maxRecDepth 100000
namespace Go.Proofs.YtlnklmphfbapdaaDoor.law
open Go.Abs
theorem piece5 : runRounds Tryd.prog (knows 5 lsam.cl) (ctxOf X 3 Tryd.f3) 1 (((((bodyOf Tryd.f3).drop 7).drop 1).drop 3).drop 2) env4 st4 = .done .norm env5 [] st5 := by kernel_rfl
end Go.Proofs.YtlnklmphfbapdaaDoor.law
set_option maxRecDepth 100000
namespace Go.Proofs.YtlnklmphfbapdaaDoor.law
open Go.Abs
theorem piece6 : runLoop Tryd.prog (knows 5 lsam.cl) (ctxOf X 3 Tryd.f3) 1000 (((((bodyOf Tryd.f3).drop 7).drop 1).drop 3).drop 2) env5 st5 = .done .norm env6 [] st6 := by kernel_rfl
end Go.Proofs.YtlnklmphfbapdaaDoor.law
set_option maxRecDepth 100000
namespace Go.Proofs.YtlnklmphfbapdaaDoor.law
open Go.Abs
theorem piece7 : runL Tryd.prog (knows 5 lsam.cl) (ctxOf X 3 Tryd.f3) (((((((bodyOf Tryd.f3).drop 7).drop 1).drop 3).drop 2).drop 1).take 1) env6 st6 = .done .norm env7 [] st7 := by kernel_rfl
end Go.Proofs.YtlnklmphfbapdaaDoor.law
set_option maxRecDepth 100000
namespace Go.Proofs.YtlnklmphfbapdaaDoor.law
open Go.Abs
theorem piece8 : runL Tryd.prog (knows 5 lsam.cl) (ctxOf X 3 Tryd.f3) ((((((((bodyOf Tryd.f3).drop 7).drop 1).drop 3).drop 2).drop 1).drop 1).take 1) env7 st7 = .done .norm env8 [] st8 := by kernel_rfl
end Go.Proofs.YtlnklmphfbapdaaDoor.law
