/- A piece of the run of a call. -/
import Derived.Test.YtlnklmphfbapdaaDoorRunAt
import Derived.KernelRfl
set_option maxRecDepth 100000
namespace Go.Proofs.YtlnklmphfbapdaaDoor.sam
open Go.Abs
theorem piece1 : runL Tryd.prog tell.cl (ctxOf X 15 Tryd.f15) (((bodyOf Tryd.f15).drop 4).take 1) env0 st0 = .done .norm env1 [] st1 := by kernel_rfl
end Go.Proofs.YtlnklmphfbapdaaDoor.sam
