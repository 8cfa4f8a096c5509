/- A piece of the interpreter's run of a closed function. -/
import Derived.Test.YtoklbkgcclkejaaAwakeAt
import Derived.KernelRfl
set_option maxRecDepth 100000
namespace Go.Proofs.Ytoklbkgcclkejaa.awake
open Go.Abs
theorem vKQ:yyJ (vdQ Try.prog Try.f19 (YO Try.prog (call Try.prog X 200) (wI X 19 Try.f19) (ggA Try.f19) .nil Zv))=true:=by kernel_rfl
end Go.Proofs.Ytoklbkgcclkejaa.awake
