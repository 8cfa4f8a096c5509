/- A piece of the interpreter's run of a closed function. -/
import Derived.Test.YtoklbkgcclkejaaAwakeAt
import Derived.KernelRfl
set_option maxRecDepth 100000
namespace Go.Proofs.Ytoklbkgcclkejaa.awake
open Go.Abs
theorem piece0:isTrue (endR Try.prog Try.f19 (YM Try.prog (call Try.prog X 200) (wJ X 19 Try.f19) (bodyOf Try.f19) .nil Zr))=true:=by kernel_rfl
end Go.Proofs.Ytoklbkgcclkejaa.awake
