/- A piece of the interpreter's run of a closed function. -/
import Derived.Test.YtkoefjgapmonaaaAwakeAt
import Derived.KernelRfl
set_option maxRecDepth 100000
namespace Go.Proofs.Ytkoefjgapmonaaa.awake
open Go.Abs
theorem piece2:isTrue (endR Try.prog Try.f6 (runL Try.prog (call Try.prog X 200) (ctxOf X 6 Try.f6) (((bodyOf Try.f6).drop 3).drop 1) env1 st1))=true:=by kernel_rfl
end Go.Proofs.Ytkoefjgapmonaaa.awake
