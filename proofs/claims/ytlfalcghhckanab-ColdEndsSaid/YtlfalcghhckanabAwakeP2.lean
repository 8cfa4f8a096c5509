/- A piece of the interpreter's run of a closed function. -/
import Derived.Test.YtlfalcghhckanabAwakeAt
import Derived.KernelRfl
set_option maxRecDepth 100000
namespace Go.Proofs.Ytlfalcghhckanab.awake
open Go.Abs
theorem piece2:isTrue (endR Try.prog Try.f15 (runL Try.prog (call Try.prog X 200) (ctxOf X 15 Try.f15) (((bodyOf Try.f15).drop 3).drop 1) env1 st1))=true:=by kernel_rfl
end Go.Proofs.Ytlfalcghhckanab.awake
