/- A piece of the interpreter's run of a closed function. -/
import Derived.Test.YtlfalcghhckanaaAwakeAt
import Derived.KernelRfl
set_option maxRecDepth 100000
namespace Go.Proofs.Ytlfalcghhckanaa.awake
open Go.Abs
theorem piece2:isTrue (endR Try.prog Try.f14 (runL Try.prog (call Try.prog X 200) (ctxOf X 14 Try.f14) (((bodyOf Try.f14).drop 3).drop 1) env1 st1))=true:=by kernel_rfl
end Go.Proofs.Ytlfalcghhckanaa.awake
