/- A piece of the interpreter's run of a closed function. -/
import Derived.Test.YtndbihaffijhbaaAwakeAt
import Derived.KernelRfl
set_option maxRecDepth 100000
namespace Go.Proofs.Ytndbihaffijhbaa.awake
open Go.Abs
theorem piece2:isTrue (endR Try.prog Try.f19 (runL Try.prog (call Try.prog X 200) (ctxOf X 19 Try.f19) (((bodyOf Try.f19).drop 3).drop 1) env1 st1))=true:=by kernel_rfl
end Go.Proofs.Ytndbihaffijhbaa.awake
