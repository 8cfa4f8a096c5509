/- A piece of the interpreter's run of a closed function. -/
import Derived.Test.YtkoaddhhnijdpaaAwakeAt
import Derived.KernelRfl
set_option maxRecDepth 100000
namespace Go.Proofs.Ytkoaddhhnijdpaa.awake
open Go.Abs
theorem piece1:isTrue (endR Try.prog Try.f6 (runL Try.prog (call Try.prog X 200) (ctxOf X 6 Try.f6) ((bodyOf Try.f6).drop 4) env0 st0))=true:=by kernel_rfl
end Go.Proofs.Ytkoaddhhnijdpaa.awake
