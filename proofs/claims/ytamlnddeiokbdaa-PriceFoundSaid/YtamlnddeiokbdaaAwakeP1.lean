/- A piece of the interpreter's run of a closed function. -/
import Derived.Test.YtamlnddeiokbdaaAwakeAt
import Derived.KernelRfl
set_option maxRecDepth 100000
namespace Go.Proofs.Ytamlnddeiokbdaa.awake
open Go.Abs
theorem piece1:isTrue (endR Try.prog Try.f20 (runL Try.prog (call Try.prog X 200) (ctxOf X 20 Try.f20) ((bodyOf Try.f20).drop 4) env0 st0))=true:=by kernel_rfl
end Go.Proofs.Ytamlnddeiokbdaa.awake
