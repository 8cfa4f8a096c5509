/- A piece of the interpreter's run of a closed function. -/
import Derived.Test.YtofkfgfbibolcaaAwakeAt
import Derived.KernelRfl
set_option maxRecDepth 100000
namespace Go.Proofs.Ytofkfgfbibolcaa.awake
open Go.Abs
theorem piece1:isTrue (endR Try.prog Try.f10 (runL Try.prog (call Try.prog X 200) (ctxOf X 10 Try.f10) ((bodyOf Try.f10).drop 4) env0 st0))=true:=by kernel_rfl
end Go.Proofs.Ytofkfgfbibolcaa.awake
