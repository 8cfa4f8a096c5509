/- A piece of the interpreter's run of a closed function. -/
import Derived.Test.YtofkfgfbibolcaaAwakeAt
import Derived.KernelRfl
set_option maxRecDepth 100000
namespace Go.Proofs.Ytofkfgfbibolcaa.awake
open Go.Abs
theorem piece0:runL Try.prog (call Try.prog X 200) (ctxOf X 10 Try.f10) ((bodyOf Try.f10).take 4) .nil none0=.done .norm env0 [] st0:=by kernel_rfl
end Go.Proofs.Ytofkfgfbibolcaa.awake
