/- A piece of the interpreter's run of a closed function. -/
import Derived.Test.YtoolodjbfphkjaaAwakeAt
import Derived.KernelRfl
set_option maxRecDepth 100000
namespace Go.Proofs.Ytoolodjbfphkjaa.awake
open Go.Abs
theorem piece2:isTrue (endR Try.prog Try.f9 (runL Try.prog (call Try.prog X 200) (ctxOf X 9 Try.f9) (((bodyOf Try.f9).drop 2).drop 1) env1 st1))=true:=by kernel_rfl
end Go.Proofs.Ytoolodjbfphkjaa.awake
