/- A piece of the interpreter's run of a closed function. -/
import Derived.Test.YtlnklmphfbapdaaDoorRunAt
import Derived.KernelRfl
import Derived.Test.YtlnklmphfbapdaaDoorSam
set_option maxRecDepth 100000
namespace Go.Proofs.YtlnklmphfbapdaaDoor.awake
open Go.Abs
theorem piece0 : runL Tryd.prog sam.cl (ctxOf X 5 Tryd.f5) ((bodyOf Tryd.f5).take 2) .nil none0 = .done .norm env0 [] st0 := by kernel_rfl
end Go.Proofs.YtlnklmphfbapdaaDoor.awake
set_option maxRecDepth 100000
namespace Go.Proofs.YtlnklmphfbapdaaDoor.awake
open Go.Abs
theorem piece1 : runL Tryd.prog sam.cl (ctxOf X 5 Tryd.f5) (((bodyOf Tryd.f5).drop 2).take 1) env0 st0 = .done .norm env1 [] st1 := by kernel_rfl
end Go.Proofs.YtlnklmphfbapdaaDoor.awake
set_option maxRecDepth 100000
namespace Go.Proofs.YtlnklmphfbapdaaDoor.awake
open Go.Abs
theorem piece2 : runL Tryd.prog sam.cl (ctxOf X 5 Tryd.f5) ((((bodyOf Tryd.f5).drop 2).drop 1).take 1) env1 st1 = .done .norm env2 [] st2 := by kernel_rfl
end Go.Proofs.YtlnklmphfbapdaaDoor.awake
set_option maxRecDepth 100000
namespace Go.Proofs.YtlnklmphfbapdaaDoor.awake
open Go.Abs
theorem piece3 : isTrue (endR Tryd.prog Tryd.f5 (runL Tryd.prog sam.cl (ctxOf X 5 Tryd.f5) ((((bodyOf Tryd.f5).drop 2).drop 1).drop 1) env2 st2)) = true := by kernel_rfl
end Go.Proofs.YtlnklmphfbapdaaDoor.awake
set_option maxRecDepth 100000
namespace Go.Proofs.YtlnklmphfbapdaaDoor.awake
open Go.Abs Go.RowKit
theorem good : Good Tryd.prog X sam.cl 5 Tryd.f5 (bodyOf Tryd.f5) .nil none0 :=
  (Good.step 2 piece0 (Good.step 1 piece1 (Good.step 1 piece2 (Good.last piece3))))
theorem code : (codeK Tryd.prog (X 5) Tryd.f5.ntmps (Tryd.f5.body.getD .skip)).isSome = true := by kernel_rfl
theorem body : Tryd.f5.body = some (Tryd.f5.body.getD .skip) := by kernel_rfl
theorem plainName : (Tryd.f5.name == "runtime.NumGoroutine") = false := by kernel_rfl
theorem entered : ∃ s', enterA Tryd.prog X sam.cl 5 [] none0 Tryd.f5 = .val (.bool true) s' := by
  obtain ⟨k, hk⟩ := Option.isSome_iff_exists.mp code
  exact good.enter plainName body hk
theorem calls (W : World) (hW : Laid W) : Calls Tryd.prog 5 #[] W fun e w => e = .returned (.bool true) ∧ Below W.heap.size W w := by
  obtain ⟨s', h⟩ := entered
  exact enter_true sam.sound Tryd.func5 h W hW
end Go.Proofs.YtlnklmphfbapdaaDoor.awake
