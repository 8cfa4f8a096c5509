/- A piece of the run of a call. -/
import Derived.Test.YtlnklmphfbapdaaDoorRunAt
import Derived.KernelRfl
set_option maxRecDepth 100000
namespace Go.Proofs.YtlnklmphfbapdaaDoor.tell
open Go.Abs
theorem piece0 : runL Tryd.prog (call Tryd.prog X 198) (ctxOf X 34 Tryd.f34) ((bodyOf Tryd.f34).take 4) (paramsEnv 0 args .nil) ⟨stc.h, stc.n, far⟩ = .done .norm env0 [] st0 := by kernel_rfl
end Go.Proofs.YtlnklmphfbapdaaDoor.tell
set_option maxRecDepth 100000
namespace Go.Proofs.YtlnklmphfbapdaaDoor.tell
open Go.Abs
theorem piece1 : runRounds Tryd.prog (call Tryd.prog X 198) (ctxOf X 34 Tryd.f34) 1 ((bodyOf Tryd.f34).drop 4) env0 st0 = .done .norm env1 [] st1 := by kernel_rfl
end Go.Proofs.YtlnklmphfbapdaaDoor.tell
set_option maxRecDepth 100000
namespace Go.Proofs.YtlnklmphfbapdaaDoor.tell
open Go.Abs
theorem piece2 : runRounds Tryd.prog (call Tryd.prog X 198) (ctxOf X 34 Tryd.f34) 1 ((bodyOf Tryd.f34).drop 4) env1 st1 = .done .norm env2 [] st2 := by kernel_rfl
end Go.Proofs.YtlnklmphfbapdaaDoor.tell
set_option maxRecDepth 100000
namespace Go.Proofs.YtlnklmphfbapdaaDoor.tell
open Go.Abs
theorem piece3 : runLoop Tryd.prog (call Tryd.prog X 198) (ctxOf X 34 Tryd.f34) 1000 ((bodyOf Tryd.f34).drop 4) env2 st2 = .done .norm env3 [] st3 := by kernel_rfl
end Go.Proofs.YtlnklmphfbapdaaDoor.tell
set_option maxRecDepth 100000
namespace Go.Proofs.YtlnklmphfbapdaaDoor.tell
open Go.Abs
theorem piece4 : endR Tryd.prog Tryd.f34 (runL Tryd.prog (call Tryd.prog X 198) (ctxOf X 34 Tryd.f34) (((bodyOf Tryd.f34).drop 4).drop 1) env3 st3) = .val vend stend := by kernel_rfl
end Go.Proofs.YtlnklmphfbapdaaDoor.tell
set_option maxRecDepth 100000
namespace Go.Proofs.YtlnklmphfbapdaaDoor.tell
open Go.Abs Go.RowKit
theorem ends : Go.Abs.Ends Tryd.prog X (call Tryd.prog X 198) 34 Tryd.f34 (bodyOf Tryd.f34) (paramsEnv 0 args .nil) ⟨stc.h, stc.n, far⟩ vend stend :=
  (Go.Abs.Ends.step 4 piece0 (Go.Abs.Ends.loop 2 1000 (by kernel_rfl) (by kernel_rfl) (runRounds_add 1 1 piece1 piece2) piece3 (piece4)))
theorem code : (codeK Tryd.prog (X 34) Tryd.f34.ntmps (Tryd.f34.body.getD .skip)).isSome = true := by kernel_rfl
theorem body : Tryd.f34.body = some (Tryd.f34.body.getD .skip) := by kernel_rfl
theorem plainName : (Tryd.f34.name == "runtime.NumGoroutine") = false := by kernel_rfl
theorem entered : enterA Tryd.prog X (call Tryd.prog X 198) 34 args ⟨stc.h, stc.n, far⟩ Tryd.f34 = .val vend stend := by
  obtain ⟨k, hk⟩ := Option.isSome_iff_exists.mp code
  exact enter_of plainName body hk (by kernel_rfl) (by kernel_rfl) ends
theorem told : callStep Tryd.prog X (call Tryd.prog X 198) (.fn 34) args stc = .val val stback := step_of Tryd.func34 entered (by kernel_rfl)
theorem sound : CallSound Tryd.prog cl := tells_sound (callStep_sound (call_sound 198)) told
end Go.Proofs.YtlnklmphfbapdaaDoor.tell
