/- A piece of the run of a call. -/
import Derived.Test.YtlnklmphfbapdaaDoorRunAt
import Derived.KernelRfl
import Derived.Test.YtlnklmphfbapdaaDoorRunSam
import Derived.Test.YtlnklmphfbapdaaDoorTell
set_option maxRecDepth 100000
namespace Go.Proofs.YtlnklmphfbapdaaDoor.sam
open Go.Abs
theorem piece0 : runL Tryd.prog tell.cl (ctxOf X 15 Tryd.f15) ((bodyOf Tryd.f15).take 4) (paramsEnv 0 args .nil) ⟨stc.h, stc.n, far⟩ = .done .norm env0 [] st0 := by kernel_rfl
end Go.Proofs.YtlnklmphfbapdaaDoor.sam
set_option maxRecDepth 100000
namespace Go.Proofs.YtlnklmphfbapdaaDoor.sam
open Go.Abs
theorem piece2 : endR Tryd.prog Tryd.f15 (runL Tryd.prog tell.cl (ctxOf X 15 Tryd.f15) (((bodyOf Tryd.f15).drop 4).drop 1) env1 st1) = .val vend stend := by kernel_rfl
end Go.Proofs.YtlnklmphfbapdaaDoor.sam
set_option maxRecDepth 100000
namespace Go.Proofs.YtlnklmphfbapdaaDoor.sam
open Go.Abs Go.RowKit
theorem ends : Go.Abs.Ends Tryd.prog X tell.cl 15 Tryd.f15 (bodyOf Tryd.f15) (paramsEnv 0 args .nil) ⟨stc.h, stc.n, far⟩ vend stend :=
  (Go.Abs.Ends.step 4 piece0 (Go.Abs.Ends.step 1 piece1 piece2))
theorem code : (codeK Tryd.prog (X 15) Tryd.f15.ntmps (Tryd.f15.body.getD .skip)).isSome = true := by kernel_rfl
theorem body : Tryd.f15.body = some (Tryd.f15.body.getD .skip) := by kernel_rfl
theorem plainName : (Tryd.f15.name == "runtime.NumGoroutine") = false := by kernel_rfl
theorem entered : enterA Tryd.prog X tell.cl 15 args ⟨stc.h, stc.n, far⟩ Tryd.f15 = .val vend stend := by
  obtain ⟨k, hk⟩ := Option.isSome_iff_exists.mp code
  exact enter_of plainName body hk (by kernel_rfl) (by kernel_rfl) ends
theorem told : callStep Tryd.prog X tell.cl (.fn 15) args stc = .val val stback := step_of Tryd.func15 entered (by kernel_rfl)
theorem sound : CallSound Tryd.prog cl := tells_sound (callStep_sound tell.sound) told
end Go.Proofs.YtlnklmphfbapdaaDoor.sam
