/- A piece of the interpreter's run of a closed function. -/
import Derived.Test.YtlnklmphfbapdaaDoorRunBt
import Derived.KernelRfl
import Derived.Test.YtlnklmphfbapdaaDoorRunLa
import Derived.Test.YtlnklmphfbapdaaDoorRunLb
import Derived.Test.YtlnklmphfbapdaaDoorAwake
import Derived.Test.YtlnklmphfbapdaaDoorLsam
set_option maxRecDepth 100000
namespace Go.Proofs.YtlnklmphfbapdaaDoor.law
open Go.Abs
theorem piece9 : runL Tryd.prog (knows 5 lsam.cl) (ctxOf X 3 Tryd.f3) (((((((((bodyOf Tryd.f3).drop 7).drop 1).drop 3).drop 2).drop 1).drop 1).drop 1).take 1) env8 st8 = .done .norm env9 [] st9 := by kernel_rfl
end Go.Proofs.YtlnklmphfbapdaaDoor.law
set_option maxRecDepth 100000
namespace Go.Proofs.YtlnklmphfbapdaaDoor.law
open Go.Abs
theorem piece10 : isTrue (endR Tryd.prog Tryd.f3 (runL Tryd.prog (knows 5 lsam.cl) (ctxOf X 3 Tryd.f3) (((((((((bodyOf Tryd.f3).drop 7).drop 1).drop 3).drop 2).drop 1).drop 1).drop 1).drop 1) env9 st9)) = true := by kernel_rfl
end Go.Proofs.YtlnklmphfbapdaaDoor.law
set_option maxRecDepth 100000
namespace Go.Proofs.YtlnklmphfbapdaaDoor.law
open Go.Abs Go.RowKit
theorem good : Good Tryd.prog X (knows 5 lsam.cl) 3 Tryd.f3 (bodyOf Tryd.f3) .nil none0 :=
  (Good.step 7 piece0 (Good.step 1 piece1 (Good.step 3 piece2 (Good.step 2 piece3 (Good.loop 2 1000 (by kernel_rfl) (by kernel_rfl) (runRounds_add 1 1 piece4 piece5) piece6 ((Good.step 1 piece7 (Good.step 1 piece8 (Good.step 1 piece9 (Good.last piece10))))))))))
theorem code : (codeK Tryd.prog (X 3) Tryd.f3.ntmps (Tryd.f3.body.getD .skip)).isSome = true := by kernel_rfl
theorem body : Tryd.f3.body = some (Tryd.f3.body.getD .skip) := by kernel_rfl
theorem plainName : (Tryd.f3.name == "runtime.NumGoroutine") = false := by kernel_rfl
theorem entered : ∃ s', enterA Tryd.prog X (knows 5 lsam.cl) 3 [] none0 Tryd.f3 = .val (.bool true) s' := by
  obtain ⟨k, hk⟩ := Option.isSome_iff_exists.mp code
  exact good.enter plainName body hk
theorem calls (W : World) (hW : Laid W) : Calls Tryd.prog 3 #[] W fun e w => e = .returned (.bool true) ∧ Below W.heap.size W w := by
  obtain ⟨s', h⟩ := entered
  exact enter_true (knows_sound sam.sound Tryd.func5 awake.entered lsam.sound) Tryd.func3 h W hW
end Go.Proofs.YtlnklmphfbapdaaDoor.law
