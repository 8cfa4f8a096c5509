/- A closed function returns true, whatever the world is, and leaves all that was there as it was: read off the interpreter's run. -/
import Derived.Test.YtdpbfpmkegafcaaDoorAwakeP0
import Derived.Test.YtdpbfpmkegafcaaDoorAwakeP1
import Derived.Test.YtdpbfpmkegafcaaDoorAwakeP2
set_option maxRecDepth 100000
namespace Go.Proofs.YtdpbfpmkegafcaaDoor.awake
open Go.Abs Go.RowKit
theorem good : Good Tryd.prog X (call Tryd.prog X 200) 5 Tryd.f5 (bodyOf Tryd.f5) .nil none0 :=
  (Good.step 2 piece0 (Good.step 1 piece1 (Good.last piece2)))
theorem code : (codeK Tryd.prog (X 5) Tryd.f5.ntmps (Tryd.f5.body.getD .skip)).isSome = true := by kernel_rfl
theorem body : Tryd.f5.body = some (Tryd.f5.body.getD .skip) := by kernel_rfl
theorem plainName : (Tryd.f5.name == "runtime.NumGoroutine") = false := by kernel_rfl
theorem entered : ∃ s', enterA Tryd.prog X (call Tryd.prog X 200) 5 [] none0 Tryd.f5 = .val (.bool true) s' := by
  obtain ⟨k, hk⟩ := Option.isSome_iff_exists.mp code
  exact good.enter plainName body hk
theorem calls (W : World) (hW : Laid W) : Calls Tryd.prog 5 #[] W fun e w => e = .returned (.bool true) ∧ Below W.heap.size W w := by
  obtain ⟨s', h⟩ := entered
  exact enter_true (call_sound 200) Tryd.func5 h W hW
end Go.Proofs.YtdpbfpmkegafcaaDoor.awake
