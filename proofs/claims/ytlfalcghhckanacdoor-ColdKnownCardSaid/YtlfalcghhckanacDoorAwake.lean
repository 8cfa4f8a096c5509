/- A closed function returns true, whatever the world is, and leaves all that was there as it was: read off the interpreter's run. -/
import Derived.Test.YtlfalcghhckanacDoorAwakeP0
import Derived.Test.YtlfalcghhckanacDoorAwakeP1
import Derived.Test.YtlfalcghhckanacDoorAwakeP2
set_option maxRecDepth 100000
namespace Go.Proofs.YtlfalcghhckanacDoor.awake
open Go.Abs Go.RowKit
theorem good : Good Tryd.prog X (call Tryd.prog X 200) 6 Tryd.f6 (bodyOf Tryd.f6) .nil none0 :=
  (Good.step 3 piece0 (Good.step 1 piece1 (Good.last piece2)))
theorem code : (codeK Tryd.prog (X 6) Tryd.f6.ntmps (Tryd.f6.body.getD .skip)).isSome = true := by kernel_rfl
theorem body : Tryd.f6.body = some (Tryd.f6.body.getD .skip) := by kernel_rfl
theorem plainName : (Tryd.f6.name == "runtime.NumGoroutine") = false := by kernel_rfl
theorem entered : ∃ s', enterA Tryd.prog X (call Tryd.prog X 200) 6 [] none0 Tryd.f6 = .val (.bool true) s' := by
  obtain ⟨k, hk⟩ := Option.isSome_iff_exists.mp code
  exact good.enter plainName body hk
theorem calls (W : World) (hW : Laid W) : Calls Tryd.prog 6 #[] W fun e w => e = .returned (.bool true) ∧ Below W.heap.size W w := by
  obtain ⟨s', h⟩ := entered
  exact enter_true (call_sound 200) Tryd.func6 h W hW
end Go.Proofs.YtlfalcghhckanacDoor.awake
