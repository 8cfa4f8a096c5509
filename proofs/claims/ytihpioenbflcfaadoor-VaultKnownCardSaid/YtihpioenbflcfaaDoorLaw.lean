/- A closed function returns true, whatever the world is, and leaves all that was there as it was: read off the interpreter's run. -/
import Derived.Test.YtihpioenbflcfaaDoorLawP0
import Derived.Test.YtihpioenbflcfaaDoorLawP1
set_option maxRecDepth 100000
namespace Go.Proofs.YtihpioenbflcfaaDoor.law
open Go.Abs Go.RowKit
theorem good : Good Tryd.prog X (call Tryd.prog X 200) 3 Tryd.f3 (bodyOf Tryd.f3) .nil none0 :=
  (Good.step 6 piece0 (Good.last piece1))
theorem code : (codeK Tryd.prog (X 3) Tryd.f3.ntmps (Tryd.f3.body.getD .skip)).isSome = true := by kernel_rfl
theorem body : Tryd.f3.body = some (Tryd.f3.body.getD .skip) := by kernel_rfl
theorem plainName : (Tryd.f3.name == "runtime.NumGoroutine") = false := by kernel_rfl
theorem entered : ∃ s', enterA Tryd.prog X (call Tryd.prog X 200) 3 [] none0 Tryd.f3 = .val (.bool true) s' := by
  obtain ⟨k, hk⟩ := Option.isSome_iff_exists.mp code
  exact good.enter plainName body hk
theorem calls (W : World) (hW : Laid W) : Calls Tryd.prog 3 #[] W fun e w => e = .returned (.bool true) ∧ Below W.heap.size W w := by
  obtain ⟨s', h⟩ := entered
  exact enter_true (call_sound 200) Tryd.func3 h W hW
end Go.Proofs.YtihpioenbflcfaaDoor.law
