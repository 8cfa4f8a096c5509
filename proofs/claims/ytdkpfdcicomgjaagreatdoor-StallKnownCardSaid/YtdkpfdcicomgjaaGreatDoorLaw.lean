/- A closed function returns true, whatever the world is, and leaves all that was there as it was: read off the interpreter's run. -/
import Derived.Test.YtdkpfdcicomgjaaGreatDoorLawP0
import Derived.Test.YtdkpfdcicomgjaaGreatDoorLawP1
import Derived.Test.YtdkpfdcicomgjaaGreatDoorLawP2
import Derived.Test.YtdkpfdcicomgjaaGreatDoorLawP3
set_option maxRecDepth 100000
namespace Go.Proofs.YtdkpfdcicomgjaaGreatDoor.law
open Go.Abs Go.RowKit
theorem good : Good Tryz.prog X (call Tryz.prog X 200) 4 Tryz.f4 (bodyOf Tryz.f4) .nil none0 :=
  (Good.step 8 piece0 (Good.step 4 piece1 (Good.step 4 piece2 (Good.last piece3))))
theorem code : (codeK Tryz.prog (X 4) Tryz.f4.ntmps (Tryz.f4.body.getD .skip)).isSome = true := by kernel_rfl
theorem body : Tryz.f4.body = some (Tryz.f4.body.getD .skip) := by kernel_rfl
theorem plainName : (Tryz.f4.name == "runtime.NumGoroutine") = false := by kernel_rfl
theorem entered : ∃ s', enterA Tryz.prog X (call Tryz.prog X 200) 4 [] none0 Tryz.f4 = .val (.bool true) s' := by
  obtain ⟨k, hk⟩ := Option.isSome_iff_exists.mp code
  exact good.enter plainName body hk
theorem calls (W : World) (hW : Laid W) : Calls Tryz.prog 4 #[] W fun e w => e = .returned (.bool true) ∧ Below W.heap.size W w := by
  obtain ⟨s', h⟩ := entered
  exact enter_true (call_sound 200) Tryz.func4 h W hW
end Go.Proofs.YtdkpfdcicomgjaaGreatDoor.law
