/- A closed function returns true, whatever the world is, and leaves all that was there as it was: read off the interpreter's run. -/
import Derived.Test.YtkoefjgapmonaaaAwakeP0
import Derived.Test.YtkoefjgapmonaaaAwakeP1
import Derived.Test.YtkoefjgapmonaaaAwakeP2
set_option maxRecDepth 100000
namespace Go.Proofs.Ytkoefjgapmonaaa.awake
open Go.Abs Go.RowKit
theorem good:Good Try.prog X (call Try.prog X 200) 6 Try.f6 (bodyOf Try.f6) .nil none0 :=
  (Good.step 3 piece0 (Good.step 1 piece1 (Good.last piece2)))
theorem code:(codeK Try.prog (X 6) Try.f6.ntmps (Try.f6.body.getD .skip)).isSome=true:=by kernel_rfl
theorem body:Try.f6.body=some (Try.f6.body.getD .skip):=by kernel_rfl
theorem plainName:(Try.f6.name == "runtime.NumGoroutine")=false:=by kernel_rfl
theorem entered:∃ s',enterA Try.prog X (call Try.prog X 200) 6 [] none0 Try.f6=.val (.bool true) s':=by
  obtain ⟨k,hk⟩:=Option.isSome_iff_exists.mp code
  exact good.enter plainName body hk
theorem calls (W:World) (hW:Laid W):Calls Try.prog 6 #[] W fun e w=>e=.returned (.bool true)∧Below W.heap.size W w:=by
  obtain ⟨s',h⟩:=entered
  exact enter_true (call_sound 200) Try.func6 h W hW
theorem plain (W:World):Calls Try.prog 6 #[] W fun e w=>e=.returned (.bool true)∧Below W.heap.size W w:=calls W (fun _ _ h=>by cases h)
end Go.Proofs.Ytkoefjgapmonaaa.awake
