/- A closed function returns true, whatever the world is, and leaves all that was there as it was: read off the interpreter's run. -/
import Derived.Test.YtoklbkgcclkejaaAwakeP0
set_option maxRecDepth 100000
namespace Go.Proofs.Ytoklbkgcclkejaa.awake
open Go.Abs Go.RowKit
theorem good:Good Try.prog X (call Try.prog X 200) 19 Try.f19 (ggA Try.f19) .nil Zv :=
  (Good.last vKQ)
theorem code:(jh Try.prog (X 19) Try.f19.ntmps (Try.f19.body.getD .skip)).isSome=true:=by kernel_rfl
theorem body:Try.f19.body=some (Try.f19.body.getD .skip):=by kernel_rfl
theorem gqJ:(Try.f19.name == "runtime.NumGoroutine")=false:=by kernel_rfl
theorem entered:∃ s',zZ Try.prog X (call Try.prog X 200) 19 [] Zv Try.f19=.val (.bool true) s':=by
  obtain ⟨k,hk⟩:=Option.isSome_iff_exists.mp code
  exact good.enter gqJ body hk
theorem calls (W:World) (hW:Laid W):Calls Try.prog 19 #[] W fun e w=>e=.returned (.bool true)∧Below W.heap.size W w:=by
  obtain ⟨s',h⟩:=entered
  exact gMA (Yj 200) Try.func19 h W hW
theorem plain (W:World):Calls Try.prog 19 #[] W fun e w=>e=.returned (.bool true)∧Below W.heap.size W w:=calls W (fun _ _ h=>by cases h)
end Go.Proofs.Ytoklbkgcclkejaa.awake
