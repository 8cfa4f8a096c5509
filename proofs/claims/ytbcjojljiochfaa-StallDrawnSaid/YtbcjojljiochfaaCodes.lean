/- The code of functions as the interpreter has it, region by region. -/
import Derived.Test.YtbcjojljiochfaaAbsTab
import Derived.Test.YtbcjojljiochfaaAbsWalk
import Derived.KernelRfl
set_option maxRecDepth 100000
namespace Go.Proofs.Ytbcjojljiochfaa.code
open Go.Abs
noncomputable section
def K47r0:OpsF:=(oVal (.tmp 2) (kMove (.con (.int .i64 0))) oNil)
def K47r1:OpsF:=(oVal (.tmp 3) (kMove (.con (.int .i64 0))) oNil)
def K47r2:OpsF:=(oVal (.tmp 6) (kMove (.tmp 0)) (oVal (.tmp 7) (kUn lenSlA (.tmp 6)) (oVal (.tmp 8) (kMove (.con (.int .i64 0))) oNil)))
def K47r3:OpsF:=(oVal (.tmp 9) (kInt aLss (.tmp 8) (.tmp 7)) oNil)
def K47r4:OpsF:=(oVal (.tmp 10) (kTwo (ixsA 1) (.tmp 6) (.tmp 8)) (oVal (.tmp 11) (kLoad none (.tmp 10)) (oVal (.tmp 5) (kMove (.tmp 11)) oNil)))
def K47r5:OpsF:=(oVal (.tmp 12) (kMove (.tmp 5)) (oVal (.tmp 13) (kMove (.tmp 3)) (oVal (.tmp 14) (kInt aNeq (.tmp 12) (.tmp 13)) oNil)))
def K47r6:OpsF:=(oVal (.tmp 15) (kMove (.tmp 5)) (oVal (.tmp 2) (kMove (.tmp 15)) oNil))
def K47r7:OpsF:=(oVal (.tmp 16) (kInt aAdd (.tmp 8) (.con (.int .i64 1))) (oVal (.tmp 8) (kMove (.tmp 16)) oNil))
def K47l0:K:=(kSeq (kRegion K47r3 [9]) (kSeq (kCond (.tmp 9) kSkip (kExit 0)) (kSeq (kBlock 1 (kSeq (kRegion K47r4 [5]) (kSeq (kRegion K47r5 [14]) (kCond (.tmp 14) (kSeq (kRegion K47r6 [2]) kRet) kSkip)))) (kRegion K47r7 [8]))))
def K47r8:OpsF:=(oVal (.tmp 17) (kMove (.tmp 3)) (oVal (.tmp 2) (kMove (.tmp 17)) oNil))
theorem res47:Try.f47.results.toList=[.tmp 2]:=by kernel_rfl
def K47:K:=(kSeq (kRegion K47r0 [2]) (kSeq (kRegion K47r1 [3]) (kSeq (kSeq (kRegion K47r2 [6,7,8]) (kBlock 0 (kLoop K47l0))) (kSeq (kRegion K47r8 [2]) kRet))))
theorem enter47 (cl:CallF) (a0:AV) (s:St):enterA Try.prog X cl 47 [a0] s Try.f47=finA Try.prog Try.f47 (K47 cl ⟨47,none,Try.f47.ntmps,X 47⟩ (paramsEnv 0 [a0] .nil) [] s) :=
  enterA_eq (b:=Try.f47.body.getD .skip) (by kernel_rfl) (by kernel_rfl) (by kernel_rfl) (by kernel_rfl) (by kernel_rfl)
def K65r0:OpsF:=(oVal (.tmp 6) (kMove (.con (.int .i64 0))) oNil)
def K65r1:OpsF:=(oVal (.tmp 8) (kMove (.tmp 0)) (oVal (.tmp 9) (kMove (.tmp 1)) (oVal (.tmp 10) (kInt aLss (.tmp 8) (.tmp 9)) (oVal (.tmp 7) (kMove (.tmp 10)) oNil))))
def K65r2:OpsF:=(oVal (.tmp 6) (kMove (.con (.int .i64 7))) oNil)
def K65r3:OpsF:=(oVal (.tmp 12) (kMove (.tmp 0)) (oVal (.tmp 13) (kMove (.tmp 2)) (oVal (.tmp 14) (kGtr (.tmp 12) (.tmp 13)) (oVal (.tmp 11) (kMove (.tmp 14)) oNil))))
def K65r4:OpsF:=(oVal (.tmp 6) (kMove (.con (.int .i64 6))) oNil)
def K65r5:OpsF:=(oVal (.tmp 6) (kMove (.con (.int .i64 0))) oNil)
theorem res65:Try.f65.results.toList=[.tmp 6]:=by kernel_rfl
def K65:K:=(kSeq (kRegion K65r0 [6]) (kSeq (kBlock 0 (kSeq (kRegion K65r1 [7]) (kCond (.tmp 7) (kSeq (kRegion K65r2 [6]) kRet) (kSeq (kRegion K65r3 [11]) (kCond (.tmp 11) (kSeq (kRegion K65r4 [6]) kRet) kSkip))))) (kSeq (kRegion K65r5 [6]) kRet)))
theorem enter65 (cl:CallF) (a0 a1 a2:AV) (s:St):enterA Try.prog X cl 65 [a0,a1,a2] s Try.f65=finA Try.prog Try.f65 (K65 cl ⟨65,none,Try.f65.ntmps,X 65⟩ (paramsEnv 0 [a0,a1,a2] .nil) [] s) :=
  enterA_eq (b:=Try.f65.body.getD .skip) (by kernel_rfl) (by kernel_rfl) (by kernel_rfl) (by kernel_rfl) (by kernel_rfl)
def K48r0:OpsF:=(oVal (.tmp 4) (kMove (.con (.int .i64 0))) oNil)
def K48r1s6:OpsF:=(oVal (.tmp 11) (kPick (.tmp 7) (.con (.bool true)) (.tmp 10)) oNil)
def K48r1s5:OpsF:=(oIf 7 false (oVal (.tmp 10) (kInt aGeq (.tmp 8) (.tmp 9)) K48r1s6) (oSkip (.tmp 10) K48r1s6))
def K48r1s4:OpsF:=(oIf 7 false (oVal (.tmp 9) (kMove (.tmp 1)) K48r1s5) (oSkip (.tmp 9) K48r1s5))
def K48r1:OpsF:=(oVal (.tmp 5) (kMove (.tmp 0)) (oVal (.tmp 6) (kInt aLss (.tmp 5) (.con (.int .i64 0))) (oVal (.tmp 7) (kMove (.tmp 6)) (oIf 7 false (oVal (.tmp 8) (kMove (.tmp 0)) K48r1s4) (oSkip (.tmp 8) K48r1s4)))))
def K48r2:OpsF:=(oVal (.tmp 4) (kMove (.con (.int .i64 3))) oNil)
def K48r3:OpsF:=(oVal (.tmp 4) (kMove (.con (.int .i64 0))) oNil)
theorem res48:Try.f48.results.toList=[.tmp 4]:=by kernel_rfl
def K48:K:=(kSeq (kRegion K48r0 [4]) (kSeq (kSeq (kRegion K48r1 [11]) (kCond (.tmp 11) (kSeq (kRegion K48r2 [4]) kRet) kSkip)) (kSeq (kRegion K48r3 [4]) kRet)))
theorem enter48 (cl:CallF) (a0 a1:AV) (s:St):enterA Try.prog X cl 48 [a0,a1] s Try.f48=finA Try.prog Try.f48 (K48 cl ⟨48,none,Try.f48.ntmps,X 48⟩ (paramsEnv 0 [a0,a1] .nil) [] s) :=
  enterA_eq (b:=Try.f48.body.getD .skip) (by kernel_rfl) (by kernel_rfl) (by kernel_rfl) (by kernel_rfl) (by kernel_rfl)
def K66r0:OpsF:=(oVal (.tmp 6) (kMove (.con (.int .i64 0))) oNil)
def K66r1s7:OpsF:=(oVal (.tmp 14) (kPick (.tmp 10) (.con (.bool true)) (.tmp 13)) oNil)
def K66r1s6:OpsF:=(oIf 10 false (oVal (.tmp 13) (kGtr (.tmp 11) (.tmp 12)) K66r1s7) (oSkip (.tmp 13) K66r1s7))
def K66r1s5:OpsF:=(oIf 10 false (oVal (.tmp 12) (kMove (.tmp 2)) K66r1s6) (oSkip (.tmp 12) K66r1s6))
def K66r1:OpsF:=(oVal (.tmp 7) (kMove (.tmp 0)) (oVal (.tmp 8) (kMove (.tmp 1)) (oVal (.tmp 9) (kInt aLss (.tmp 7) (.tmp 8)) (oVal (.tmp 10) (kMove (.tmp 9)) (oIf 10 false (oVal (.tmp 11) (kMove (.tmp 0)) K66r1s5) (oSkip (.tmp 11) K66r1s5))))))
def K66r2:OpsF:=(oVal (.tmp 6) (kMove (.con (.int .i64 1))) oNil)
def K66r3:OpsF:=(oVal (.tmp 6) (kMove (.con (.int .i64 0))) oNil)
theorem res66:Try.f66.results.toList=[.tmp 6]:=by kernel_rfl
def K66:K:=(kSeq (kRegion K66r0 [6]) (kSeq (kSeq (kRegion K66r1 [14]) (kCond (.tmp 14) (kSeq (kRegion K66r2 [6]) kRet) kSkip)) (kSeq (kRegion K66r3 [6]) kRet)))
theorem enter66 (cl:CallF) (a0 a1 a2:AV) (s:St):enterA Try.prog X cl 66 [a0,a1,a2] s Try.f66=finA Try.prog Try.f66 (K66 cl ⟨66,none,Try.f66.ntmps,X 66⟩ (paramsEnv 0 [a0,a1,a2] .nil) [] s) :=
  enterA_eq (b:=Try.f66.body.getD .skip) (by kernel_rfl) (by kernel_rfl) (by kernel_rfl) (by kernel_rfl) (by kernel_rfl)
def K35r0:OpsF:=(oVal (.tmp 1) (kBox (tag 28) (.tmp 0)) (oVal (.tmp 2) (kMove (.con (.int .i64 0))) oNil))
def K35r1:OpsF:=(oVal (.tmp 4) (kLoad (some 2) (.tmp 1)) (oCall (.tmp 5) (.con (.func 51 [] [])) [(.tmp 4)] (oVal (.tmp 3) (kMove (.tmp 5)) oNil)))
def K35r2:OpsF:=(oVal (.tmp 6) (kMove (.tmp 3)) (oVal (.tmp 7) (kInt aNeq (.tmp 6) (.con (.int .i64 0))) oNil))
def K35r3:OpsF:=(oVal (.tmp 8) (kMove (.tmp 3)) (oVal (.tmp 2) (kMove (.tmp 8)) oNil))
def K35r4:OpsF:=(oVal (.tmp 9) (kLoad (some 2) (.tmp 1)) (oCall (.tmp 10) (.con (.func 52 [] [])) [(.tmp 9)] (oVal (.tmp 2) (kMove (.tmp 10)) oNil)))
theorem res35:Try.f35.results.toList=[.tmp 2]:=by kernel_rfl
def K35:K:=(kSeq (kRegion K35r0 [1,2]) (kSeq (kSeq (kRegion K35r1 [3]) (kSeq (kRegion K35r2 [7]) (kCond (.tmp 7) (kSeq (kRegion K35r3 [2]) kRet) kSkip))) (kSeq (kRegion K35r4 [2]) kRet)))
theorem enter35 (cl:CallF) (a0:AV) (s:St):enterA Try.prog X cl 35 [a0] s Try.f35=finA Try.prog Try.f35 (K35 cl ⟨35,none,Try.f35.ntmps,X 35⟩ (paramsEnv 0 [a0] .nil) [] s) :=
  enterA_eq (b:=Try.f35.body.getD .skip) (by kernel_rfl) (by kernel_rfl) (by kernel_rfl) (by kernel_rfl) (by kernel_rfl)
def K51r0:OpsF:=(oVal (.tmp 1) (kBox (tag 28) (.tmp 0)) (oVal (.tmp 2) (kMove (.con (.int .i64 0))) oNil))
def K51r1:OpsF:=(oVal (.tmp 8) (kUn (fadA 0) (.tmp 1)) (oVal (.tmp 9) (kLoad none (.tmp 8)) (oVal (.tmp 10) (kUn lenSlA (.tmp 9)) (oCall (.tmp 11) (.con (.func 65 [] [])) [(.tmp 10),(.con (.int .i64 1)),(.con (.int .i64 8))] (oVal (.tmp 3) (kMove (.tmp 11)) oNil)))))
def K51r2:OpsF:=(oVal (.tmp 12) (kMove (.tmp 3)) (oVal (.tmp 13) (kInt aNeq (.tmp 12) (.con (.int .i64 0))) oNil))
def K51r3:OpsF:=(oVal (.tmp 14) (kMove (.tmp 3)) (oVal (.tmp 2) (kMove (.tmp 14)) oNil))
def K51r4:OpsF:=(oVal (.tmp 15) (kUn (fadA 0) (.tmp 1)) (oVal (.tmp 16) (kLoad none (.tmp 15)) (oVal (.tmp 17) (kUn lenSlA (.tmp 16)) (oVal (.tmp 18) (kMove (.con (.int .i64 0))) oNil))))
def K51r5:OpsF:=(oVal (.tmp 19) (kInt aLss (.tmp 18) (.tmp 17)) oNil)
def K51r6:OpsF:=(oVal (.tmp 20) (kTwo (ixsA 3) (.tmp 16) (.tmp 18)) (oVal (.tmp 21) (kLoad (some 3) (.tmp 20)) (oVal (.tmp 5) (kAlloc [(.int .i64 0),(.int .i64 0),(.int .i64 0)] (tag 53)) (oVal .none (kStore 3 (.tmp 5) (.tmp 21)) oNil))))
def K51r7s7:OpsF:=(oVal (.tmp 29) (kPick (.tmp 25) (.con (.bool true)) (.tmp 28)) oNil)
def K51r7s6:OpsF:=(oIf 25 false (oVal (.tmp 28) (kGtr (.tmp 27) (.con (.int .i64 3))) K51r7s7) (oSkip (.tmp 28) K51r7s7))
def K51r7s5:OpsF:=(oIf 25 false (oVal (.tmp 27) (kLoad none (.tmp 26)) K51r7s6) (oSkip (.tmp 27) K51r7s6))
def K51r7:OpsF:=(oVal (.tmp 22) (kUn (fadA 0) (.tmp 5)) (oVal (.tmp 23) (kLoad none (.tmp 22)) (oVal (.tmp 24) (kInt aLss (.tmp 23) (.con (.int .i64 1))) (oVal (.tmp 25) (kMove (.tmp 24)) (oIf 25 false (oVal (.tmp 26) (kUn (fadA 0) (.tmp 5)) K51r7s5) (oSkip (.tmp 26) K51r7s5))))))
def K51r8:OpsF:=(oVal (.tmp 2) (kMove (.con (.int .i64 8))) oNil)
def K51r9:OpsF:=(oVal (.tmp 30) (kUn (fadA 1) (.tmp 5)) (oVal (.tmp 31) (kLoad none (.tmp 30)) (oCall (.tmp 32) (.con (.func 66 [] [])) [(.tmp 31),(.con (.int .i64 0)),(.con (.int .i64 1000000))] (oVal (.tmp 6) (kMove (.tmp 32)) oNil))))
def K51r10:OpsF:=(oVal (.tmp 33) (kMove (.tmp 6)) (oVal (.tmp 34) (kInt aNeq (.tmp 33) (.con (.int .i64 0))) oNil))
def K51r11:OpsF:=(oVal (.tmp 35) (kMove (.tmp 6)) (oVal (.tmp 2) (kMove (.tmp 35)) oNil))
def K51r12:OpsF:=(oVal (.tmp 36) (kUn (fadA 2) (.tmp 5)) (oVal (.tmp 37) (kLoad none (.tmp 36)) (oVal (.tmp 38) (kUn (fadA 1) (.tmp 1)) (oVal (.tmp 39) (kLoad none (.tmp 38)) (oVal (.tmp 40) (kUn lenSlA (.tmp 39)) (oCall (.tmp 41) (.con (.func 48 [] [])) [(.tmp 37),(.tmp 40)] (oVal (.tmp 7) (kMove (.tmp 41)) oNil)))))))
def K51r13s6:OpsF:=(oVal (.tmp 48) (kPick (.tmp 45) (.tmp 47) (.con (.bool false))) oNil)
def K51r13s5:OpsF:=(oIf 45 true (oVal (.tmp 47) (kInt aNeq (.tmp 46) (.con (.int .i64 0))) K51r13s6) (oSkip (.tmp 47) K51r13s6))
def K51r13:OpsF:=(oVal (.tmp 42) (kUn (fadA 2) (.tmp 5)) (oVal (.tmp 43) (kLoad none (.tmp 42)) (oVal (.tmp 44) (kInt aNeq (.tmp 43) (.con (.int .i64 (-1)))) (oVal (.tmp 45) (kMove (.tmp 44)) (oIf 45 true (oVal (.tmp 46) (kMove (.tmp 7)) K51r13s5) (oSkip (.tmp 46) K51r13s5))))))
def K51r14:OpsF:=(oVal (.tmp 49) (kMove (.tmp 7)) (oVal (.tmp 2) (kMove (.tmp 49)) oNil))
def K51r15:OpsF:=(oVal (.tmp 50) (kInt aAdd (.tmp 18) (.con (.int .i64 1))) (oVal (.tmp 18) (kMove (.tmp 50)) oNil))
def K51l0:K:=(kSeq (kRegion K51r5 [19]) (kSeq (kCond (.tmp 19) kSkip (kExit 0)) (kSeq (kBlock 1 (kSeq (kRegion K51r6 [5]) (kSeq (kSeq (kRegion K51r7 [29]) (kCond (.tmp 29) (kSeq (kRegion K51r8 [2]) kRet) kSkip)) (kSeq (kSeq (kRegion K51r9 [6]) (kSeq (kRegion K51r10 [34]) (kCond (.tmp 34) (kSeq (kRegion K51r11 [2]) kRet) kSkip))) (kSeq (kRegion K51r12 [7]) (kSeq (kRegion K51r13 [48]) (kCond (.tmp 48) (kSeq (kRegion K51r14 [2]) kRet) kSkip))))))) (kRegion K51r15 [18]))))
def K51r16:OpsF:=(oVal (.tmp 2) (kMove (.con (.int .i64 0))) oNil)
theorem res51:Try.f51.results.toList=[.tmp 2]:=by kernel_rfl
def K51:K:=(kSeq (kRegion K51r0 [1,2]) (kSeq (kSeq (kRegion K51r1 [3]) (kSeq (kRegion K51r2 [13]) (kCond (.tmp 13) (kSeq (kRegion K51r3 [2]) kRet) kSkip))) (kSeq (kSeq (kRegion K51r4 [16,17,18]) (kBlock 0 (kLoop K51l0))) (kSeq (kRegion K51r16 [2]) kRet))))
theorem enter51 (cl:CallF) (a0:AV) (s:St):enterA Try.prog X cl 51 [a0] s Try.f51=finA Try.prog Try.f51 (K51 cl ⟨51,none,Try.f51.ntmps,X 51⟩ (paramsEnv 0 [a0] .nil) [] s) :=
  enterA_eq (b:=Try.f51.body.getD .skip) (by kernel_rfl) (by kernel_rfl) (by kernel_rfl) (by kernel_rfl) (by kernel_rfl)
def K52r0:OpsF:=(oVal (.tmp 1) (kBox (tag 28) (.tmp 0)) (oVal (.tmp 2) (kMove (.con (.int .i64 0))) oNil))
def K52r1:OpsF:=(oVal (.tmp 7) (kUn (fadA 1) (.tmp 1)) (oVal (.tmp 8) (kLoad none (.tmp 7)) (oVal (.tmp 9) (kUn lenSlA (.tmp 8)) (oCall (.tmp 10) (.con (.func 65 [] [])) [(.tmp 9),(.con (.int .i64 0)),(.con (.int .i64 8))] (oVal (.tmp 3) (kMove (.tmp 10)) oNil)))))
def K52r2:OpsF:=(oVal (.tmp 11) (kMove (.tmp 3)) (oVal (.tmp 12) (kInt aNeq (.tmp 11) (.con (.int .i64 0))) oNil))
def K52r3:OpsF:=(oVal (.tmp 13) (kMove (.tmp 3)) (oVal (.tmp 2) (kMove (.tmp 13)) oNil))
def K52r4:OpsF:=(oVal (.tmp 14) (kUn (fadA 1) (.tmp 1)) (oVal (.tmp 15) (kLoad none (.tmp 14)) (oVal (.tmp 16) (kUn lenSlA (.tmp 15)) (oVal (.tmp 17) (kMove (.con (.int .i64 0))) oNil))))
def K52r5:OpsF:=(oVal (.tmp 18) (kInt aLss (.tmp 17) (.tmp 16)) oNil)
def K52r6:OpsF:=(oVal (.tmp 19) (kTwo (ixsA 4) (.tmp 15) (.tmp 17)) (oVal (.tmp 20) (kLoad (some 4) (.tmp 19)) (oVal (.tmp 5) (kAlloc [(.int .i64 0),(.int .i64 0),.nilslice,.nilslice] (tag 37)) (oVal .none (kStore 4 (.tmp 5) (.tmp 20)) oNil))))
def K52r7:OpsF:=(oEnd [] (oVal (.tmp 21) (kUn (fadA 0) (.tmp 5)) (oVal (.tmp 22) (kLoad none (.tmp 21)) (oCallT (some [24,27,29,30,5]) (.tmp 23) (.con (.func 66 [] [])) [(.tmp 22),(.con (.int .i64 0)),(.con (.int .i64 60))] (oVal (.tmp 24) (kUn (fadA 1) (.tmp 5)) (oVal (.tmp 25) (kLoad none (.tmp 24)) (oCallT (some [27,29,30,5]) (.tmp 26) (.con (.func 66 [] [])) [(.tmp 25),(.con (.int .i64 0)),(.con (.int .i64 1000000000))] (oVal (.tmp 27) (kUn (fadA 2) (.tmp 5)) (oVal (.tmp 28) (kLoad none (.tmp 27)) (oVal (.tmp 29) (kUn (fadA 0) (.tmp 1)) (oVal (.tmp 30) (kLoad none (.tmp 29)) (oVal (.tmp 31) (kUn lenSlA (.tmp 30)) (oCallT (some [5]) (.tmp 32) (.con (.func 67 [] [])) [(.tmp 28),(.tmp 31)] (oVal (.tmp 33) (kLoad (some 4) (.tmp 5)) (oCall (.tmp 34) (.con (.func 68 [] [])) [(.tmp 33)] (oVal (.tmp 35) (kBuildSlice [(.int .i64 0),(.int .i64 0),(.int .i64 0),(.int .i64 0)] 4 [(0,1,(.tmp 23)),(1,1,(.tmp 26)),(2,1,(.tmp 32)),(3,1,(.tmp 34))]) (oCall (.tmp 36) (.con (.func 47 [] [])) [(.tmp 35)] (oVal (.tmp 6) (kMove (.tmp 36)) oNil))))))))))))))))))
def K52r8:OpsF:=(oVal (.tmp 37) (kMove (.tmp 6)) (oVal (.tmp 38) (kInt aNeq (.tmp 37) (.con (.int .i64 0))) oNil))
def K52r9:OpsF:=(oVal (.tmp 39) (kMove (.tmp 6)) (oVal (.tmp 2) (kMove (.tmp 39)) oNil))
def K52r10:OpsF:=(oVal (.tmp 40) (kInt aAdd (.tmp 17) (.con (.int .i64 1))) (oVal (.tmp 17) (kMove (.tmp 40)) oNil))
def K52l0:K:=(kSeq (kRegion K52r5 [18]) (kSeq (kCond (.tmp 18) kSkip (kExit 0)) (kSeq (kBlock 1 (kSeq (kRegion K52r6 [5]) (kSeq (kRegionD K52r7 [6]) (kSeq (kRegion K52r8 [38]) (kCond (.tmp 38) (kSeq (kRegion K52r9 [2]) kRet) kSkip))))) (kRegion K52r10 [17]))))
def K52r11:OpsF:=(oVal (.tmp 2) (kMove (.con (.int .i64 0))) oNil)
theorem res52:Try.f52.results.toList=[.tmp 2]:=by kernel_rfl
def K52:K:=(kSeq (kRegion K52r0 [1,2]) (kSeq (kSeq (kRegion K52r1 [3]) (kSeq (kRegion K52r2 [12]) (kCond (.tmp 12) (kSeq (kRegion K52r3 [2]) kRet) kSkip))) (kSeq (kSeq (kRegion K52r4 [15,16,17]) (kBlock 0 (kLoop K52l0))) (kSeq (kRegion K52r11 [2]) kRet))))
theorem enter52 (cl:CallF) (a0:AV) (s:St):enterA Try.prog X cl 52 [a0] s Try.f52=finA Try.prog Try.f52 (K52 cl ⟨52,none,Try.f52.ntmps,X 52⟩ (paramsEnv 0 [a0] .nil) [] s) :=
  enterA_eq (b:=Try.f52.body.getD .skip) (by kernel_rfl) (by kernel_rfl) (by kernel_rfl) (by kernel_rfl) (by kernel_rfl)
def K67r0:OpsF:=(oVal (.tmp 4) (kMove (.con (.int .i64 0))) oNil)
def K67r1:OpsF:=(oVal (.tmp 8) (kMove (.tmp 0)) (oVal (.tmp 9) (kUn lenSlA (.tmp 8)) (oVal (.tmp 10) (kMove (.con (.int .i64 0))) oNil)))
def K67r2:OpsF:=(oVal (.tmp 11) (kInt aLss (.tmp 10) (.tmp 9)) oNil)
def K67r3:OpsF:=(oVal (.tmp 12) (kMove (.tmp 10)) (oVal (.tmp 13) (kTwo (ixsA 1) (.tmp 8) (.tmp 10)) (oVal (.tmp 14) (kLoad none (.tmp 13)) (oVal (.tmp 5) (kMove (.tmp 12)) (oVal (.tmp 6) (kMove (.tmp 14)) oNil)))))
def K67r4:OpsF:=(oVal (.tmp 15) (kMove (.tmp 6)) (oVal (.tmp 16) (kMove (.tmp 1)) (oCall (.tmp 17) (.con (.func 48 [] [])) [(.tmp 15),(.tmp 16)] (oVal (.tmp 7) (kMove (.tmp 17)) oNil))))
def K67r5:OpsF:=(oVal (.tmp 18) (kMove (.tmp 7)) (oVal (.tmp 19) (kInt aNeq (.tmp 18) (.con (.int .i64 0))) oNil))
def K67r6:OpsF:=(oVal (.tmp 20) (kMove (.tmp 7)) (oVal (.tmp 4) (kMove (.tmp 20)) oNil))
def K67r7:OpsF:=(oVal (.tmp 21) (kMove (.tmp 0)) (oVal (.tmp 22) (kMove (.tmp 5)) (oVal (.tmp 23) (kSlice (sliceVal 1) (.tmp 21) none (some (.tmp 22))) (oVal (.tmp 24) (kMove (.tmp 6)) (oCall (.tmp 25) (.con (.func 60 [] [])) [(.tmp 23),(.tmp 24)] oNil)))))
def K67r8:OpsF:=(oVal (.tmp 4) (kMove (.con (.int .i64 4))) oNil)
def K67r9:OpsF:=(oVal (.tmp 26) (kInt aAdd (.tmp 10) (.con (.int .i64 1))) (oVal (.tmp 10) (kMove (.tmp 26)) oNil))
def K67l0:K:=(kSeq (kRegion K67r2 [11]) (kSeq (kCond (.tmp 11) kSkip (kExit 0)) (kSeq (kBlock 1 (kSeq (kRegion K67r3 [5,6]) (kSeq (kSeq (kRegion K67r4 [7]) (kSeq (kRegion K67r5 [19]) (kCond (.tmp 19) (kSeq (kRegion K67r6 [4]) kRet) kSkip))) (kSeq (kRegion K67r7 [25]) (kCond (.tmp 25) (kSeq (kRegion K67r8 [4]) kRet) kSkip))))) (kRegion K67r9 [10]))))
def K67r10:OpsF:=(oVal (.tmp 4) (kMove (.con (.int .i64 0))) oNil)
theorem res67:Try.f67.results.toList=[.tmp 4]:=by kernel_rfl
def K67:K:=(kSeq (kRegion K67r0 [4]) (kSeq (kSeq (kRegion K67r1 [8,9,10]) (kBlock 0 (kLoop K67l0))) (kSeq (kRegion K67r10 [4]) kRet)))
theorem enter67 (cl:CallF) (a0 a1:AV) (s:St):enterA Try.prog X cl 67 [a0,a1] s Try.f67=finA Try.prog Try.f67 (K67 cl ⟨67,none,Try.f67.ntmps,X 67⟩ (paramsEnv 0 [a0,a1] .nil) [] s) :=
  enterA_eq (b:=Try.f67.body.getD .skip) (by kernel_rfl) (by kernel_rfl) (by kernel_rfl) (by kernel_rfl) (by kernel_rfl)
def K68r0:OpsF:=(oVal (.tmp 1) (kBox (tag 37) (.tmp 0)) (oVal (.tmp 2) (kMove (.con (.int .i64 0))) oNil))
def K68r1:OpsF:=(oVal (.tmp 6) (kUn (fadA 3) (.tmp 1)) (oVal (.tmp 7) (kLoad none (.tmp 6)) (oVal (.tmp 8) (kUn lenSlA (.tmp 7)) (oVal (.tmp 9) (kUn (fadA 2) (.tmp 1)) (oVal (.tmp 10) (kLoad none (.tmp 9)) (oVal (.tmp 11) (kUn lenSlA (.tmp 10)) (oVal (.tmp 12) (kInt aNeq (.tmp 8) (.tmp 11)) oNil)))))))
def K68r2:OpsF:=(oVal (.tmp 2) (kMove (.con (.int .i64 2))) oNil)
def K68r3:OpsF:=(oVal (.tmp 13) (kUn (fadA 3) (.tmp 1)) (oVal (.tmp 14) (kLoad none (.tmp 13)) (oVal (.tmp 15) (kUn lenSlA (.tmp 14)) (oVal (.tmp 16) (kMove (.con (.int .i64 0))) oNil))))
def K68r4:OpsF:=(oVal (.tmp 17) (kInt aLss (.tmp 16) (.tmp 15)) oNil)
def K68r5:OpsF:=(oVal (.tmp 18) (kTwo (ixsA 1) (.tmp 14) (.tmp 16)) (oVal (.tmp 19) (kLoad none (.tmp 18)) (oVal (.tmp 4) (kMove (.tmp 19)) oNil)))
def K68r6:OpsF:=(oVal (.tmp 20) (kMove (.tmp 4)) (oCall (.tmp 21) (.con (.func 66 [] [])) [(.tmp 20),(.con (.int .i64 0)),(.con (.int .i64 1000000))] (oVal (.tmp 5) (kMove (.tmp 21)) oNil)))
def K68r7:OpsF:=(oVal (.tmp 22) (kMove (.tmp 5)) (oVal (.tmp 23) (kInt aNeq (.tmp 22) (.con (.int .i64 0))) oNil))
def K68r8:OpsF:=(oVal (.tmp 24) (kMove (.tmp 5)) (oVal (.tmp 2) (kMove (.tmp 24)) oNil))
def K68r9:OpsF:=(oVal (.tmp 25) (kInt aAdd (.tmp 16) (.con (.int .i64 1))) (oVal (.tmp 16) (kMove (.tmp 25)) oNil))
def K68l0:K:=(kSeq (kRegion K68r4 [17]) (kSeq (kCond (.tmp 17) kSkip (kExit 0)) (kSeq (kBlock 1 (kSeq (kRegion K68r5 [4]) (kSeq (kRegion K68r6 [5]) (kSeq (kRegion K68r7 [23]) (kCond (.tmp 23) (kSeq (kRegion K68r8 [2]) kRet) kSkip))))) (kRegion K68r9 [16]))))
def K68r10:OpsF:=(oVal (.tmp 2) (kMove (.con (.int .i64 0))) oNil)
theorem res68:Try.f68.results.toList=[.tmp 2]:=by kernel_rfl
def K68:K:=(kSeq (kRegion K68r0 [1,2]) (kSeq (kSeq (kRegion K68r1 [12]) (kCond (.tmp 12) (kSeq (kRegion K68r2 [2]) kRet) kSkip)) (kSeq (kSeq (kRegion K68r3 [14,15,16]) (kBlock 0 (kLoop K68l0))) (kSeq (kRegion K68r10 [2]) kRet))))
theorem enter68 (cl:CallF) (a0:AV) (s:St):enterA Try.prog X cl 68 [a0] s Try.f68=finA Try.prog Try.f68 (K68 cl ⟨68,none,Try.f68.ntmps,X 68⟩ (paramsEnv 0 [a0] .nil) [] s) :=
  enterA_eq (b:=Try.f68.body.getD .skip) (by kernel_rfl) (by kernel_rfl) (by kernel_rfl) (by kernel_rfl) (by kernel_rfl)
def K60r0:OpsF:=(oVal (.tmp 4) (kMove (.con (.bool false))) oNil)
def K60r1:OpsF:=(oVal (.tmp 5) (kMove (.tmp 0)) (oVal (.tmp 6) (kMove (.tmp 1)) (oCall (.tmp 7) (.con (.func 83 [] [])) [(.tmp 5),(.tmp 6)] (oVal (.tmp 8) (kInt aGeq (.tmp 7) (.con (.int .i64 0))) (oVal (.tmp 4) (kMove (.tmp 8)) oNil)))))
theorem res60:Try.f60.results.toList=[.tmp 4]:=by kernel_rfl
def K60:K:=(kSeq (kRegion K60r0 [4]) (kSeq (kRegion K60r1 [4]) kRet))
theorem enter60 (cl:CallF) (a0 a1:AV) (s:St):enterA Try.prog X cl 60 [a0,a1] s Try.f60=finA Try.prog Try.f60 (K60 cl ⟨60,none,Try.f60.ntmps,X 60⟩ (paramsEnv 0 [a0,a1] .nil) [] s) :=
  enterA_eq (b:=Try.f60.body.getD .skip) (by kernel_rfl) (by kernel_rfl) (by kernel_rfl) (by kernel_rfl) (by kernel_rfl)
def K83r0:OpsF:=(oVal (.tmp 4) (kMove (.con (.int .i64 0))) oNil)
def K83r1:OpsF:=(oVal (.tmp 6) (kMove (.tmp 0)) (oVal (.tmp 7) (kUn lenSlA (.tmp 6)) (oVal (.tmp 8) (kMove (.con (.int .i64 0))) oNil)))
def K83r2:OpsF:=(oVal (.tmp 9) (kInt aLss (.tmp 8) (.tmp 7)) oNil)
def K83r3:OpsF:=(oVal (.tmp 10) (kMove (.tmp 8)) (oVal (.tmp 5) (kMove (.tmp 10)) oNil))
def K83r4:OpsF:=(oVal (.tmp 11) (kMove (.tmp 1)) (oVal (.tmp 12) (kMove (.tmp 0)) (oVal (.tmp 13) (kMove (.tmp 5)) (oVal (.tmp 14) (kTwo (ixsA 1) (.tmp 12) (.tmp 13)) (oVal (.tmp 15) (kLoad none (.tmp 14)) (oVal (.tmp 16) (kInt aEql (.tmp 11) (.tmp 15)) oNil))))))
def K83r5:OpsF:=(oVal (.tmp 17) (kMove (.tmp 5)) (oVal (.tmp 4) (kMove (.tmp 17)) oNil))
def K83r6:OpsF:=(oVal (.tmp 18) (kInt aAdd (.tmp 8) (.con (.int .i64 1))) (oVal (.tmp 8) (kMove (.tmp 18)) oNil))
def K83l0:K:=(kSeq (kRegion K83r2 [9]) (kSeq (kCond (.tmp 9) kSkip (kExit 0)) (kSeq (kBlock 1 (kSeq (kRegion K83r3 [5]) (kSeq (kRegion K83r4 [16]) (kCond (.tmp 16) (kSeq (kRegion K83r5 [4]) kRet) kSkip)))) (kRegion K83r6 [8]))))
def K83r7:OpsF:=(oVal (.tmp 4) (kMove (.con (.int .i64 (-1)))) oNil)
theorem res83:Try.f83.results.toList=[.tmp 4]:=by kernel_rfl
def K83:K:=(kSeq (kRegion K83r0 [4]) (kSeq (kSeq (kRegion K83r1 [7,8]) (kBlock 0 (kLoop K83l0))) (kSeq (kRegion K83r7 [4]) kRet)))
theorem enter83 (cl:CallF) (a0 a1:AV) (s:St):enterA Try.prog X cl 83 [a0,a1] s Try.f83=finA Try.prog Try.f83 (K83 cl ⟨83,none,Try.f83.ntmps,X 83⟩ (paramsEnv 0 [a0,a1] .nil) [] s) :=
  enterA_eq (b:=Try.f83.body.getD .skip) (by kernel_rfl) (by kernel_rfl) (by kernel_rfl) (by kernel_rfl) (by kernel_rfl)
end
end Go.Proofs.Ytbcjojljiochfaa.code
set_option maxRecDepth 100000
namespace Go.Proofs.Ytbcjojljiochfaa.code
open Go.Abs
noncomputable section
def K13r0:OpsF:=(oVal (.tmp 1) (kBox (tag 28) (.tmp 0)) (oVal (.tmp 2) (kMove (.con .nilslice)) (oVal (.tmp 3) (kMove (.con (.int .i64 0))) oNil)))
def K13r1:OpsF:=(oVal (.tmp 6) (kLoad (some 2) (.tmp 1)) (oCall (.tmp 7) (.con (.func 35 [] [])) [(.tmp 6)] (oVal (.tmp 4) (kMove (.tmp 7)) oNil)))
def K13r2:OpsF:=(oVal (.tmp 8) (kMove (.tmp 4)) (oVal (.tmp 9) (kInt aNeq (.tmp 8) (.con (.int .i64 0))) oNil))
def K13r3:OpsF:=(oVal (.tmp 10) (kMove (.tmp 4)) (oVal (.tmp 2) (kMove (.con .nilslice)) (oVal (.tmp 3) (kMove (.tmp 10)) oNil)))
def K13r4:OpsF:=(oVal (.tmp 11) (kLoad (some 2) (.tmp 1)) (oCall (.tmp 12) (.con (.func 36 [] [])) [(.tmp 11)] (oVal (.tmp 5) (kAlloc [(.int .i64 0),(.int .i64 0),(.int .i64 0),(.int .i64 0),(.int .i64 0),(.int .i64 0),(.int .i64 0),(.int .i64 0)] (tag 69)) (oVal .none (kStore 8 (.tmp 5) (.tmp 12)) oNil))))
def K13r5:OpsF:=(oVal (.tmp 13) (kUn (fadA 1) (.tmp 1)) (oVal (.tmp 14) (kLoad none (.tmp 13)) (oVal (.tmp 15) (kUn lenSlA (.tmp 14)) (oVal (.tmp 16) (kSlice (sliceArr 8 1) (.tmp 5) none (some (.tmp 15))) (oVal (.tmp 2) (kMove (.tmp 16)) (oVal (.tmp 3) (kMove (.con (.int .i64 0))) oNil))))))
theorem res13:Try.f13.results.toList=[.tmp 2,.tmp 3]:=by kernel_rfl
def K13:K:=(kSeq (kRegion K13r0 [1,2,3]) (kSeq (kSeq (kRegion K13r1 [4]) (kSeq (kRegion K13r2 [9]) (kCond (.tmp 9) (kSeq (kRegion K13r3 [2,3]) kRet) kSkip))) (kSeq (kRegion K13r4 [5]) (kSeq (kRegion K13r5 [2,3]) kRet))))
theorem enter13 (cl:CallF) (a0:AV) (s:St):enterA Try.prog X cl 13 [a0] s Try.f13=finA Try.prog Try.f13 (K13 cl ⟨13,none,Try.f13.ntmps,X 13⟩ (paramsEnv 0 [a0] .nil) [] s) :=
  enterA_eq (b:=Try.f13.body.getD .skip) (by kernel_rfl) (by kernel_rfl) (by kernel_rfl) (by kernel_rfl) (by kernel_rfl)
def K36r0:OpsF:=(oVal (.tmp 1) (kBox (tag 28) (.tmp 0)) (oVal (.tmp 2) (kAlloc [(.int .i64 0),(.int .i64 0),(.int .i64 0),(.int .i64 0),(.int .i64 0),(.int .i64 0),(.int .i64 0),(.int .i64 0)] (tag 69)) oNil))
def K36r1:OpsF:=(oVal (.tmp 3) (kAlloc [(.int .i64 0),(.int .i64 0),(.int .i64 0),(.int .i64 0),(.int .i64 0),(.int .i64 0),(.int .i64 0),(.int .i64 0)] (tag 69)) (oVal (.tmp 4) (kAlloc [(.int .i64 0),(.int .i64 0),(.int .i64 0),(.int .i64 0),(.int .i64 0),(.int .i64 0),(.int .i64 0),(.int .i64 0)] (tag 69)) oNil))
def K36r2:OpsF:=(oVal (.tmp 5) (kMove (.con (.int .i64 0))) oNil)
def K36r3:OpsF:=(oVal (.tmp 11) (kUn (fadA 1) (.tmp 1)) (oVal (.tmp 12) (kLoad none (.tmp 11)) (oVal (.tmp 13) (kUn lenSlA (.tmp 12)) (oVal (.tmp 14) (kMove (.con (.int .i64 0))) oNil))))
def K36r4:OpsF:=(oVal (.tmp 15) (kInt aLss (.tmp 14) (.tmp 13)) oNil)
def K36r5:OpsF:=(oVal (.tmp 16) (kMove (.tmp 14)) (oVal (.tmp 17) (kTwo (ixsA 4) (.tmp 12) (.tmp 14)) (oVal (.tmp 18) (kLoad (some 4) (.tmp 17)) (oVal (.tmp 7) (kAlloc [(.int .i64 0),(.int .i64 0),.nilslice,.nilslice] (tag 37)) (oVal (.tmp 6) (kMove (.tmp 16)) (oVal .none (kStore 4 (.tmp 7) (.tmp 18)) oNil))))))
def K36r6:OpsF:=(oVal (.tmp 19) (kMove (.tmp 6)) (oVal (.tmp 20) (kMove (.tmp 6)) (oVal (.tmp 21) (kTwo (ixaA 8 1) (.tmp 3) (.tmp 19)) (oVal .none (kStore 1 (.tmp 21) (.tmp 20)) oNil))))
def K36r7:OpsF:=(oVal (.tmp 22) (kMove (.tmp 5)) (oVal (.tmp 23) (kUn (fadA 1) (.tmp 7)) (oVal (.tmp 24) (kLoad none (.tmp 23)) (oVal (.tmp 25) (kInt aAdd (.tmp 22) (.tmp 24)) (oVal (.tmp 5) (kMove (.tmp 25)) oNil)))))
def K36r8:OpsF:=(oVal (.tmp 26) (kInt aAdd (.tmp 14) (.con (.int .i64 1))) (oVal (.tmp 14) (kMove (.tmp 26)) oNil))
def K36l0:K:=(kSeq (kRegion K36r4 [15]) (kSeq (kCond (.tmp 15) kSkip (kExit 0)) (kSeq (kBlock 1 (kSeq (kRegion K36r5 [7,6]) (kSeq (kRegion K36r6 []) (kRegion K36r7 [5])))) (kRegion K36r8 [14]))))
def K36r9:OpsF:=(oVal (.tmp 27) (kUn (fadA 1) (.tmp 1)) (oVal (.tmp 28) (kLoad none (.tmp 27)) (oVal (.tmp 29) (kUn lenSlA (.tmp 28)) (oVal (.tmp 30) (kMove (.con (.int .i64 0))) oNil))))
def K36r10:OpsF:=(oVal (.tmp 31) (kInt aLss (.tmp 30) (.tmp 29)) oNil)
def K36r11:OpsF:=(oVal (.tmp 32) (kMove (.tmp 30)) (oVal (.tmp 8) (kMove (.tmp 32)) oNil))
def K36r12:OpsF:=(oVal (.tmp 33) (kUn (fadA 1) (.tmp 1)) (oVal (.tmp 34) (kLoad none (.tmp 33)) (oVal (.tmp 35) (kUn lenSlA (.tmp 34)) (oVal (.tmp 36) (kMove (.tmp 8)) (oVal (.tmp 37) (kInt aSub (.tmp 35) (.tmp 36)) (oVal (.tmp 9) (kMove (.tmp 37)) oNil))))))
def K36r13:OpsF:=(oVal (.tmp 38) (kMove (.tmp 5)) (oVal (.tmp 39) (kMove (.tmp 9)) (oVal (.tmp 40) (kInt aRem (.tmp 38) (.tmp 39)) (oVal (.tmp 10) (kMove (.tmp 40)) oNil))))
def K36r14:OpsF:=(oVal (.tmp 41) (kMove (.tmp 8)) (oVal (.tmp 42) (kMove (.tmp 10)) (oVal (.tmp 43) (kTwo (ixaA 8 1) (.tmp 3) (.tmp 42)) (oVal (.tmp 44) (kLoad none (.tmp 43)) (oVal (.tmp 45) (kTwo (ixaA 8 1) (.tmp 4) (.tmp 41)) (oVal .none (kStore 1 (.tmp 45) (.tmp 44)) oNil))))))
def K36r15:OpsF:=(oVal (.tmp 46) (kLoad (some 8) (.tmp 3)) (oVal (.tmp 47) (kMove (.tmp 10)) (oCall (.tmp 48) (.con (.func 53 [] [])) [(.tmp 46),(.tmp 47)] (oVal .none (kStore 8 (.tmp 3) (.tmp 48)) oNil))))
def K36r16:OpsF:=(oVal (.tmp 49) (kMove (.tmp 5)) (oVal (.tmp 50) (kMove (.tmp 9)) (oVal (.tmp 51) (kInt aQuo (.tmp 49) (.tmp 50)) (oVal (.tmp 5) (kMove (.tmp 51)) oNil))))
def K36r17:OpsF:=(oVal (.tmp 52) (kInt aAdd (.tmp 30) (.con (.int .i64 1))) (oVal (.tmp 30) (kMove (.tmp 52)) oNil))
def K36l1:K:=(kSeq (kRegion K36r10 [31]) (kSeq (kCond (.tmp 31) kSkip (kExit 2)) (kSeq (kBlock 3 (kSeq (kRegion K36r11 [8]) (kSeq (kRegion K36r12 [9]) (kSeq (kRegion K36r13 [10]) (kSeq (kRegion K36r14 []) (kSeq (kRegion K36r15 []) (kRegion K36r16 [5]))))))) (kRegion K36r17 [30]))))
def K36r18:OpsF:=(oVal (.tmp 53) (kLoad (some 8) (.tmp 4)) (oVal .none (kStore 8 (.tmp 2) (.tmp 53)) oNil))
theorem res36:Try.f36.results.toList=[.cell 2 69]:=by kernel_rfl
def K36:K:=(kSeq (kRegion K36r0 [1,2]) (kSeq (kRegion K36r1 [3,4]) (kSeq (kRegion K36r2 [5]) (kSeq (kSeq (kRegion K36r3 [12,13,14]) (kBlock 0 (kLoop K36l0))) (kSeq (kSeq (kRegion K36r9 [29,30]) (kBlock 2 (kLoop K36l1))) (kSeq (kRegion K36r18 []) kRet))))))
theorem enter36 (cl:CallF) (a0:AV) (s:St):enterA Try.prog X cl 36 [a0] s Try.f36=finA Try.prog Try.f36 (K36 cl ⟨36,none,Try.f36.ntmps,X 36⟩ (paramsEnv 0 [a0] .nil) [] s) :=
  enterA_eq (b:=Try.f36.body.getD .skip) (by kernel_rfl) (by kernel_rfl) (by kernel_rfl) (by kernel_rfl) (by kernel_rfl)
def K53r0:OpsF:=(oVal (.tmp 2) (kBox (tag 69) (.tmp 0)) (oVal (.tmp 4) (kAlloc [(.int .i64 0),(.int .i64 0),(.int .i64 0),(.int .i64 0),(.int .i64 0),(.int .i64 0),(.int .i64 0),(.int .i64 0)] (tag 69)) oNil))
def K53r1:OpsF:=(oEnd [] (oVal (.tmp 5) (kMove (.tmp 1)) (oVal (.tmp 6) (kSlice (sliceArr 8 1) (.tmp 2) (some (.tmp 5)) none) (oVal (.tmp 7) (kMove (.tmp 1)) (oVal (.tmp 8) (kInt aAdd (.tmp 7) (.con (.int .i64 1))) (oVal (.tmp 9) (kSlice (sliceArr 8 1) (.tmp 2) (some (.tmp 8)) none) (oVal (.tmp 10) (kTwo (copyA 1) (.tmp 6) (.tmp 9)) oNil)))))))
def K53r2:OpsF:=(oVal (.tmp 11) (kLoad (some 8) (.tmp 2)) (oVal .none (kStore 8 (.tmp 4) (.tmp 11)) oNil))
theorem res53:Try.f53.results.toList=[.cell 4 69]:=by kernel_rfl
def K53:K:=(kSeq (kRegion K53r0 [2,4]) (kSeq (kRegionD K53r1 []) (kSeq (kRegion K53r2 []) kRet)))
theorem enter53 (cl:CallF) (a0 a1:AV) (s:St):enterA Try.prog X cl 53 [a0,a1] s Try.f53=finA Try.prog Try.f53 (K53 cl ⟨53,none,Try.f53.ntmps,X 53⟩ (paramsEnv 0 [a0,a1] .nil) [] s) :=
  enterA_eq (b:=Try.f53.body.getD .skip) (by kernel_rfl) (by kernel_rfl) (by kernel_rfl) (by kernel_rfl) (by kernel_rfl)
end
end Go.Proofs.Ytbcjojljiochfaa.code
set_option maxRecDepth 100000
namespace Go.Proofs.Ytbcjojljiochfaa.code
open Go.Abs
noncomputable section
def K32r0:OpsF:=(oVal (.tmp 2) (kMove (.con (.int .u64 0))) oNil)
def K32r1:OpsF:=(oVal (.tmp 4) (kMove (.tmp 0)) (oVal (.tmp 5) (kMove (.tmp 0)) (oVal (.tmp 6) (kUn nilA (.tmp 5)) (oVal (.tmp 7) (kUn (fadA 0) (.tmp 6)) (oVal (.tmp 8) (kLoad none (.tmp 7)) (oVal (.tmp 9) (kInt aAdd (.tmp 8) (.con (.int .u64 11562461410679940143))) (oVal (.tmp 10) (kUn nilA (.tmp 4)) (oVal (.tmp 11) (kUn (fadA 0) (.tmp 10)) (oVal .none (kStore 1 (.tmp 11) (.tmp 9)) oNil)))))))))
def K32r2:OpsF:=(oVal (.tmp 12) (kMove (.tmp 0)) (oVal (.tmp 13) (kUn nilA (.tmp 12)) (oVal (.tmp 14) (kUn (fadA 0) (.tmp 13)) (oVal (.tmp 15) (kLoad none (.tmp 14)) (oVal (.tmp 3) (kMove (.tmp 15)) oNil)))))
def K32r3:OpsF:=(oVal (.tmp 16) (kMove (.tmp 3)) (oVal (.tmp 17) (kMove (.tmp 3)) (oVal (.tmp 18) (kShr (.tmp 17) (.con (.int .u64 30))) (oVal (.tmp 19) (kInt aXor (.tmp 16) (.tmp 18)) (oVal (.tmp 20) (kInt aMul (.tmp 19) (.con (.int .u64 13787848793156543929))) (oVal (.tmp 3) (kMove (.tmp 20)) oNil))))))
def K32r4:OpsF:=(oVal (.tmp 21) (kMove (.tmp 3)) (oVal (.tmp 22) (kMove (.tmp 3)) (oVal (.tmp 23) (kShr (.tmp 22) (.con (.int .u64 27))) (oVal (.tmp 24) (kInt aXor (.tmp 21) (.tmp 23)) (oVal (.tmp 25) (kInt aMul (.tmp 24) (.con (.int .u64 10723151780598845931))) (oVal (.tmp 3) (kMove (.tmp 25)) oNil))))))
def K32r5:OpsF:=(oVal (.tmp 26) (kMove (.tmp 3)) (oVal (.tmp 27) (kMove (.tmp 3)) (oVal (.tmp 28) (kShr (.tmp 27) (.con (.int .u64 31))) (oVal (.tmp 29) (kInt aXor (.tmp 26) (.tmp 28)) (oVal (.tmp 2) (kMove (.tmp 29)) oNil)))))
theorem res32:Try.f32.results.toList=[.tmp 2]:=by kernel_rfl
def K32:K:=(kSeq (kRegion K32r0 [2]) (kSeq (kRegion K32r1 []) (kSeq (kRegion K32r2 [3]) (kSeq (kRegion K32r3 [3]) (kSeq (kRegion K32r4 [3]) (kSeq (kRegion K32r5 [2]) kRet))))))
theorem enter32 (cl:CallF) (a0:AV) (s:St):enterA Try.prog X cl 32 [a0] s Try.f32=finA Try.prog Try.f32 (K32 cl ⟨32,none,Try.f32.ntmps,X 32⟩ (paramsEnv 0 [a0] .nil) [] s) :=
  enterA_eq (b:=Try.f32.body.getD .skip) (by kernel_rfl) (by kernel_rfl) (by kernel_rfl) (by kernel_rfl) (by kernel_rfl)
def K15r0:OpsF:=(oVal (.tmp 4) (kMove (.con (.int .i64 0))) oNil)
def K15r1:OpsF:=(oVal (.tmp 5) (kMove (.tmp 1)) (oVal (.tmp 6) (kInt aLss (.tmp 5) (.con (.int .i64 2))) oNil))
def K15r2:OpsF:=(oVal (.tmp 4) (kMove (.con (.int .i64 0))) oNil)
def K15r3:OpsF:=(oVal (.tmp 7) (kMove (.tmp 0)) (oCall (.tmp 8) (.con (.func 32 [] [])) [(.tmp 7)] (oVal (.tmp 9) (kShr (.tmp 8) (.con (.int .u64 2))) (oVal (.tmp 10) (kMove (.tmp 1)) (oVal (.tmp 11) (kUn (cviA .u64) (.tmp 10)) (oVal (.tmp 12) (kInt aRem (.tmp 9) (.tmp 11)) (oVal (.tmp 13) (kUn (cviA .i64) (.tmp 12)) (oVal (.tmp 4) (kMove (.tmp 13)) oNil))))))))
theorem res15:Try.f15.results.toList=[.tmp 4]:=by kernel_rfl
def K15:K:=(kSeq (kRegion K15r0 [4]) (kSeq (kSeq (kRegion K15r1 [6]) (kCond (.tmp 6) (kSeq (kRegion K15r2 [4]) kRet) kSkip)) (kSeq (kRegion K15r3 [4]) kRet)))
theorem enter15 (cl:CallF) (a0 a1:AV) (s:St):enterA Try.prog X cl 15 [a0,a1] s Try.f15=finA Try.prog Try.f15 (K15 cl ⟨15,none,Try.f15.ntmps,X 15⟩ (paramsEnv 0 [a0,a1] .nil) [] s) :=
  enterA_eq (b:=Try.f15.body.getD .skip) (by kernel_rfl) (by kernel_rfl) (by kernel_rfl) (by kernel_rfl) (by kernel_rfl)
def K26r0:OpsF:=(oVal (.tmp 6) (kMove (.con (.int .i64 0))) oNil)
def K26r1:OpsF:=(oVal (.tmp 7) (kMove (.tmp 1)) (oVal (.tmp 8) (kMove (.tmp 0)) (oVal (.tmp 9) (kMove (.tmp 2)) (oVal (.tmp 10) (kMove (.tmp 1)) (oVal (.tmp 11) (kInt aSub (.tmp 9) (.tmp 10)) (oVal (.tmp 12) (kInt aAdd (.tmp 11) (.con (.int .i64 1))) (oCall (.tmp 13) (.con (.func 15 [] [])) [(.tmp 8),(.tmp 12)] (oVal (.tmp 14) (kInt aAdd (.tmp 7) (.tmp 13)) (oVal (.tmp 6) (kMove (.tmp 14)) oNil)))))))))
theorem res26:Try.f26.results.toList=[.tmp 6]:=by kernel_rfl
def K26:K:=(kSeq (kRegion K26r0 [6]) (kSeq (kRegion K26r1 [6]) kRet))
theorem enter26 (cl:CallF) (a0 a1 a2:AV) (s:St):enterA Try.prog X cl 26 [a0,a1,a2] s Try.f26=finA Try.prog Try.f26 (K26 cl ⟨26,none,Try.f26.ntmps,X 26⟩ (paramsEnv 0 [a0,a1,a2] .nil) [] s) :=
  enterA_eq (b:=Try.f26.body.getD .skip) (by kernel_rfl) (by kernel_rfl) (by kernel_rfl) (by kernel_rfl) (by kernel_rfl)
def K27r0:OpsF:=(oVal (.tmp 4) (kMove (.con (.bool false))) oNil)
def K27r1:OpsF:=(oVal (.tmp 5) (kMove (.tmp 0)) (oVal (.tmp 6) (kMove (.tmp 1)) (oCall (.tmp 7) (.con (.func 15 [] [])) [(.tmp 5),(.tmp 6)] (oVal (.tmp 8) (kInt aEql (.tmp 7) (.con (.int .i64 0))) (oVal (.tmp 4) (kMove (.tmp 8)) oNil)))))
theorem res27:Try.f27.results.toList=[.tmp 4]:=by kernel_rfl
def K27:K:=(kSeq (kRegion K27r0 [4]) (kSeq (kRegion K27r1 [4]) kRet))
theorem enter27 (cl:CallF) (a0 a1:AV) (s:St):enterA Try.prog X cl 27 [a0,a1] s Try.f27=finA Try.prog Try.f27 (K27 cl ⟨27,none,Try.f27.ntmps,X 27⟩ (paramsEnv 0 [a0,a1] .nil) [] s) :=
  enterA_eq (b:=Try.f27.body.getD .skip) (by kernel_rfl) (by kernel_rfl) (by kernel_rfl) (by kernel_rfl) (by kernel_rfl)
def K33r0:OpsF:=(oVal (.tmp 4) (kMove (.con (.int .i64 0))) oNil)
def K33r1:OpsF:=(oVal (.tmp 5) (kMove (.tmp 1)) (oVal (.tmp 6) (kUn lenSlA (.tmp 5)) (oVal (.tmp 7) (kInt aEql (.tmp 6) (.con (.int .i64 0))) oNil)))
def K33r2:OpsF:=(oVal (.tmp 4) (kMove (.con (.int .i64 0))) oNil)
def K33r3:OpsF:=(oVal (.tmp 8) (kMove (.tmp 1)) (oVal (.tmp 9) (kMove (.tmp 0)) (oVal (.tmp 10) (kMove (.tmp 1)) (oVal (.tmp 11) (kUn lenSlA (.tmp 10)) (oCall (.tmp 12) (.con (.func 15 [] [])) [(.tmp 9),(.tmp 11)] (oVal (.tmp 13) (kTwo (ixsA 1) (.tmp 8) (.tmp 12)) (oVal (.tmp 14) (kLoad none (.tmp 13)) (oVal (.tmp 4) (kMove (.tmp 14)) oNil))))))))
theorem res33:Try.f33.results.toList=[.tmp 4]:=by kernel_rfl
def K33:K:=(kSeq (kRegion K33r0 [4]) (kSeq (kSeq (kRegion K33r1 [7]) (kCond (.tmp 7) (kSeq (kRegion K33r2 [4]) kRet) kSkip)) (kSeq (kRegion K33r3 [4]) kRet)))
theorem enter33 (cl:CallF) (a0 a1:AV) (s:St):enterA Try.prog X cl 33 [a0,a1] s Try.f33=finA Try.prog Try.f33 (K33 cl ⟨33,none,Try.f33.ntmps,X 33⟩ (paramsEnv 0 [a0,a1] .nil) [] s) :=
  enterA_eq (b:=Try.f33.body.getD .skip) (by kernel_rfl) (by kernel_rfl) (by kernel_rfl) (by kernel_rfl) (by kernel_rfl)
def K34r0:OpsF:=(oVal (.tmp 4) (kMove (.con .nilslice)) oNil)
def K34r1:OpsF:=(oVal (.tmp 8) (kMove (.tmp 1)) (oVal (.tmp 9) (kFold maxA (.con (.int .i64 0)) [(.tmp 8)]) (oVal (.tmp 10) (kMake [(.int .i64 0)] 8 (.tmp 9) (.tmp 9)) (oVal (.tmp 5) (kMove (.tmp 10)) oNil))))
def K34r2:OpsF:=(oVal (.tmp 6) (kMove (.con (.int .i64 0))) oNil)
def K34r3:OpsF:=(oVal (.tmp 11) (kMove (.tmp 6)) (oVal (.tmp 12) (kMove (.tmp 5)) (oVal (.tmp 13) (kUn lenSlA (.tmp 12)) (oVal (.tmp 14) (kInt aLss (.tmp 11) (.tmp 13)) oNil))))
def K34r4:OpsF:=(oVal (.tmp 17) (kMove (.tmp 0)) (oVal (.tmp 18) (kMove (.tmp 6)) (oVal (.tmp 19) (kInt aAdd (.tmp 18) (.con (.int .i64 1))) (oCall (.tmp 20) (.con (.func 15 [] [])) [(.tmp 17),(.tmp 19)] (oVal (.tmp 7) (kMove (.tmp 20)) oNil)))))
def K34r5:OpsF:=(oVal (.tmp 21) (kMove (.tmp 5)) (oVal (.tmp 22) (kMove (.tmp 6)) (oVal (.tmp 23) (kMove (.tmp 5)) (oVal (.tmp 24) (kMove (.tmp 7)) (oVal (.tmp 25) (kTwo (ixsA 1) (.tmp 23) (.tmp 24)) (oVal (.tmp 26) (kLoad none (.tmp 25)) (oVal (.tmp 27) (kTwo (ixsA 1) (.tmp 21) (.tmp 22)) (oVal .none (kStore 1 (.tmp 27) (.tmp 26)) oNil))))))))
def K34r6:OpsF:=(oVal (.tmp 28) (kMove (.tmp 5)) (oVal (.tmp 29) (kMove (.tmp 7)) (oVal (.tmp 30) (kMove (.tmp 6)) (oVal (.tmp 31) (kTwo (ixsA 1) (.tmp 28) (.tmp 29)) (oVal .none (kStore 1 (.tmp 31) (.tmp 30)) oNil)))))
def K34r7:OpsF:=(oVal (.tmp 15) (kMove (.tmp 6)) (oVal (.tmp 16) (kInt aAdd (.tmp 15) (.con (.int .i64 1))) (oVal (.tmp 6) (kMove (.tmp 16)) oNil)))
def K34l0:K:=(kSeq (kSeq (kRegion K34r3 [14]) (kCond (.tmp 14) kSkip (kExit 0))) (kSeq (kBlock 1 (kSeq (kRegion K34r4 [7]) (kSeq (kRegion K34r5 []) (kRegion K34r6 [])))) (kRegion K34r7 [6])))
def K34r8:OpsF:=(oVal (.tmp 32) (kMove (.tmp 5)) (oVal (.tmp 4) (kMove (.tmp 32)) oNil))
theorem res34:Try.f34.results.toList=[.tmp 4]:=by kernel_rfl
def K34:K:=(kSeq (kRegion K34r0 [4]) (kSeq (kRegion K34r1 [5]) (kSeq (kSeq (kRegion K34r2 [6]) (kBlock 0 (kLoop K34l0))) (kSeq (kRegion K34r8 [4]) kRet))))
theorem enter34 (cl:CallF) (a0 a1:AV) (s:St):enterA Try.prog X cl 34 [a0,a1] s Try.f34=finA Try.prog Try.f34 (K34 cl ⟨34,none,Try.f34.ntmps,X 34⟩ (paramsEnv 0 [a0,a1] .nil) [] s) :=
  enterA_eq (b:=Try.f34.body.getD .skip) (by kernel_rfl) (by kernel_rfl) (by kernel_rfl) (by kernel_rfl) (by kernel_rfl)
end
end Go.Proofs.Ytbcjojljiochfaa.code
set_option maxRecDepth 100000
namespace Go.Proofs.Ytbcjojljiochfaa.code
open Go.Abs
noncomputable section
def K12r0:OpsF:=(oVal (.tmp 6) (kAlloc [.nilslice,.nilslice] (tag 28)) oNil)
def K12r1:OpsF:=(oVal (.tmp 7) (kAlloc [.nilslice,.nilslice] (tag 28)) oNil)
def K12r2:OpsF:=(oVal (.tmp 14) (kMove (.tmp 0)) (oVal (.tmp 15) (kMove (.tmp 2)) (oVal (.tmp 16) (kInt aAdd (.tmp 15) (.con (.int .i64 1))) (oCall (.tmp 17) (.con (.func 15 [] [])) [(.tmp 14),(.tmp 16)] (oVal (.tmp 8) (kMove (.tmp 17)) oNil)))))
def K12r3:OpsF:=(oVal (.tmp 18) (kMove (.tmp 0)) (oVal (.tmp 19) (kMove (.tmp 1)) (oCall (.tmp 20) (.con (.func 26 [] [])) [(.tmp 18),(.con (.int .i64 1)),(.tmp 19)] (oVal (.tmp 9) (kMove (.tmp 20)) oNil))))
def K12r4:OpsF:=(oVal (.tmp 21) (kMove (.tmp 9)) (oVal (.tmp 22) (kGtr (.tmp 21) (.con (.int .i64 0))) oNil))
def K12r5:OpsF:=(oVal (.tmp 25) (kMove (.tmp 0)) (oCall (.tmp 26) (.con (.func 26 [] [])) [(.tmp 25),(.con (.int .i64 1)),(.con (.int .i64 3))] (oVal (.tmp 27) (kMove (.tmp 0)) (oVal (.tmp 28) (kMove (.tmp 0)) (oCall (.tmp 29) (.con (.func 15 [] [])) [(.tmp 28),(.con (.int .i64 10))] (oVal (.tmp 30) (kMove (.tmp 0)) (oCall (.tmp 31) (.con (.func 15 [] [])) [(.tmp 30),(.con (.int .i64 1000))] (oVal (.tmp 32) (kBuildSlice [(.int .i64 0),(.int .i64 0),(.int .i64 0)] 3 [(0,1,(.con (.int .i64 0))),(1,1,(.tmp 29)),(2,1,(.tmp 31))]) (oCall (.tmp 33) (.con (.func 33 [] [])) [(.tmp 27),(.tmp 32)] (oVal (.tmp 34) (kBuild [(.int .i64 0),(.int .i64 0),(.int .i64 0)] [(0,1,(.tmp 26)),(1,1,(.tmp 33)),(2,1,(.con (.int .i64 (-1))))]) (oVal (.tmp 10) (kAlloc [(.int .i64 0),(.int .i64 0),(.int .i64 0)] (tag 53)) (oVal .none (kStore 3 (.tmp 10) (.tmp 34)) oNil))))))))))))
def K12r6:OpsF:=(oVal (.tmp 35) (kMove (.tmp 0)) (oCall (.tmp 36) (.con (.func 27 [] [])) [(.tmp 35),(.con (.int .i64 4))] oNil))
def K12r7:OpsF:=(oVal (.tmp 37) (kMove (.tmp 0)) (oVal (.tmp 38) (kMove (.tmp 8)) (oVal (.tmp 39) (kInt aSub (.tmp 38) (.con (.int .i64 1))) (oCall (.tmp 40) (.con (.func 26 [] [])) [(.tmp 37),(.con (.int .i64 (-1))),(.tmp 39)] (oVal (.tmp 41) (kUn (fadA 2) (.tmp 10)) (oVal .none (kStore 1 (.tmp 41) (.tmp 40)) oNil))))))
def K12r8:OpsF:=(oVal (.tmp 42) (kUn (fadA 0) (.tmp 7)) (oVal (.tmp 43) (kLoad none (.tmp 42)) (oVal (.tmp 44) (kLoad (some 3) (.tmp 10)) (oVal (.tmp 45) (kBuildSlice [(.int .i64 0),(.int .i64 0),(.int .i64 0)] 1 [(0,3,(.tmp 44))]) (oVal (.tmp 46) (kTwo (appendA false 3 24 (tag 53)) (.tmp 43) (.tmp 45)) (oVal (.tmp 47) (kUn (fadA 0) (.tmp 7)) (oVal .none (kStore 1 (.tmp 47) (.tmp 46)) oNil)))))))
def K12r9:OpsF:=(oVal (.tmp 23) (kMove (.tmp 9)) (oVal (.tmp 24) (kInt aSub (.tmp 23) (.con (.int .i64 1))) (oVal (.tmp 9) (kMove (.tmp 24)) oNil)))
def K12l0:K:=(kSeq (kSeq (kRegion K12r4 [22]) (kCond (.tmp 22) kSkip (kExit 0))) (kSeq (kBlock 1 (kSeq (kRegion K12r5 [10]) (kSeq (kSeq (kRegion K12r6 [36]) (kCond (.tmp 36) (kRegion K12r7 []) kSkip)) (kRegion K12r8 [])))) (kRegion K12r9 [9])))
def K12r10:OpsF:=(oVal (.tmp 11) (kMove (.con (.int .i64 0))) oNil)
def K12r11:OpsF:=(oVal (.tmp 48) (kMove (.tmp 11)) (oVal (.tmp 49) (kMove (.tmp 8)) (oVal (.tmp 50) (kInt aLss (.tmp 48) (.tmp 49)) oNil)))
def K12r12:OpsF:=(oVal (.tmp 53) (kMove (.tmp 0)) (oCall (.tmp 54) (.con (.func 15 [] [])) [(.tmp 53),(.con (.int .i64 5))] (oVal (.tmp 55) (kMove (.tmp 0)) (oVal (.tmp 56) (kMove (.tmp 0)) (oCall (.tmp 57) (.con (.func 15 [] [])) [(.tmp 56),(.con (.int .i64 10))] (oVal (.tmp 58) (kMove (.tmp 0)) (oCall (.tmp 59) (.con (.func 15 [] [])) [(.tmp 58),(.con (.int .i64 1000000001))] (oVal (.tmp 60) (kBuildSlice [(.int .i64 0),(.int .i64 0)] 2 [(0,1,(.tmp 57)),(1,1,(.tmp 59))]) (oCall (.tmp 61) (.con (.func 33 [] [])) [(.tmp 55),(.tmp 60)] (oVal (.tmp 62) (kBuild [(.int .i64 0),(.int .i64 0),.nilslice,.nilslice] [(0,1,(.tmp 54)),(1,1,(.tmp 61))]) (oVal (.tmp 12) (kAlloc [(.int .i64 0),(.int .i64 0),.nilslice,.nilslice] (tag 37)) (oVal .none (kStore 4 (.tmp 12) (.tmp 62)) oNil))))))))))))
def K12r13:OpsF:=(oVal (.tmp 63) (kMove (.tmp 0)) (oVal (.tmp 64) (kUn (fadA 0) (.tmp 7)) (oVal (.tmp 65) (kLoad none (.tmp 64)) (oVal (.tmp 66) (kUn lenSlA (.tmp 65)) (oCall (.tmp 67) (.con (.func 34 [] [])) [(.tmp 63),(.tmp 66)] (oVal (.tmp 68) (kUn (fadA 2) (.tmp 12)) (oVal .none (kStore 1 (.tmp 68) (.tmp 67)) oNil)))))))
def K12r14:OpsF:=(oVal (.tmp 69) (kMove (.tmp 0)) (oCall (.tmp 70) (.con (.func 27 [] [])) [(.tmp 69),(.con (.int .i64 2))] oNil))
def K12r15:OpsF:=(oEnd [] (oVal (.tmp 71) (kUn (fadA 2) (.tmp 12)) (oVal (.tmp 72) (kLoad none (.tmp 71)) (oVal (.tmp 73) (kMove (.tmp 0)) (oVal (.tmp 74) (kUn (fadA 2) (.tmp 12)) (oVal (.tmp 75) (kLoad none (.tmp 74)) (oVal (.tmp 76) (kUn lenSlA (.tmp 75)) (oVal (.tmp 77) (kInt aAdd (.tmp 76) (.con (.int .i64 1))) (oCallT (some [71]) (.tmp 78) (.con (.func 15 [] [])) [(.tmp 73),(.tmp 77)] (oVal (.tmp 79) (kSlice (sliceVal 1) (.tmp 72) none (some (.tmp 78))) (oVal (.tmp 80) (kUn (fadA 2) (.tmp 12)) (oVal .none (kStore 1 (.tmp 80) (.tmp 79)) oNil))))))))))))
def K12r16:OpsF:=(oVal (.tmp 13) (kMove (.con (.int .i64 0))) oNil)
def K12r17:OpsF:=(oVal (.tmp 81) (kMove (.tmp 13)) (oVal (.tmp 82) (kUn (fadA 2) (.tmp 12)) (oVal (.tmp 83) (kLoad none (.tmp 82)) (oVal (.tmp 84) (kUn lenSlA (.tmp 83)) (oVal (.tmp 85) (kInt aLss (.tmp 81) (.tmp 84)) oNil)))))
def K12r18:OpsF:=(oEnd [] (oVal (.tmp 88) (kUn (fadA 3) (.tmp 12)) (oVal (.tmp 89) (kLoad none (.tmp 88)) (oVal (.tmp 90) (kUn (fadA 0) (.tmp 7)) (oVal (.tmp 91) (kLoad none (.tmp 90)) (oVal (.tmp 92) (kUn (fadA 2) (.tmp 12)) (oVal (.tmp 93) (kLoad none (.tmp 92)) (oVal (.tmp 94) (kMove (.tmp 13)) (oVal (.tmp 95) (kTwo (ixsA 1) (.tmp 93) (.tmp 94)) (oVal (.tmp 96) (kLoad none (.tmp 95)) (oVal (.tmp 97) (kTwo (ixsA 3) (.tmp 91) (.tmp 96)) (oVal (.tmp 98) (kUn (fadA 1) (.tmp 97)) (oVal (.tmp 99) (kLoad none (.tmp 98)) (oVal (.tmp 100) (kMove (.tmp 0)) (oVal (.tmp 101) (kMove (.tmp 0)) (oCallT (some [88,90,92,95,98]) (.tmp 102) (.con (.func 15 [] [])) [(.tmp 101),(.con (.int .i64 8))] (oVal (.tmp 103) (kBuildSlice [(.int .i64 0),(.int .i64 0),(.int .i64 0),(.int .i64 0)] 4 [(0,1,(.con (.int .i64 0))),(1,1,(.con (.int .i64 1))),(2,1,(.con (.int .i64 (-1)))),(3,1,(.tmp 102))]) (oCallT (some [88,90,92,95,98]) (.tmp 104) (.con (.func 33 [] [])) [(.tmp 100),(.tmp 103)] (oVal (.tmp 105) (kInt aAdd (.tmp 99) (.tmp 104)) (oVal (.tmp 106) (kFold maxA (.con (.int .i64 0)) [(.tmp 105)]) (oVal (.tmp 107) (kBuildSlice [(.int .i64 0)] 1 [(0,1,(.tmp 106))]) (oVal (.tmp 108) (kTwo (appendA false 1 8 (tag 3)) (.tmp 89) (.tmp 107)) (oVal (.tmp 109) (kUn (fadA 3) (.tmp 12)) (oVal .none (kStore 1 (.tmp 109) (.tmp 108)) oNil))))))))))))))))))))))))
def K12r19:OpsF:=(oVal (.tmp 86) (kMove (.tmp 13)) (oVal (.tmp 87) (kInt aAdd (.tmp 86) (.con (.int .i64 1))) (oVal (.tmp 13) (kMove (.tmp 87)) oNil)))
def K12l1:K:=(kSeq (kSeq (kRegion K12r17 [85]) (kCond (.tmp 85) kSkip (kExit 4))) (kSeq (kBlock 5 (kRegionD K12r18 [])) (kRegion K12r19 [13])))
def K12r20:OpsF:=(oVal (.tmp 110) (kUn (fadA 1) (.tmp 7)) (oVal (.tmp 111) (kLoad none (.tmp 110)) (oVal (.tmp 112) (kLoad (some 4) (.tmp 12)) (oVal (.tmp 113) (kBuildSlice [(.int .i64 0),(.int .i64 0),.nilslice,.nilslice] 1 [(0,4,(.tmp 112))]) (oVal (.tmp 114) (kTwo (appendA false 4 64 (tag 37)) (.tmp 111) (.tmp 113)) (oVal (.tmp 115) (kUn (fadA 1) (.tmp 7)) (oVal .none (kStore 1 (.tmp 115) (.tmp 114)) oNil)))))))
def K12r21:OpsF:=(oVal (.tmp 51) (kMove (.tmp 11)) (oVal (.tmp 52) (kInt aAdd (.tmp 51) (.con (.int .i64 1))) (oVal (.tmp 11) (kMove (.tmp 52)) oNil)))
def K12l2:K:=(kSeq (kSeq (kRegion K12r11 [50]) (kCond (.tmp 50) kSkip (kExit 2))) (kSeq (kBlock 3 (kSeq (kRegion K12r12 [12]) (kSeq (kRegion K12r13 []) (kSeq (kSeq (kRegion K12r14 [70]) (kCond (.tmp 70) (kRegionD K12r15 []) kSkip)) (kSeq (kSeq (kRegion K12r16 [13]) (kBlock 4 (kLoop K12l1))) (kRegion K12r20 [])))))) (kRegion K12r21 [11])))
def K12r22:OpsF:=(oVal (.tmp 116) (kLoad (some 2) (.tmp 7)) (oVal .none (kStore 2 (.tmp 6) (.tmp 116)) oNil))
theorem res12:Try.f12.results.toList=[.cell 6 28]:=by kernel_rfl
def K12:K:=(kSeq (kRegion K12r0 [6]) (kSeq (kRegion K12r1 [7]) (kSeq (kRegion K12r2 [8]) (kSeq (kSeq (kRegion K12r3 [9]) (kBlock 0 (kLoop K12l0))) (kSeq (kSeq (kRegion K12r10 [11]) (kBlock 2 (kLoop K12l2))) (kSeq (kRegion K12r22 []) kRet))))))
theorem enter12 (cl:CallF) (a0 a1 a2:AV) (s:St):enterA Try.prog X cl 12 [a0,a1,a2] s Try.f12=finA Try.prog Try.f12 (K12 cl ⟨12,none,Try.f12.ntmps,X 12⟩ (paramsEnv 0 [a0,a1,a2] .nil) [] s) :=
  enterA_eq (b:=Try.f12.body.getD .skip) (by kernel_rfl) (by kernel_rfl) (by kernel_rfl) (by kernel_rfl) (by kernel_rfl)
end
end Go.Proofs.Ytbcjojljiochfaa.code
set_option maxRecDepth 100000
namespace Go.Proofs.Ytbcjojljiochfaa.code
open Go.Abs
noncomputable section
def K3r0:OpsF:=(oVal (.tmp 2) (kMove (.con (.bool false))) oNil)
def K3r1:OpsF:=(oVal (.tmp 18) (kMove (.tmp 0)) (oCall (.tmp 19) (.con (.func 11 [] [])) [(.tmp 18)] (oVal (.tmp 3) (kMove (.tmp 19)) oNil)))
def K3r2:OpsF:=(oVal (.tmp 20) (kMove (.tmp 3)) (oCall (.tmp 21) (.con (.func 12 [] [])) [(.tmp 20),(.con (.int .i64 3)),(.con (.int .i64 4))] (oVal (.tmp 4) (kAlloc [.nilslice,.nilslice] (tag 28)) (oVal .none (kStore 2 (.tmp 4) (.tmp 21)) oNil))))
def K3r3:OpsF:=(oVal (.tmp 22) (kUn (fadA 1) (.tmp 4)) (oVal (.tmp 23) (kLoad none (.tmp 22)) (oVal (.tmp 24) (kUn lenSlA (.tmp 23)) (oVal (.tmp 5) (kMove (.tmp 24)) oNil))))
def K3r4:OpsF:=(oVal (.tmp 25) (kMove (.tmp 5)) (oVal (.tmp 26) (kInt aEql (.tmp 25) (.con (.int .i64 0))) oNil))
def K3r5:OpsF:=(oVal (.tmp 28) (kLoad (some 2) (.tmp 4)) (oCall (.tmp 29) (.con (.func 13 [] [])) [(.tmp 28)] (oVal (.tmp 27) (kMove (.tmp 29)) (oVal (.tmp 30) (kUn (extA 0) (.tmp 27)) (oVal (.tmp 31) (kUn (extA 1) (.tmp 27)) (oVal (.tmp 6) (kMove (.tmp 30)) (oVal (.tmp 7) (kMove (.tmp 31)) oNil)))))))
def K3r6s9:OpsF:=(oVal (.tmp 41) (kPick (.tmp 39) (.tmp 40) (.con (.bool false))) (oVal (.tmp 2) (kMove (.tmp 41)) oNil))
def K3r6s6:OpsF:=(oVal (.tmp 38) (kPick (.tmp 34) (.tmp 37) (.con (.bool false))) (oVal (.tmp 39) (kMove (.tmp 38)) (oIf 39 true (oCall (.tmp 40) (.con (.func 14 [] [])) [] K3r6s9) (oSkip (.tmp 40) K3r6s9))))
def K3r6s5:OpsF:=(oIf 34 true (oVal (.tmp 37) (kInt aEql (.tmp 36) (.con (.int .i64 0))) K3r6s6) (oSkip (.tmp 37) K3r6s6))
def K3r6s4:OpsF:=(oIf 34 true (oVal (.tmp 36) (kUn lenSlA (.tmp 35)) K3r6s5) (oSkip (.tmp 36) K3r6s5))
def K3r6:OpsF:=(oVal (.tmp 32) (kMove (.tmp 7)) (oVal (.tmp 33) (kInt aEql (.tmp 32) (.con (.int .i64 0))) (oVal (.tmp 34) (kMove (.tmp 33)) (oIf 34 true (oVal (.tmp 35) (kMove (.tmp 6)) K3r6s4) (oSkip (.tmp 35) K3r6s4)))))
def K3r7:OpsF:=(oVal (.tmp 8) (kMove (.con (.int .i64 1))) oNil)
def K3r8:OpsF:=(oVal (.tmp 9) (kMove (.con (.int .i64 2))) oNil)
def K3r9:OpsF:=(oVal (.tmp 42) (kMove (.tmp 9)) (oVal (.tmp 43) (kMove (.tmp 5)) (oVal (.tmp 44) (kInt aLeq (.tmp 42) (.tmp 43)) oNil)))
def K3r10:OpsF:=(oVal (.tmp 47) (kMove (.tmp 8)) (oVal (.tmp 48) (kMove (.tmp 9)) (oVal (.tmp 49) (kInt aMul (.tmp 47) (.tmp 48)) (oVal (.tmp 8) (kMove (.tmp 49)) oNil))))
def K3r11:OpsF:=(oVal (.tmp 45) (kMove (.tmp 9)) (oVal (.tmp 46) (kInt aAdd (.tmp 45) (.con (.int .i64 1))) (oVal (.tmp 9) (kMove (.tmp 46)) oNil)))
def K3l0:K:=(kSeq (kSeq (kRegion K3r9 [44]) (kCond (.tmp 44) kSkip (kExit 0))) (kSeq (kBlock 1 (kRegion K3r10 [8])) (kRegion K3r11 [9])))
def K3r12:OpsF:=(oVal (.tmp 50) (kMove (.tmp 3)) (oVal (.tmp 51) (kMove (.tmp 5)) (oCall (.tmp 52) (.con (.func 15 [] [])) [(.tmp 50),(.tmp 51)] (oVal (.tmp 53) (kMove (.tmp 3)) (oVal (.tmp 54) (kMove (.tmp 8)) (oVal (.tmp 55) (kInt aSub (.con (.int .i64 1000000000)) (.tmp 54)) (oCall (.tmp 56) (.con (.func 15 [] [])) [(.tmp 53),(.tmp 55)] (oVal (.tmp 10) (kMove (.tmp 52)) (oVal (.tmp 11) (kMove (.tmp 56)) oNil)))))))))
def K3r13:OpsF:=(oVal (.tmp 12) (kMove (.con .nilslice)) oNil)
def K3r14:OpsF:=(oVal (.tmp 13) (kMove (.con (.int .i64 0))) oNil)
def K3r15:OpsF:=(oVal (.tmp 57) (kMove (.tmp 13)) (oVal (.tmp 58) (kMove (.tmp 8)) (oVal (.tmp 59) (kInt aLss (.tmp 57) (.tmp 58)) oNil)))
def K3r16:OpsF:=(oVal (.tmp 62) (kUn (fadA 1) (.tmp 4)) (oVal (.tmp 63) (kLoad none (.tmp 62)) (oVal (.tmp 64) (kMove (.tmp 10)) (oVal (.tmp 65) (kMove (.tmp 11)) (oVal (.tmp 66) (kMove (.tmp 13)) (oVal (.tmp 67) (kInt aAdd (.tmp 65) (.tmp 66)) (oVal (.tmp 68) (kTwo (ixsA 4) (.tmp 63) (.tmp 64)) (oVal (.tmp 69) (kUn (fadA 1) (.tmp 68)) (oVal .none (kStore 1 (.tmp 69) (.tmp 67)) oNil)))))))))
def K3r17:OpsF:=(oVal (.tmp 71) (kLoad (some 2) (.tmp 4)) (oCall (.tmp 72) (.con (.func 13 [] [])) [(.tmp 71)] (oVal (.tmp 70) (kMove (.tmp 72)) (oVal (.tmp 73) (kUn (extA 0) (.tmp 70)) (oVal (.tmp 74) (kUn (extA 1) (.tmp 70)) (oVal (.tmp 14) (kMove (.tmp 73)) (oVal (.tmp 15) (kMove (.tmp 74)) oNil)))))))
def K3r18s7:OpsF:=(oVal (.tmp 82) (kPick (.tmp 77) (.con (.bool true)) (.tmp 81)) oNil)
def K3r18s6:OpsF:=(oIf 77 false (oVal (.tmp 81) (kInt aNeq (.tmp 79) (.tmp 80)) K3r18s7) (oSkip (.tmp 81) K3r18s7))
def K3r18s5:OpsF:=(oIf 77 false (oVal (.tmp 80) (kMove (.tmp 5)) K3r18s6) (oSkip (.tmp 80) K3r18s6))
def K3r18s4:OpsF:=(oIf 77 false (oVal (.tmp 79) (kUn lenSlA (.tmp 78)) K3r18s5) (oSkip (.tmp 79) K3r18s5))
def K3r18:OpsF:=(oVal (.tmp 75) (kMove (.tmp 15)) (oVal (.tmp 76) (kInt aNeq (.tmp 75) (.con (.int .i64 0))) (oVal (.tmp 77) (kMove (.tmp 76)) (oIf 77 false (oVal (.tmp 78) (kMove (.tmp 14)) K3r18s4) (oSkip (.tmp 78) K3r18s4)))))
def K3r19:OpsF:=(oVal (.tmp 2) (kMove (.con (.bool false))) oNil)
def K3r20:OpsF:=(oVal (.tmp 16) (kMove (.con (.int .i64 0))) oNil)
def K3r21:OpsF:=(oVal (.tmp 83) (kMove (.tmp 16)) (oVal (.tmp 84) (kMove (.tmp 5)) (oVal (.tmp 85) (kInt aLss (.tmp 83) (.tmp 84)) oNil)))
def K3r22:OpsF:=(oVal (.tmp 88) (kMove (.tmp 14)) (oVal (.tmp 89) (kMove (.tmp 16)) (oCall (.tmp 90) (.con (.func 16 [] [])) [(.tmp 88),(.tmp 89)] (oVal (.tmp 91) (kUn notA (.tmp 90)) oNil))))
def K3r23:OpsF:=(oVal (.tmp 2) (kMove (.con (.bool false))) oNil)
def K3r24:OpsF:=(oVal (.tmp 86) (kMove (.tmp 16)) (oVal (.tmp 87) (kInt aAdd (.tmp 86) (.con (.int .i64 1))) (oVal (.tmp 16) (kMove (.tmp 87)) oNil)))
def K3l1:K:=(kSeq (kSeq (kRegion K3r21 [85]) (kCond (.tmp 85) kSkip (kExit 4))) (kSeq (kBlock 5 (kSeq (kRegion K3r22 [91]) (kCond (.tmp 91) (kSeq (kRegion K3r23 [2]) kRet) kSkip))) (kRegion K3r24 [16])))
def K3r25:OpsF:=(oVal (.tmp 17) (kMove (.con (.int .i64 0))) oNil)
def K3r26:OpsF:=(oVal (.tmp 92) (kMove (.tmp 17)) (oVal (.tmp 93) (kMove (.tmp 12)) (oVal (.tmp 94) (kUn lenSlA (.tmp 93)) (oVal (.tmp 95) (kInt aLss (.tmp 92) (.tmp 94)) oNil))))
def K3r27:OpsF:=(oVal (.tmp 98) (kMove (.tmp 12)) (oVal (.tmp 99) (kMove (.tmp 17)) (oVal (.tmp 100) (kTwo (ixsA 1) (.tmp 98) (.tmp 99)) (oVal (.tmp 101) (kLoad none (.tmp 100)) (oVal (.tmp 102) (kMove (.tmp 14)) (oCall (.tmp 103) (.con (.func 17 [] [])) [(.tmp 101),(.tmp 102)] oNil))))))
def K3r28:OpsF:=(oVal (.tmp 2) (kMove (.con (.bool false))) oNil)
def K3r29:OpsF:=(oVal (.tmp 96) (kMove (.tmp 17)) (oVal (.tmp 97) (kInt aAdd (.tmp 96) (.con (.int .i64 1))) (oVal (.tmp 17) (kMove (.tmp 97)) oNil)))
def K3l2:K:=(kSeq (kSeq (kRegion K3r26 [95]) (kCond (.tmp 95) kSkip (kExit 6))) (kSeq (kBlock 7 (kSeq (kRegion K3r27 [103]) (kCond (.tmp 103) (kSeq (kRegion K3r28 [2]) kRet) kSkip))) (kRegion K3r29 [17])))
def K3r30:OpsF:=(oVal (.tmp 104) (kMove (.tmp 12)) (oVal (.tmp 105) (kMove (.tmp 14)) (oVal (.tmp 106) (kBuildSlice [.nilslice] 1 [(0,1,(.tmp 105))]) (oVal (.tmp 107) (kTwo (appendA false 1 24 (tag 22)) (.tmp 104) (.tmp 106)) (oVal (.tmp 12) (kMove (.tmp 107)) oNil)))))
def K3r31:OpsF:=(oVal (.tmp 60) (kMove (.tmp 13)) (oVal (.tmp 61) (kInt aAdd (.tmp 60) (.con (.int .i64 1))) (oVal (.tmp 13) (kMove (.tmp 61)) oNil)))
def K3l3:K:=(kSeq (kSeq (kRegion K3r15 [59]) (kCond (.tmp 59) kSkip (kExit 2))) (kSeq (kBlock 3 (kSeq (kRegion K3r16 []) (kSeq (kRegion K3r17 [14,15]) (kSeq (kSeq (kRegion K3r18 [82]) (kCond (.tmp 82) (kSeq (kRegion K3r19 [2]) kRet) kSkip)) (kSeq (kSeq (kRegion K3r20 [16]) (kBlock 4 (kLoop K3l1))) (kSeq (kSeq (kRegion K3r25 [17]) (kBlock 6 (kLoop K3l2))) (kRegion K3r30 [12]))))))) (kRegion K3r31 [13])))
def K3r32:OpsF:=(oCall (.tmp 108) (.con (.func 14 [] [])) [] (oVal (.tmp 2) (kMove (.tmp 108)) oNil))
theorem res3:Try.f3.results.toList=[.tmp 2]:=by kernel_rfl
def K3:K:=(kSeq (kRegion K3r0 [2]) (kSeq (kRegion K3r1 [3]) (kSeq (kRegion K3r2 [4]) (kSeq (kRegion K3r3 [5]) (kSeq (kSeq (kRegion K3r4 [26]) (kCond (.tmp 26) (kSeq (kRegion K3r5 [6,7]) (kSeq (kRegion K3r6 [2]) kRet)) kSkip)) (kSeq (kRegion K3r7 [8]) (kSeq (kSeq (kRegion K3r8 [9]) (kBlock 0 (kLoop K3l0))) (kSeq (kRegion K3r12 [10,11]) (kSeq (kRegion K3r13 [12]) (kSeq (kSeq (kRegion K3r14 [13]) (kBlock 2 (kLoop K3l3))) (kSeq (kRegion K3r32 [2]) kRet)))))))))))
def K16r0:OpsF:=(oVal (.tmp 4) (kMove (.con (.bool false))) oNil)
def K16r1:OpsF:=(oVal (.tmp 5) (kMove (.con (.int .i64 0))) oNil)
def K16r2:OpsF:=(oVal (.tmp 6) (kMove (.tmp 5)) (oVal (.tmp 7) (kMove (.tmp 0)) (oVal (.tmp 8) (kUn lenSlA (.tmp 7)) (oVal (.tmp 9) (kInt aLss (.tmp 6) (.tmp 8)) oNil))))
def K16r3:OpsF:=(oVal (.tmp 12) (kMove (.tmp 0)) (oVal (.tmp 13) (kMove (.tmp 5)) (oVal (.tmp 14) (kTwo (ixsA 1) (.tmp 12) (.tmp 13)) (oVal (.tmp 15) (kLoad none (.tmp 14)) (oVal (.tmp 16) (kMove (.tmp 1)) (oVal (.tmp 17) (kInt aEql (.tmp 15) (.tmp 16)) oNil))))))
def K16r4:OpsF:=(oVal (.tmp 4) (kMove (.con (.bool true))) oNil)
def K16r5:OpsF:=(oVal (.tmp 10) (kMove (.tmp 5)) (oVal (.tmp 11) (kInt aAdd (.tmp 10) (.con (.int .i64 1))) (oVal (.tmp 5) (kMove (.tmp 11)) oNil)))
def K16l0:K:=(kSeq (kSeq (kRegion K16r2 [9]) (kCond (.tmp 9) kSkip (kExit 0))) (kSeq (kBlock 1 (kSeq (kRegion K16r3 [17]) (kCond (.tmp 17) (kSeq (kRegion K16r4 [4]) kRet) kSkip))) (kRegion K16r5 [5])))
def K16r6:OpsF:=(oVal (.tmp 4) (kMove (.con (.bool false))) oNil)
theorem res16:Try.f16.results.toList=[.tmp 4]:=by kernel_rfl
def K16:K:=(kSeq (kRegion K16r0 [4]) (kSeq (kSeq (kRegion K16r1 [5]) (kBlock 0 (kLoop K16l0))) (kSeq (kRegion K16r6 [4]) kRet)))
theorem enter16 (cl:CallF) (a0 a1:AV) (s:St):enterA Try.prog X cl 16 [a0,a1] s Try.f16=finA Try.prog Try.f16 (K16 cl ⟨16,none,Try.f16.ntmps,X 16⟩ (paramsEnv 0 [a0,a1] .nil) [] s) :=
  enterA_eq (b:=Try.f16.body.getD .skip) (by kernel_rfl) (by kernel_rfl) (by kernel_rfl) (by kernel_rfl) (by kernel_rfl)
def K17r0:OpsF:=(oVal (.tmp 4) (kMove (.con (.bool false))) oNil)
def K17r1:OpsF:=(oVal (.tmp 7) (kMove (.tmp 0)) (oVal (.tmp 8) (kUn lenSlA (.tmp 7)) (oVal (.tmp 9) (kMove (.tmp 1)) (oVal (.tmp 10) (kUn lenSlA (.tmp 9)) (oVal (.tmp 11) (kInt aEql (.tmp 8) (.tmp 10)) (oVal (.tmp 5) (kMove (.tmp 11)) oNil))))))
def K17r2:OpsF:=(oVal (.tmp 6) (kMove (.con (.int .i64 0))) oNil)
def K17r3s6:OpsF:=(oVal (.tmp 18) (kPick (.tmp 13) (.tmp 17) (.con (.bool false))) oNil)
def K17r3s5:OpsF:=(oIf 13 true (oVal (.tmp 17) (kInt aLss (.tmp 14) (.tmp 16)) K17r3s6) (oSkip (.tmp 17) K17r3s6))
def K17r3s4:OpsF:=(oIf 13 true (oVal (.tmp 16) (kUn lenSlA (.tmp 15)) K17r3s5) (oSkip (.tmp 16) K17r3s5))
def K17r3s3:OpsF:=(oIf 13 true (oVal (.tmp 15) (kMove (.tmp 0)) K17r3s4) (oSkip (.tmp 15) K17r3s4))
def K17r3:OpsF:=(oVal (.tmp 12) (kMove (.tmp 5)) (oVal (.tmp 13) (kMove (.tmp 12)) (oIf 13 true (oVal (.tmp 14) (kMove (.tmp 6)) K17r3s3) (oSkip (.tmp 14) K17r3s3))))
def K17r4:OpsF:=(oEnd [] (oVal (.tmp 21) (kMove (.tmp 0)) (oVal (.tmp 22) (kMove (.tmp 6)) (oVal (.tmp 23) (kTwo (ixsA 1) (.tmp 21) (.tmp 22)) (oVal (.tmp 24) (kLoad none (.tmp 23)) (oVal (.tmp 25) (kMove (.tmp 1)) (oVal (.tmp 26) (kMove (.tmp 6)) (oVal (.tmp 27) (kTwo (ixsA 1) (.tmp 25) (.tmp 26)) (oVal (.tmp 28) (kLoad none (.tmp 27)) (oVal (.tmp 29) (kInt aEql (.tmp 24) (.tmp 28)) (oVal (.tmp 5) (kMove (.tmp 29)) oNil)))))))))))
def K17r5:OpsF:=(oVal (.tmp 19) (kMove (.tmp 6)) (oVal (.tmp 20) (kInt aAdd (.tmp 19) (.con (.int .i64 1))) (oVal (.tmp 6) (kMove (.tmp 20)) oNil)))
def K17l0:K:=(kSeq (kSeq (kRegion K17r3 [18]) (kCond (.tmp 18) kSkip (kExit 0))) (kSeq (kBlock 1 (kRegionD K17r4 [5])) (kRegion K17r5 [6])))
def K17r6:OpsF:=(oVal (.tmp 30) (kMove (.tmp 5)) (oVal (.tmp 4) (kMove (.tmp 30)) oNil))
theorem res17:Try.f17.results.toList=[.tmp 4]:=by kernel_rfl
def K17:K:=(kSeq (kRegion K17r0 [4]) (kSeq (kRegion K17r1 [5]) (kSeq (kSeq (kRegion K17r2 [6]) (kBlock 0 (kLoop K17l0))) (kSeq (kRegion K17r6 [4]) kRet))))
theorem enter17 (cl:CallF) (a0 a1:AV) (s:St):enterA Try.prog X cl 17 [a0,a1] s Try.f17=finA Try.prog Try.f17 (K17 cl ⟨17,none,Try.f17.ntmps,X 17⟩ (paramsEnv 0 [a0,a1] .nil) [] s) :=
  enterA_eq (b:=Try.f17.body.getD .skip) (by kernel_rfl) (by kernel_rfl) (by kernel_rfl) (by kernel_rfl) (by kernel_rfl)
end
end Go.Proofs.Ytbcjojljiochfaa.code
