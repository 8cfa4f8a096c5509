/- The code of functions as the interpreter has it, region by region. -/
import Derived.Test.YthbhjgbpjlnbcaaAbsTab
import Derived.Test.YthbhjgbpjlnbcaaAbsWalk
import Derived.KernelRfl
set_option maxRecDepth 100000
namespace Go.Proofs.Ythbhjgbpjlnbcaa.code
open Go.Abs
noncomputable section
def K47r0:OpsF:=(oVal (.tmp 2) (kMove (.con (.int .i64 0))) oNil)
def K47r1:OpsF:=(oVal (.tmp 3) (kMove (.con (.int .i64 0))) oNil)
def K47r2:OpsF:=(oVal (.tmp 6) (kMove (.tmp 0)) (oVal (.tmp 7) (kUn lenSlA (.tmp 6)) (oVal (.tmp 8) (kMove (.con (.int .i64 0))) oNil)))
def K47r3:OpsF:=(oVal (.tmp 9) (kInt aLss (.tmp 8) (.tmp 7)) oNil)
def K47r4:OpsF:=(oVal (.tmp 10) (kTwo (ixsA 1) (.tmp 6) (.tmp 8)) (oVal (.tmp 11) (kLoad none (.tmp 10)) (oVal (.tmp 5) (kMove (.tmp 11)) oNil)))
def K47r5:OpsF:=(oVal (.tmp 12) (kMove (.tmp 5)) (oVal (.tmp 13) (kMove (.tmp 3)) (oVal (.tmp 14) (kInt aNeq (.tmp 12) (.tmp 13)) oNil)))
def K47r6:OpsF:=(oVal (.tmp 15) (kMove (.tmp 5)) (oVal (.tmp 2) (kMove (.tmp 15)) oNil))
def K47r7:OpsF:=(oVal (.tmp 16) (kInt aAdd (.tmp 8) (.con (.int .i64 1))) (oVal (.tmp 8) (kMove (.tmp 16)) oNil))
def K47l0:K:=(kSeq (kRegion K47r3 [9]) (kSeq (kCond (.tmp 9) kSkip (kExit 0)) (kSeq (kBlock 1 (kSeq (kRegion K47r4 [5]) (kSeq (kRegion K47r5 [14]) (kCond (.tmp 14) (kSeq (kRegion K47r6 [2]) kRet) kSkip)))) (kRegion K47r7 [8]))))
def K47r8:OpsF:=(oVal (.tmp 17) (kMove (.tmp 3)) (oVal (.tmp 2) (kMove (.tmp 17)) oNil))
theorem res47:Try.f47.results.toList=[.tmp 2]:=by kernel_rfl
def K47:K:=(kSeq (kRegion K47r0 [2]) (kSeq (kRegion K47r1 [3]) (kSeq (kSeq (kRegion K47r2 [6,7,8]) (kBlock 0 (kLoop K47l0))) (kSeq (kRegion K47r8 [2]) kRet))))
theorem enter47 (cl:CallF) (a0:AV) (s:St):enterA Try.prog X cl 47 [a0] s Try.f47=finA Try.prog Try.f47 (K47 cl ⟨47,none,Try.f47.ntmps,X 47⟩ (paramsEnv 0 [a0] .nil) [] s) :=
  enterA_eq (b:=Try.f47.body.getD .skip) (by kernel_rfl) (by kernel_rfl) (by kernel_rfl) (by kernel_rfl) (by kernel_rfl)
def K65r0:OpsF:=(oVal (.tmp 6) (kMove (.con (.int .i64 0))) oNil)
def K65r1:OpsF:=(oVal (.tmp 8) (kMove (.tmp 0)) (oVal (.tmp 9) (kMove (.tmp 1)) (oVal (.tmp 10) (kInt aLss (.tmp 8) (.tmp 9)) (oVal (.tmp 7) (kMove (.tmp 10)) oNil))))
def K65r2:OpsF:=(oVal (.tmp 6) (kMove (.con (.int .i64 7))) oNil)
def K65r3:OpsF:=(oVal (.tmp 12) (kMove (.tmp 0)) (oVal (.tmp 13) (kMove (.tmp 2)) (oVal (.tmp 14) (kGtr (.tmp 12) (.tmp 13)) (oVal (.tmp 11) (kMove (.tmp 14)) oNil))))
def K65r4:OpsF:=(oVal (.tmp 6) (kMove (.con (.int .i64 6))) oNil)
def K65r5:OpsF:=(oVal (.tmp 6) (kMove (.con (.int .i64 0))) oNil)
theorem res65:Try.f65.results.toList=[.tmp 6]:=by kernel_rfl
def K65:K:=(kSeq (kRegion K65r0 [6]) (kSeq (kBlock 0 (kSeq (kRegion K65r1 [7]) (kCond (.tmp 7) (kSeq (kRegion K65r2 [6]) kRet) (kSeq (kRegion K65r3 [11]) (kCond (.tmp 11) (kSeq (kRegion K65r4 [6]) kRet) kSkip))))) (kSeq (kRegion K65r5 [6]) kRet)))
theorem enter65 (cl:CallF) (a0 a1 a2:AV) (s:St):enterA Try.prog X cl 65 [a0,a1,a2] s Try.f65=finA Try.prog Try.f65 (K65 cl ⟨65,none,Try.f65.ntmps,X 65⟩ (paramsEnv 0 [a0,a1,a2] .nil) [] s) :=
  enterA_eq (b:=Try.f65.body.getD .skip) (by kernel_rfl) (by kernel_rfl) (by kernel_rfl) (by kernel_rfl) (by kernel_rfl)
def K48r0:OpsF:=(oVal (.tmp 4) (kMove (.con (.int .i64 0))) oNil)
def K48r1s6:OpsF:=(oVal (.tmp 11) (kPick (.tmp 7) (.con (.bool true)) (.tmp 10)) oNil)
def K48r1s5:OpsF:=(oIf 7 false (oVal (.tmp 10) (kInt aGeq (.tmp 8) (.tmp 9)) K48r1s6) (oSkip (.tmp 10) K48r1s6))
def K48r1s4:OpsF:=(oIf 7 false (oVal (.tmp 9) (kMove (.tmp 1)) K48r1s5) (oSkip (.tmp 9) K48r1s5))
def K48r1:OpsF:=(oVal (.tmp 5) (kMove (.tmp 0)) (oVal (.tmp 6) (kInt aLss (.tmp 5) (.con (.int .i64 0))) (oVal (.tmp 7) (kMove (.tmp 6)) (oIf 7 false (oVal (.tmp 8) (kMove (.tmp 0)) K48r1s4) (oSkip (.tmp 8) K48r1s4)))))
def K48r2:OpsF:=(oVal (.tmp 4) (kMove (.con (.int .i64 3))) oNil)
def K48r3:OpsF:=(oVal (.tmp 4) (kMove (.con (.int .i64 0))) oNil)
theorem res48:Try.f48.results.toList=[.tmp 4]:=by kernel_rfl
def K48:K:=(kSeq (kRegion K48r0 [4]) (kSeq (kSeq (kRegion K48r1 [11]) (kCond (.tmp 11) (kSeq (kRegion K48r2 [4]) kRet) kSkip)) (kSeq (kRegion K48r3 [4]) kRet)))
theorem enter48 (cl:CallF) (a0 a1:AV) (s:St):enterA Try.prog X cl 48 [a0,a1] s Try.f48=finA Try.prog Try.f48 (K48 cl ⟨48,none,Try.f48.ntmps,X 48⟩ (paramsEnv 0 [a0,a1] .nil) [] s) :=
  enterA_eq (b:=Try.f48.body.getD .skip) (by kernel_rfl) (by kernel_rfl) (by kernel_rfl) (by kernel_rfl) (by kernel_rfl)
def K66r0:OpsF:=(oVal (.tmp 6) (kMove (.con (.int .i64 0))) oNil)
def K66r1s7:OpsF:=(oVal (.tmp 14) (kPick (.tmp 10) (.con (.bool true)) (.tmp 13)) oNil)
def K66r1s6:OpsF:=(oIf 10 false (oVal (.tmp 13) (kGtr (.tmp 11) (.tmp 12)) K66r1s7) (oSkip (.tmp 13) K66r1s7))
def K66r1s5:OpsF:=(oIf 10 false (oVal (.tmp 12) (kMove (.tmp 2)) K66r1s6) (oSkip (.tmp 12) K66r1s6))
def K66r1:OpsF:=(oVal (.tmp 7) (kMove (.tmp 0)) (oVal (.tmp 8) (kMove (.tmp 1)) (oVal (.tmp 9) (kInt aLss (.tmp 7) (.tmp 8)) (oVal (.tmp 10) (kMove (.tmp 9)) (oIf 10 false (oVal (.tmp 11) (kMove (.tmp 0)) K66r1s5) (oSkip (.tmp 11) K66r1s5))))))
def K66r2:OpsF:=(oVal (.tmp 6) (kMove (.con (.int .i64 1))) oNil)
def K66r3:OpsF:=(oVal (.tmp 6) (kMove (.con (.int .i64 0))) oNil)
theorem res66:Try.f66.results.toList=[.tmp 6]:=by kernel_rfl
def K66:K:=(kSeq (kRegion K66r0 [6]) (kSeq (kSeq (kRegion K66r1 [14]) (kCond (.tmp 14) (kSeq (kRegion K66r2 [6]) kRet) kSkip)) (kSeq (kRegion K66r3 [6]) kRet)))
theorem enter66 (cl:CallF) (a0 a1 a2:AV) (s:St):enterA Try.prog X cl 66 [a0,a1,a2] s Try.f66=finA Try.prog Try.f66 (K66 cl ⟨66,none,Try.f66.ntmps,X 66⟩ (paramsEnv 0 [a0,a1,a2] .nil) [] s) :=
  enterA_eq (b:=Try.f66.body.getD .skip) (by kernel_rfl) (by kernel_rfl) (by kernel_rfl) (by kernel_rfl) (by kernel_rfl)
def K35r0:OpsF:=(oVal (.tmp 1) (kBox (tag 28) (.tmp 0)) (oVal (.tmp 2) (kMove (.con (.int .i64 0))) oNil))
def K35r1:OpsF:=(oVal (.tmp 4) (kLoad (some 2) (.tmp 1)) (oCall (.tmp 5) (.con (.func 51 [] [])) [(.tmp 4)] (oVal (.tmp 3) (kMove (.tmp 5)) oNil)))
def K35r2:OpsF:=(oVal (.tmp 6) (kMove (.tmp 3)) (oVal (.tmp 7) (kInt aNeq (.tmp 6) (.con (.int .i64 0))) oNil))
def K35r3:OpsF:=(oVal (.tmp 8) (kMove (.tmp 3)) (oVal (.tmp 2) (kMove (.tmp 8)) oNil))
def K35r4:OpsF:=(oVal (.tmp 9) (kLoad (some 2) (.tmp 1)) (oCall (.tmp 10) (.con (.func 52 [] [])) [(.tmp 9)] (oVal (.tmp 2) (kMove (.tmp 10)) oNil)))
theorem res35:Try.f35.results.toList=[.tmp 2]:=by kernel_rfl
def K35:K:=(kSeq (kRegion K35r0 [1,2]) (kSeq (kSeq (kRegion K35r1 [3]) (kSeq (kRegion K35r2 [7]) (kCond (.tmp 7) (kSeq (kRegion K35r3 [2]) kRet) kSkip))) (kSeq (kRegion K35r4 [2]) kRet)))
theorem enter35 (cl:CallF) (a0:AV) (s:St):enterA Try.prog X cl 35 [a0] s Try.f35=finA Try.prog Try.f35 (K35 cl ⟨35,none,Try.f35.ntmps,X 35⟩ (paramsEnv 0 [a0] .nil) [] s) :=
  enterA_eq (b:=Try.f35.body.getD .skip) (by kernel_rfl) (by kernel_rfl) (by kernel_rfl) (by kernel_rfl) (by kernel_rfl)
def K51r0:OpsF:=(oVal (.tmp 1) (kBox (tag 28) (.tmp 0)) (oVal (.tmp 2) (kMove (.con (.int .i64 0))) oNil))
def K51r1:OpsF:=(oVal (.tmp 8) (kUn (fadA 0) (.tmp 1)) (oVal (.tmp 9) (kLoad none (.tmp 8)) (oVal (.tmp 10) (kUn lenSlA (.tmp 9)) (oCall (.tmp 11) (.con (.func 65 [] [])) [(.tmp 10),(.con (.int .i64 1)),(.con (.int .i64 8))] (oVal (.tmp 3) (kMove (.tmp 11)) oNil)))))
def K51r2:OpsF:=(oVal (.tmp 12) (kMove (.tmp 3)) (oVal (.tmp 13) (kInt aNeq (.tmp 12) (.con (.int .i64 0))) oNil))
def K51r3:OpsF:=(oVal (.tmp 14) (kMove (.tmp 3)) (oVal (.tmp 2) (kMove (.tmp 14)) oNil))
def K51r4:OpsF:=(oVal (.tmp 15) (kUn (fadA 0) (.tmp 1)) (oVal (.tmp 16) (kLoad none (.tmp 15)) (oVal (.tmp 17) (kUn lenSlA (.tmp 16)) (oVal (.tmp 18) (kMove (.con (.int .i64 0))) oNil))))
def K51r5:OpsF:=(oVal (.tmp 19) (kInt aLss (.tmp 18) (.tmp 17)) oNil)
def K51r6:OpsF:=(oVal (.tmp 20) (kTwo (ixsA 3) (.tmp 16) (.tmp 18)) (oVal (.tmp 21) (kLoad (some 3) (.tmp 20)) (oVal (.tmp 5) (kAlloc [(.int .i64 0),(.int .i64 0),(.int .i64 0)] (tag 53)) (oVal .none (kStore 3 (.tmp 5) (.tmp 21)) oNil))))
def K51r7s7:OpsF:=(oVal (.tmp 29) (kPick (.tmp 25) (.con (.bool true)) (.tmp 28)) oNil)
def K51r7s6:OpsF:=(oIf 25 false (oVal (.tmp 28) (kGtr (.tmp 27) (.con (.int .i64 3))) K51r7s7) (oSkip (.tmp 28) K51r7s7))
def K51r7s5:OpsF:=(oIf 25 false (oVal (.tmp 27) (kLoad none (.tmp 26)) K51r7s6) (oSkip (.tmp 27) K51r7s6))
def K51r7:OpsF:=(oVal (.tmp 22) (kUn (fadA 0) (.tmp 5)) (oVal (.tmp 23) (kLoad none (.tmp 22)) (oVal (.tmp 24) (kInt aLss (.tmp 23) (.con (.int .i64 1))) (oVal (.tmp 25) (kMove (.tmp 24)) (oIf 25 false (oVal (.tmp 26) (kUn (fadA 0) (.tmp 5)) K51r7s5) (oSkip (.tmp 26) K51r7s5))))))
def K51r8:OpsF:=(oVal (.tmp 2) (kMove (.con (.int .i64 8))) oNil)
def K51r9:OpsF:=(oVal (.tmp 30) (kUn (fadA 1) (.tmp 5)) (oVal (.tmp 31) (kLoad none (.tmp 30)) (oCall (.tmp 32) (.con (.func 66 [] [])) [(.tmp 31),(.con (.int .i64 0)),(.con (.int .i64 1000000))] (oVal (.tmp 6) (kMove (.tmp 32)) oNil))))
def K51r10:OpsF:=(oVal (.tmp 33) (kMove (.tmp 6)) (oVal (.tmp 34) (kInt aNeq (.tmp 33) (.con (.int .i64 0))) oNil))
def K51r11:OpsF:=(oVal (.tmp 35) (kMove (.tmp 6)) (oVal (.tmp 2) (kMove (.tmp 35)) oNil))
def K51r12:OpsF:=(oVal (.tmp 36) (kUn (fadA 2) (.tmp 5)) (oVal (.tmp 37) (kLoad none (.tmp 36)) (oVal (.tmp 38) (kUn (fadA 1) (.tmp 1)) (oVal (.tmp 39) (kLoad none (.tmp 38)) (oVal (.tmp 40) (kUn lenSlA (.tmp 39)) (oCall (.tmp 41) (.con (.func 48 [] [])) [(.tmp 37),(.tmp 40)] (oVal (.tmp 7) (kMove (.tmp 41)) oNil)))))))
def K51r13s6:OpsF:=(oVal (.tmp 48) (kPick (.tmp 45) (.tmp 47) (.con (.bool false))) oNil)
def K51r13s5:OpsF:=(oIf 45 true (oVal (.tmp 47) (kInt aNeq (.tmp 46) (.con (.int .i64 0))) K51r13s6) (oSkip (.tmp 47) K51r13s6))
def K51r13:OpsF:=(oVal (.tmp 42) (kUn (fadA 2) (.tmp 5)) (oVal (.tmp 43) (kLoad none (.tmp 42)) (oVal (.tmp 44) (kInt aNeq (.tmp 43) (.con (.int .i64 (-1)))) (oVal (.tmp 45) (kMove (.tmp 44)) (oIf 45 true (oVal (.tmp 46) (kMove (.tmp 7)) K51r13s5) (oSkip (.tmp 46) K51r13s5))))))
def K51r14:OpsF:=(oVal (.tmp 49) (kMove (.tmp 7)) (oVal (.tmp 2) (kMove (.tmp 49)) oNil))
def K51r15:OpsF:=(oVal (.tmp 50) (kInt aAdd (.tmp 18) (.con (.int .i64 1))) (oVal (.tmp 18) (kMove (.tmp 50)) oNil))
def K51l0:K:=(kSeq (kRegion K51r5 [19]) (kSeq (kCond (.tmp 19) kSkip (kExit 0)) (kSeq (kBlock 1 (kSeq (kRegion K51r6 [5]) (kSeq (kSeq (kRegion K51r7 [29]) (kCond (.tmp 29) (kSeq (kRegion K51r8 [2]) kRet) kSkip)) (kSeq (kSeq (kRegion K51r9 [6]) (kSeq (kRegion K51r10 [34]) (kCond (.tmp 34) (kSeq (kRegion K51r11 [2]) kRet) kSkip))) (kSeq (kRegion K51r12 [7]) (kSeq (kRegion K51r13 [48]) (kCond (.tmp 48) (kSeq (kRegion K51r14 [2]) kRet) kSkip))))))) (kRegion K51r15 [18]))))
def K51r16:OpsF:=(oVal (.tmp 2) (kMove (.con (.int .i64 0))) oNil)
theorem res51:Try.f51.results.toList=[.tmp 2]:=by kernel_rfl
def K51:K:=(kSeq (kRegion K51r0 [1,2]) (kSeq (kSeq (kRegion K51r1 [3]) (kSeq (kRegion K51r2 [13]) (kCond (.tmp 13) (kSeq (kRegion K51r3 [2]) kRet) kSkip))) (kSeq (kSeq (kRegion K51r4 [16,17,18]) (kBlock 0 (kLoop K51l0))) (kSeq (kRegion K51r16 [2]) kRet))))
theorem enter51 (cl:CallF) (a0:AV) (s:St):enterA Try.prog X cl 51 [a0] s Try.f51=finA Try.prog Try.f51 (K51 cl ⟨51,none,Try.f51.ntmps,X 51⟩ (paramsEnv 0 [a0] .nil) [] s) :=
  enterA_eq (b:=Try.f51.body.getD .skip) (by kernel_rfl) (by kernel_rfl) (by kernel_rfl) (by kernel_rfl) (by kernel_rfl)
def K52r0:OpsF:=(oVal (.tmp 1) (kBox (tag 28) (.tmp 0)) (oVal (.tmp 2) (kMove (.con (.int .i64 0))) oNil))
def K52r1:OpsF:=(oVal (.tmp 7) (kUn (fadA 1) (.tmp 1)) (oVal (.tmp 8) (kLoad none (.tmp 7)) (oVal (.tmp 9) (kUn lenSlA (.tmp 8)) (oCall (.tmp 10) (.con (.func 65 [] [])) [(.tmp 9),(.con (.int .i64 0)),(.con (.int .i64 8))] (oVal (.tmp 3) (kMove (.tmp 10)) oNil)))))
def K52r2:OpsF:=(oVal (.tmp 11) (kMove (.tmp 3)) (oVal (.tmp 12) (kInt aNeq (.tmp 11) (.con (.int .i64 0))) oNil))
def K52r3:OpsF:=(oVal (.tmp 13) (kMove (.tmp 3)) (oVal (.tmp 2) (kMove (.tmp 13)) oNil))
def K52r4:OpsF:=(oVal (.tmp 14) (kUn (fadA 1) (.tmp 1)) (oVal (.tmp 15) (kLoad none (.tmp 14)) (oVal (.tmp 16) (kUn lenSlA (.tmp 15)) (oVal (.tmp 17) (kMove (.con (.int .i64 0))) oNil))))
def K52r5:OpsF:=(oVal (.tmp 18) (kInt aLss (.tmp 17) (.tmp 16)) oNil)
def K52r6:OpsF:=(oVal (.tmp 19) (kTwo (ixsA 4) (.tmp 15) (.tmp 17)) (oVal (.tmp 20) (kLoad (some 4) (.tmp 19)) (oVal (.tmp 5) (kAlloc [(.int .i64 0),(.int .i64 0),.nilslice,.nilslice] (tag 37)) (oVal .none (kStore 4 (.tmp 5) (.tmp 20)) oNil))))
def K52r7:OpsF:=(oEnd [] (oVal (.tmp 21) (kUn (fadA 0) (.tmp 5)) (oVal (.tmp 22) (kLoad none (.tmp 21)) (oCallT (some [24,27,29,30,5]) (.tmp 23) (.con (.func 66 [] [])) [(.tmp 22),(.con (.int .i64 0)),(.con (.int .i64 60))] (oVal (.tmp 24) (kUn (fadA 1) (.tmp 5)) (oVal (.tmp 25) (kLoad none (.tmp 24)) (oCallT (some [27,29,30,5]) (.tmp 26) (.con (.func 66 [] [])) [(.tmp 25),(.con (.int .i64 0)),(.con (.int .i64 1000000000))] (oVal (.tmp 27) (kUn (fadA 2) (.tmp 5)) (oVal (.tmp 28) (kLoad none (.tmp 27)) (oVal (.tmp 29) (kUn (fadA 0) (.tmp 1)) (oVal (.tmp 30) (kLoad none (.tmp 29)) (oVal (.tmp 31) (kUn lenSlA (.tmp 30)) (oCallT (some [5]) (.tmp 32) (.con (.func 67 [] [])) [(.tmp 28),(.tmp 31)] (oVal (.tmp 33) (kLoad (some 4) (.tmp 5)) (oCall (.tmp 34) (.con (.func 68 [] [])) [(.tmp 33)] (oVal (.tmp 35) (kBuildSlice [(.int .i64 0),(.int .i64 0),(.int .i64 0),(.int .i64 0)] 4 [(0,1,(.tmp 23)),(1,1,(.tmp 26)),(2,1,(.tmp 32)),(3,1,(.tmp 34))]) (oCall (.tmp 36) (.con (.func 47 [] [])) [(.tmp 35)] (oVal (.tmp 6) (kMove (.tmp 36)) oNil))))))))))))))))))
def K52r8:OpsF:=(oVal (.tmp 37) (kMove (.tmp 6)) (oVal (.tmp 38) (kInt aNeq (.tmp 37) (.con (.int .i64 0))) oNil))
def K52r9:OpsF:=(oVal (.tmp 39) (kMove (.tmp 6)) (oVal (.tmp 2) (kMove (.tmp 39)) oNil))
def K52r10:OpsF:=(oVal (.tmp 40) (kInt aAdd (.tmp 17) (.con (.int .i64 1))) (oVal (.tmp 17) (kMove (.tmp 40)) oNil))
def K52l0:K:=(kSeq (kRegion K52r5 [18]) (kSeq (kCond (.tmp 18) kSkip (kExit 0)) (kSeq (kBlock 1 (kSeq (kRegion K52r6 [5]) (kSeq (kRegionD K52r7 [6]) (kSeq (kRegion K52r8 [38]) (kCond (.tmp 38) (kSeq (kRegion K52r9 [2]) kRet) kSkip))))) (kRegion K52r10 [17]))))
def K52r11:OpsF:=(oVal (.tmp 2) (kMove (.con (.int .i64 0))) oNil)
theorem res52:Try.f52.results.toList=[.tmp 2]:=by kernel_rfl
def K52:K:=(kSeq (kRegion K52r0 [1,2]) (kSeq (kSeq (kRegion K52r1 [3]) (kSeq (kRegion K52r2 [12]) (kCond (.tmp 12) (kSeq (kRegion K52r3 [2]) kRet) kSkip))) (kSeq (kSeq (kRegion K52r4 [15,16,17]) (kBlock 0 (kLoop K52l0))) (kSeq (kRegion K52r11 [2]) kRet))))
theorem enter52 (cl:CallF) (a0:AV) (s:St):enterA Try.prog X cl 52 [a0] s Try.f52=finA Try.prog Try.f52 (K52 cl ⟨52,none,Try.f52.ntmps,X 52⟩ (paramsEnv 0 [a0] .nil) [] s) :=
  enterA_eq (b:=Try.f52.body.getD .skip) (by kernel_rfl) (by kernel_rfl) (by kernel_rfl) (by kernel_rfl) (by kernel_rfl)
def K67r0:OpsF:=(oVal (.tmp 4) (kMove (.con (.int .i64 0))) oNil)
def K67r1:OpsF:=(oVal (.tmp 8) (kMove (.tmp 0)) (oVal (.tmp 9) (kUn lenSlA (.tmp 8)) (oVal (.tmp 10) (kMove (.con (.int .i64 0))) oNil)))
def K67r2:OpsF:=(oVal (.tmp 11) (kInt aLss (.tmp 10) (.tmp 9)) oNil)
def K67r3:OpsF:=(oVal (.tmp 12) (kMove (.tmp 10)) (oVal (.tmp 13) (kTwo (ixsA 1) (.tmp 8) (.tmp 10)) (oVal (.tmp 14) (kLoad none (.tmp 13)) (oVal (.tmp 5) (kMove (.tmp 12)) (oVal (.tmp 6) (kMove (.tmp 14)) oNil)))))
def K67r4:OpsF:=(oVal (.tmp 15) (kMove (.tmp 6)) (oVal (.tmp 16) (kMove (.tmp 1)) (oCall (.tmp 17) (.con (.func 48 [] [])) [(.tmp 15),(.tmp 16)] (oVal (.tmp 7) (kMove (.tmp 17)) oNil))))
def K67r5:OpsF:=(oVal (.tmp 18) (kMove (.tmp 7)) (oVal (.tmp 19) (kInt aNeq (.tmp 18) (.con (.int .i64 0))) oNil))
def K67r6:OpsF:=(oVal (.tmp 20) (kMove (.tmp 7)) (oVal (.tmp 4) (kMove (.tmp 20)) oNil))
def K67r7:OpsF:=(oVal (.tmp 21) (kMove (.tmp 0)) (oVal (.tmp 22) (kMove (.tmp 5)) (oVal (.tmp 23) (kSlice (sliceVal 1) (.tmp 21) none (some (.tmp 22))) (oVal (.tmp 24) (kMove (.tmp 6)) (oCall (.tmp 25) (.con (.func 60 [] [])) [(.tmp 23),(.tmp 24)] oNil)))))
def K67r8:OpsF:=(oVal (.tmp 4) (kMove (.con (.int .i64 4))) oNil)
def K67r9:OpsF:=(oVal (.tmp 26) (kInt aAdd (.tmp 10) (.con (.int .i64 1))) (oVal (.tmp 10) (kMove (.tmp 26)) oNil))
def K67l0:K:=(kSeq (kRegion K67r2 [11]) (kSeq (kCond (.tmp 11) kSkip (kExit 0)) (kSeq (kBlock 1 (kSeq (kRegion K67r3 [5,6]) (kSeq (kSeq (kRegion K67r4 [7]) (kSeq (kRegion K67r5 [19]) (kCond (.tmp 19) (kSeq (kRegion K67r6 [4]) kRet) kSkip))) (kSeq (kRegion K67r7 [25]) (kCond (.tmp 25) (kSeq (kRegion K67r8 [4]) kRet) kSkip))))) (kRegion K67r9 [10]))))
def K67r10:OpsF:=(oVal (.tmp 4) (kMove (.con (.int .i64 0))) oNil)
theorem res67:Try.f67.results.toList=[.tmp 4]:=by kernel_rfl
def K67:K:=(kSeq (kRegion K67r0 [4]) (kSeq (kSeq (kRegion K67r1 [8,9,10]) (kBlock 0 (kLoop K67l0))) (kSeq (kRegion K67r10 [4]) kRet)))
theorem enter67 (cl:CallF) (a0 a1:AV) (s:St):enterA Try.prog X cl 67 [a0,a1] s Try.f67=finA Try.prog Try.f67 (K67 cl ⟨67,none,Try.f67.ntmps,X 67⟩ (paramsEnv 0 [a0,a1] .nil) [] s) :=
  enterA_eq (b:=Try.f67.body.getD .skip) (by kernel_rfl) (by kernel_rfl) (by kernel_rfl) (by kernel_rfl) (by kernel_rfl)
def K68r0:OpsF:=(oVal (.tmp 1) (kBox (tag 37) (.tmp 0)) (oVal (.tmp 2) (kMove (.con (.int .i64 0))) oNil))
def K68r1:OpsF:=(oVal (.tmp 6) (kUn (fadA 3) (.tmp 1)) (oVal (.tmp 7) (kLoad none (.tmp 6)) (oVal (.tmp 8) (kUn lenSlA (.tmp 7)) (oVal (.tmp 9) (kUn (fadA 2) (.tmp 1)) (oVal (.tmp 10) (kLoad none (.tmp 9)) (oVal (.tmp 11) (kUn lenSlA (.tmp 10)) (oVal (.tmp 12) (kInt aNeq (.tmp 8) (.tmp 11)) oNil)))))))
def K68r2:OpsF:=(oVal (.tmp 2) (kMove (.con (.int .i64 2))) oNil)
def K68r3:OpsF:=(oVal (.tmp 13) (kUn (fadA 3) (.tmp 1)) (oVal (.tmp 14) (kLoad none (.tmp 13)) (oVal (.tmp 15) (kUn lenSlA (.tmp 14)) (oVal (.tmp 16) (kMove (.con (.int .i64 0))) oNil))))
def K68r4:OpsF:=(oVal (.tmp 17) (kInt aLss (.tmp 16) (.tmp 15)) oNil)
def K68r5:OpsF:=(oVal (.tmp 18) (kTwo (ixsA 1) (.tmp 14) (.tmp 16)) (oVal (.tmp 19) (kLoad none (.tmp 18)) (oVal (.tmp 4) (kMove (.tmp 19)) oNil)))
def K68r6:OpsF:=(oVal (.tmp 20) (kMove (.tmp 4)) (oCall (.tmp 21) (.con (.func 66 [] [])) [(.tmp 20),(.con (.int .i64 0)),(.con (.int .i64 1000000))] (oVal (.tmp 5) (kMove (.tmp 21)) oNil)))
def K68r7:OpsF:=(oVal (.tmp 22) (kMove (.tmp 5)) (oVal (.tmp 23) (kInt aNeq (.tmp 22) (.con (.int .i64 0))) oNil))
def K68r8:OpsF:=(oVal (.tmp 24) (kMove (.tmp 5)) (oVal (.tmp 2) (kMove (.tmp 24)) oNil))
def K68r9:OpsF:=(oVal (.tmp 25) (kInt aAdd (.tmp 16) (.con (.int .i64 1))) (oVal (.tmp 16) (kMove (.tmp 25)) oNil))
def K68l0:K:=(kSeq (kRegion K68r4 [17]) (kSeq (kCond (.tmp 17) kSkip (kExit 0)) (kSeq (kBlock 1 (kSeq (kRegion K68r5 [4]) (kSeq (kRegion K68r6 [5]) (kSeq (kRegion K68r7 [23]) (kCond (.tmp 23) (kSeq (kRegion K68r8 [2]) kRet) kSkip))))) (kRegion K68r9 [16]))))
def K68r10:OpsF:=(oVal (.tmp 2) (kMove (.con (.int .i64 0))) oNil)
theorem res68:Try.f68.results.toList=[.tmp 2]:=by kernel_rfl
def K68:K:=(kSeq (kRegion K68r0 [1,2]) (kSeq (kSeq (kRegion K68r1 [12]) (kCond (.tmp 12) (kSeq (kRegion K68r2 [2]) kRet) kSkip)) (kSeq (kSeq (kRegion K68r3 [14,15,16]) (kBlock 0 (kLoop K68l0))) (kSeq (kRegion K68r10 [2]) kRet))))
theorem enter68 (cl:CallF) (a0:AV) (s:St):enterA Try.prog X cl 68 [a0] s Try.f68=finA Try.prog Try.f68 (K68 cl ⟨68,none,Try.f68.ntmps,X 68⟩ (paramsEnv 0 [a0] .nil) [] s) :=
  enterA_eq (b:=Try.f68.body.getD .skip) (by kernel_rfl) (by kernel_rfl) (by kernel_rfl) (by kernel_rfl) (by kernel_rfl)
def K60r0:OpsF:=(oVal (.tmp 4) (kMove (.con (.bool false))) oNil)
def K60r1:OpsF:=(oVal (.tmp 5) (kMove (.tmp 0)) (oVal (.tmp 6) (kMove (.tmp 1)) (oCall (.tmp 7) (.con (.func 83 [] [])) [(.tmp 5),(.tmp 6)] (oVal (.tmp 8) (kInt aGeq (.tmp 7) (.con (.int .i64 0))) (oVal (.tmp 4) (kMove (.tmp 8)) oNil)))))
theorem res60:Try.f60.results.toList=[.tmp 4]:=by kernel_rfl
def K60:K:=(kSeq (kRegion K60r0 [4]) (kSeq (kRegion K60r1 [4]) kRet))
theorem enter60 (cl:CallF) (a0 a1:AV) (s:St):enterA Try.prog X cl 60 [a0,a1] s Try.f60=finA Try.prog Try.f60 (K60 cl ⟨60,none,Try.f60.ntmps,X 60⟩ (paramsEnv 0 [a0,a1] .nil) [] s) :=
  enterA_eq (b:=Try.f60.body.getD .skip) (by kernel_rfl) (by kernel_rfl) (by kernel_rfl) (by kernel_rfl) (by kernel_rfl)
def K83r0:OpsF:=(oVal (.tmp 4) (kMove (.con (.int .i64 0))) oNil)
def K83r1:OpsF:=(oVal (.tmp 6) (kMove (.tmp 0)) (oVal (.tmp 7) (kUn lenSlA (.tmp 6)) (oVal (.tmp 8) (kMove (.con (.int .i64 0))) oNil)))
def K83r2:OpsF:=(oVal (.tmp 9) (kInt aLss (.tmp 8) (.tmp 7)) oNil)
def K83r3:OpsF:=(oVal (.tmp 10) (kMove (.tmp 8)) (oVal (.tmp 5) (kMove (.tmp 10)) oNil))
def K83r4:OpsF:=(oVal (.tmp 11) (kMove (.tmp 1)) (oVal (.tmp 12) (kMove (.tmp 0)) (oVal (.tmp 13) (kMove (.tmp 5)) (oVal (.tmp 14) (kTwo (ixsA 1) (.tmp 12) (.tmp 13)) (oVal (.tmp 15) (kLoad none (.tmp 14)) (oVal (.tmp 16) (kInt aEql (.tmp 11) (.tmp 15)) oNil))))))
def K83r5:OpsF:=(oVal (.tmp 17) (kMove (.tmp 5)) (oVal (.tmp 4) (kMove (.tmp 17)) oNil))
def K83r6:OpsF:=(oVal (.tmp 18) (kInt aAdd (.tmp 8) (.con (.int .i64 1))) (oVal (.tmp 8) (kMove (.tmp 18)) oNil))
def K83l0:K:=(kSeq (kRegion K83r2 [9]) (kSeq (kCond (.tmp 9) kSkip (kExit 0)) (kSeq (kBlock 1 (kSeq (kRegion K83r3 [5]) (kSeq (kRegion K83r4 [16]) (kCond (.tmp 16) (kSeq (kRegion K83r5 [4]) kRet) kSkip)))) (kRegion K83r6 [8]))))
def K83r7:OpsF:=(oVal (.tmp 4) (kMove (.con (.int .i64 (-1)))) oNil)
theorem res83:Try.f83.results.toList=[.tmp 4]:=by kernel_rfl
def K83:K:=(kSeq (kRegion K83r0 [4]) (kSeq (kSeq (kRegion K83r1 [7,8]) (kBlock 0 (kLoop K83l0))) (kSeq (kRegion K83r7 [4]) kRet)))
theorem enter83 (cl:CallF) (a0 a1:AV) (s:St):enterA Try.prog X cl 83 [a0,a1] s Try.f83=finA Try.prog Try.f83 (K83 cl ⟨83,none,Try.f83.ntmps,X 83⟩ (paramsEnv 0 [a0,a1] .nil) [] s) :=
  enterA_eq (b:=Try.f83.body.getD .skip) (by kernel_rfl) (by kernel_rfl) (by kernel_rfl) (by kernel_rfl) (by kernel_rfl)
end
end Go.Proofs.Ythbhjgbpjlnbcaa.code
set_option maxRecDepth 100000
namespace Go.Proofs.Ythbhjgbpjlnbcaa.code
open Go.Abs
noncomputable section
def K36r0:OpsF:=(oVal (.tmp 1) (kBox (tag 28) (.tmp 0)) (oVal (.tmp 2) (kAlloc [(.int .i64 0),(.int .i64 0),(.int .i64 0),(.int .i64 0),(.int .i64 0),(.int .i64 0),(.int .i64 0),(.int .i64 0)] (tag 69)) oNil))
def K36r1:OpsF:=(oVal (.tmp 3) (kAlloc [(.int .i64 0),(.int .i64 0),(.int .i64 0),(.int .i64 0),(.int .i64 0),(.int .i64 0),(.int .i64 0),(.int .i64 0)] (tag 69)) (oVal (.tmp 4) (kAlloc [(.int .i64 0),(.int .i64 0),(.int .i64 0),(.int .i64 0),(.int .i64 0),(.int .i64 0),(.int .i64 0),(.int .i64 0)] (tag 69)) oNil))
def K36r2:OpsF:=(oVal (.tmp 5) (kMove (.con (.int .i64 0))) oNil)
def K36r3:OpsF:=(oVal (.tmp 11) (kUn (fadA 1) (.tmp 1)) (oVal (.tmp 12) (kLoad none (.tmp 11)) (oVal (.tmp 13) (kUn lenSlA (.tmp 12)) (oVal (.tmp 14) (kMove (.con (.int .i64 0))) oNil))))
def K36r4:OpsF:=(oVal (.tmp 15) (kInt aLss (.tmp 14) (.tmp 13)) oNil)
def K36r5:OpsF:=(oVal (.tmp 16) (kMove (.tmp 14)) (oVal (.tmp 17) (kTwo (ixsA 4) (.tmp 12) (.tmp 14)) (oVal (.tmp 18) (kLoad (some 4) (.tmp 17)) (oVal (.tmp 7) (kAlloc [(.int .i64 0),(.int .i64 0),.nilslice,.nilslice] (tag 37)) (oVal (.tmp 6) (kMove (.tmp 16)) (oVal .none (kStore 4 (.tmp 7) (.tmp 18)) oNil))))))
def K36r6:OpsF:=(oVal (.tmp 19) (kMove (.tmp 6)) (oVal (.tmp 20) (kMove (.tmp 6)) (oVal (.tmp 21) (kTwo (ixaA 8 1) (.tmp 3) (.tmp 19)) (oVal .none (kStore 1 (.tmp 21) (.tmp 20)) oNil))))
def K36r7:OpsF:=(oVal (.tmp 22) (kMove (.tmp 5)) (oVal (.tmp 23) (kUn (fadA 1) (.tmp 7)) (oVal (.tmp 24) (kLoad none (.tmp 23)) (oVal (.tmp 25) (kInt aAdd (.tmp 22) (.tmp 24)) (oVal (.tmp 5) (kMove (.tmp 25)) oNil)))))
def K36r8:OpsF:=(oVal (.tmp 26) (kInt aAdd (.tmp 14) (.con (.int .i64 1))) (oVal (.tmp 14) (kMove (.tmp 26)) oNil))
def K36l0:K:=(kSeq (kRegion K36r4 [15]) (kSeq (kCond (.tmp 15) kSkip (kExit 0)) (kSeq (kBlock 1 (kSeq (kRegion K36r5 [7,6]) (kSeq (kRegion K36r6 []) (kRegion K36r7 [5])))) (kRegion K36r8 [14]))))
def K36r9:OpsF:=(oVal (.tmp 27) (kUn (fadA 1) (.tmp 1)) (oVal (.tmp 28) (kLoad none (.tmp 27)) (oVal (.tmp 29) (kUn lenSlA (.tmp 28)) (oVal (.tmp 30) (kMove (.con (.int .i64 0))) oNil))))
def K36r10:OpsF:=(oVal (.tmp 31) (kInt aLss (.tmp 30) (.tmp 29)) oNil)
def K36r11:OpsF:=(oVal (.tmp 32) (kMove (.tmp 30)) (oVal (.tmp 8) (kMove (.tmp 32)) oNil))
def K36r12:OpsF:=(oVal (.tmp 33) (kUn (fadA 1) (.tmp 1)) (oVal (.tmp 34) (kLoad none (.tmp 33)) (oVal (.tmp 35) (kUn lenSlA (.tmp 34)) (oVal (.tmp 36) (kMove (.tmp 8)) (oVal (.tmp 37) (kInt aSub (.tmp 35) (.tmp 36)) (oVal (.tmp 9) (kMove (.tmp 37)) oNil))))))
def K36r13:OpsF:=(oVal (.tmp 38) (kMove (.tmp 5)) (oVal (.tmp 39) (kMove (.tmp 9)) (oVal (.tmp 40) (kInt aRem (.tmp 38) (.tmp 39)) (oVal (.tmp 10) (kMove (.tmp 40)) oNil))))
def K36r14:OpsF:=(oVal (.tmp 41) (kMove (.tmp 8)) (oVal (.tmp 42) (kMove (.tmp 10)) (oVal (.tmp 43) (kTwo (ixaA 8 1) (.tmp 3) (.tmp 42)) (oVal (.tmp 44) (kLoad none (.tmp 43)) (oVal (.tmp 45) (kTwo (ixaA 8 1) (.tmp 4) (.tmp 41)) (oVal .none (kStore 1 (.tmp 45) (.tmp 44)) oNil))))))
def K36r15:OpsF:=(oVal (.tmp 46) (kLoad (some 8) (.tmp 3)) (oVal (.tmp 47) (kMove (.tmp 10)) (oCall (.tmp 48) (.con (.func 53 [] [])) [(.tmp 46),(.tmp 47)] (oVal .none (kStore 8 (.tmp 3) (.tmp 48)) oNil))))
def K36r16:OpsF:=(oVal (.tmp 49) (kMove (.tmp 5)) (oVal (.tmp 50) (kMove (.tmp 9)) (oVal (.tmp 51) (kInt aQuo (.tmp 49) (.tmp 50)) (oVal (.tmp 5) (kMove (.tmp 51)) oNil))))
def K36r17:OpsF:=(oVal (.tmp 52) (kInt aAdd (.tmp 30) (.con (.int .i64 1))) (oVal (.tmp 30) (kMove (.tmp 52)) oNil))
def K36l1:K:=(kSeq (kRegion K36r10 [31]) (kSeq (kCond (.tmp 31) kSkip (kExit 2)) (kSeq (kBlock 3 (kSeq (kRegion K36r11 [8]) (kSeq (kRegion K36r12 [9]) (kSeq (kRegion K36r13 [10]) (kSeq (kRegion K36r14 []) (kSeq (kRegion K36r15 []) (kRegion K36r16 [5]))))))) (kRegion K36r17 [30]))))
def K36r18:OpsF:=(oVal (.tmp 53) (kLoad (some 8) (.tmp 4)) (oVal .none (kStore 8 (.tmp 2) (.tmp 53)) oNil))
theorem res36:Try.f36.results.toList=[.cell 2 69]:=by kernel_rfl
def K36:K:=(kSeq (kRegion K36r0 [1,2]) (kSeq (kRegion K36r1 [3,4]) (kSeq (kRegion K36r2 [5]) (kSeq (kSeq (kRegion K36r3 [12,13,14]) (kBlock 0 (kLoop K36l0))) (kSeq (kSeq (kRegion K36r9 [29,30]) (kBlock 2 (kLoop K36l1))) (kSeq (kRegion K36r18 []) kRet))))))
theorem enter36 (cl:CallF) (a0:AV) (s:St):enterA Try.prog X cl 36 [a0] s Try.f36=finA Try.prog Try.f36 (K36 cl ⟨36,none,Try.f36.ntmps,X 36⟩ (paramsEnv 0 [a0] .nil) [] s) :=
  enterA_eq (b:=Try.f36.body.getD .skip) (by kernel_rfl) (by kernel_rfl) (by kernel_rfl) (by kernel_rfl) (by kernel_rfl)
def K53r0:OpsF:=(oVal (.tmp 2) (kBox (tag 69) (.tmp 0)) (oVal (.tmp 4) (kAlloc [(.int .i64 0),(.int .i64 0),(.int .i64 0),(.int .i64 0),(.int .i64 0),(.int .i64 0),(.int .i64 0),(.int .i64 0)] (tag 69)) oNil))
def K53r1:OpsF:=(oEnd [] (oVal (.tmp 5) (kMove (.tmp 1)) (oVal (.tmp 6) (kSlice (sliceArr 8 1) (.tmp 2) (some (.tmp 5)) none) (oVal (.tmp 7) (kMove (.tmp 1)) (oVal (.tmp 8) (kInt aAdd (.tmp 7) (.con (.int .i64 1))) (oVal (.tmp 9) (kSlice (sliceArr 8 1) (.tmp 2) (some (.tmp 8)) none) (oVal (.tmp 10) (kTwo (copyA 1) (.tmp 6) (.tmp 9)) oNil)))))))
def K53r2:OpsF:=(oVal (.tmp 11) (kLoad (some 8) (.tmp 2)) (oVal .none (kStore 8 (.tmp 4) (.tmp 11)) oNil))
theorem res53:Try.f53.results.toList=[.cell 4 69]:=by kernel_rfl
def K53:K:=(kSeq (kRegion K53r0 [2,4]) (kSeq (kRegionD K53r1 []) (kSeq (kRegion K53r2 []) kRet)))
theorem enter53 (cl:CallF) (a0 a1:AV) (s:St):enterA Try.prog X cl 53 [a0,a1] s Try.f53=finA Try.prog Try.f53 (K53 cl ⟨53,none,Try.f53.ntmps,X 53⟩ (paramsEnv 0 [a0,a1] .nil) [] s) :=
  enterA_eq (b:=Try.f53.body.getD .skip) (by kernel_rfl) (by kernel_rfl) (by kernel_rfl) (by kernel_rfl) (by kernel_rfl)
end
end Go.Proofs.Ythbhjgbpjlnbcaa.code
set_option maxRecDepth 100000
namespace Go.Proofs.Ythbhjgbpjlnbcaa.code
open Go.Abs
noncomputable section
def K32r0:OpsF:=(oVal (.tmp 2) (kMove (.con (.int .u64 0))) oNil)
def K32r1:OpsF:=(oVal (.tmp 4) (kMove (.tmp 0)) (oVal (.tmp 5) (kMove (.tmp 0)) (oVal (.tmp 6) (kUn nilA (.tmp 5)) (oVal (.tmp 7) (kUn (fadA 0) (.tmp 6)) (oVal (.tmp 8) (kLoad none (.tmp 7)) (oVal (.tmp 9) (kInt aAdd (.tmp 8) (.con (.int .u64 11562461410679940143))) (oVal (.tmp 10) (kUn nilA (.tmp 4)) (oVal (.tmp 11) (kUn (fadA 0) (.tmp 10)) (oVal .none (kStore 1 (.tmp 11) (.tmp 9)) oNil)))))))))
def K32r2:OpsF:=(oVal (.tmp 12) (kMove (.tmp 0)) (oVal (.tmp 13) (kUn nilA (.tmp 12)) (oVal (.tmp 14) (kUn (fadA 0) (.tmp 13)) (oVal (.tmp 15) (kLoad none (.tmp 14)) (oVal (.tmp 3) (kMove (.tmp 15)) oNil)))))
def K32r3:OpsF:=(oVal (.tmp 16) (kMove (.tmp 3)) (oVal (.tmp 17) (kMove (.tmp 3)) (oVal (.tmp 18) (kShr (.tmp 17) (.con (.int .u64 30))) (oVal (.tmp 19) (kInt aXor (.tmp 16) (.tmp 18)) (oVal (.tmp 20) (kInt aMul (.tmp 19) (.con (.int .u64 13787848793156543929))) (oVal (.tmp 3) (kMove (.tmp 20)) oNil))))))
def K32r4:OpsF:=(oVal (.tmp 21) (kMove (.tmp 3)) (oVal (.tmp 22) (kMove (.tmp 3)) (oVal (.tmp 23) (kShr (.tmp 22) (.con (.int .u64 27))) (oVal (.tmp 24) (kInt aXor (.tmp 21) (.tmp 23)) (oVal (.tmp 25) (kInt aMul (.tmp 24) (.con (.int .u64 10723151780598845931))) (oVal (.tmp 3) (kMove (.tmp 25)) oNil))))))
def K32r5:OpsF:=(oVal (.tmp 26) (kMove (.tmp 3)) (oVal (.tmp 27) (kMove (.tmp 3)) (oVal (.tmp 28) (kShr (.tmp 27) (.con (.int .u64 31))) (oVal (.tmp 29) (kInt aXor (.tmp 26) (.tmp 28)) (oVal (.tmp 2) (kMove (.tmp 29)) oNil)))))
theorem res32:Try.f32.results.toList=[.tmp 2]:=by kernel_rfl
def K32:K:=(kSeq (kRegion K32r0 [2]) (kSeq (kRegion K32r1 []) (kSeq (kRegion K32r2 [3]) (kSeq (kRegion K32r3 [3]) (kSeq (kRegion K32r4 [3]) (kSeq (kRegion K32r5 [2]) kRet))))))
theorem enter32 (cl:CallF) (a0:AV) (s:St):enterA Try.prog X cl 32 [a0] s Try.f32=finA Try.prog Try.f32 (K32 cl ⟨32,none,Try.f32.ntmps,X 32⟩ (paramsEnv 0 [a0] .nil) [] s) :=
  enterA_eq (b:=Try.f32.body.getD .skip) (by kernel_rfl) (by kernel_rfl) (by kernel_rfl) (by kernel_rfl) (by kernel_rfl)
def K15r0:OpsF:=(oVal (.tmp 4) (kMove (.con (.int .i64 0))) oNil)
def K15r1:OpsF:=(oVal (.tmp 5) (kMove (.tmp 1)) (oVal (.tmp 6) (kInt aLss (.tmp 5) (.con (.int .i64 2))) oNil))
def K15r2:OpsF:=(oVal (.tmp 4) (kMove (.con (.int .i64 0))) oNil)
def K15r3:OpsF:=(oVal (.tmp 7) (kMove (.tmp 0)) (oCall (.tmp 8) (.con (.func 32 [] [])) [(.tmp 7)] (oVal (.tmp 9) (kShr (.tmp 8) (.con (.int .u64 2))) (oVal (.tmp 10) (kMove (.tmp 1)) (oVal (.tmp 11) (kUn (cviA .u64) (.tmp 10)) (oVal (.tmp 12) (kInt aRem (.tmp 9) (.tmp 11)) (oVal (.tmp 13) (kUn (cviA .i64) (.tmp 12)) (oVal (.tmp 4) (kMove (.tmp 13)) oNil))))))))
theorem res15:Try.f15.results.toList=[.tmp 4]:=by kernel_rfl
def K15:K:=(kSeq (kRegion K15r0 [4]) (kSeq (kSeq (kRegion K15r1 [6]) (kCond (.tmp 6) (kSeq (kRegion K15r2 [4]) kRet) kSkip)) (kSeq (kRegion K15r3 [4]) kRet)))
theorem enter15 (cl:CallF) (a0 a1:AV) (s:St):enterA Try.prog X cl 15 [a0,a1] s Try.f15=finA Try.prog Try.f15 (K15 cl ⟨15,none,Try.f15.ntmps,X 15⟩ (paramsEnv 0 [a0,a1] .nil) [] s) :=
  enterA_eq (b:=Try.f15.body.getD .skip) (by kernel_rfl) (by kernel_rfl) (by kernel_rfl) (by kernel_rfl) (by kernel_rfl)
def K26r0:OpsF:=(oVal (.tmp 6) (kMove (.con (.int .i64 0))) oNil)
def K26r1:OpsF:=(oVal (.tmp 7) (kMove (.tmp 1)) (oVal (.tmp 8) (kMove (.tmp 0)) (oVal (.tmp 9) (kMove (.tmp 2)) (oVal (.tmp 10) (kMove (.tmp 1)) (oVal (.tmp 11) (kInt aSub (.tmp 9) (.tmp 10)) (oVal (.tmp 12) (kInt aAdd (.tmp 11) (.con (.int .i64 1))) (oCall (.tmp 13) (.con (.func 15 [] [])) [(.tmp 8),(.tmp 12)] (oVal (.tmp 14) (kInt aAdd (.tmp 7) (.tmp 13)) (oVal (.tmp 6) (kMove (.tmp 14)) oNil)))))))))
theorem res26:Try.f26.results.toList=[.tmp 6]:=by kernel_rfl
def K26:K:=(kSeq (kRegion K26r0 [6]) (kSeq (kRegion K26r1 [6]) kRet))
theorem enter26 (cl:CallF) (a0 a1 a2:AV) (s:St):enterA Try.prog X cl 26 [a0,a1,a2] s Try.f26=finA Try.prog Try.f26 (K26 cl ⟨26,none,Try.f26.ntmps,X 26⟩ (paramsEnv 0 [a0,a1,a2] .nil) [] s) :=
  enterA_eq (b:=Try.f26.body.getD .skip) (by kernel_rfl) (by kernel_rfl) (by kernel_rfl) (by kernel_rfl) (by kernel_rfl)
def K27r0:OpsF:=(oVal (.tmp 4) (kMove (.con (.bool false))) oNil)
def K27r1:OpsF:=(oVal (.tmp 5) (kMove (.tmp 0)) (oVal (.tmp 6) (kMove (.tmp 1)) (oCall (.tmp 7) (.con (.func 15 [] [])) [(.tmp 5),(.tmp 6)] (oVal (.tmp 8) (kInt aEql (.tmp 7) (.con (.int .i64 0))) (oVal (.tmp 4) (kMove (.tmp 8)) oNil)))))
theorem res27:Try.f27.results.toList=[.tmp 4]:=by kernel_rfl
def K27:K:=(kSeq (kRegion K27r0 [4]) (kSeq (kRegion K27r1 [4]) kRet))
theorem enter27 (cl:CallF) (a0 a1:AV) (s:St):enterA Try.prog X cl 27 [a0,a1] s Try.f27=finA Try.prog Try.f27 (K27 cl ⟨27,none,Try.f27.ntmps,X 27⟩ (paramsEnv 0 [a0,a1] .nil) [] s) :=
  enterA_eq (b:=Try.f27.body.getD .skip) (by kernel_rfl) (by kernel_rfl) (by kernel_rfl) (by kernel_rfl) (by kernel_rfl)
def K33r0:OpsF:=(oVal (.tmp 4) (kMove (.con (.int .i64 0))) oNil)
def K33r1:OpsF:=(oVal (.tmp 5) (kMove (.tmp 1)) (oVal (.tmp 6) (kUn lenSlA (.tmp 5)) (oVal (.tmp 7) (kInt aEql (.tmp 6) (.con (.int .i64 0))) oNil)))
def K33r2:OpsF:=(oVal (.tmp 4) (kMove (.con (.int .i64 0))) oNil)
def K33r3:OpsF:=(oVal (.tmp 8) (kMove (.tmp 1)) (oVal (.tmp 9) (kMove (.tmp 0)) (oVal (.tmp 10) (kMove (.tmp 1)) (oVal (.tmp 11) (kUn lenSlA (.tmp 10)) (oCall (.tmp 12) (.con (.func 15 [] [])) [(.tmp 9),(.tmp 11)] (oVal (.tmp 13) (kTwo (ixsA 1) (.tmp 8) (.tmp 12)) (oVal (.tmp 14) (kLoad none (.tmp 13)) (oVal (.tmp 4) (kMove (.tmp 14)) oNil))))))))
theorem res33:Try.f33.results.toList=[.tmp 4]:=by kernel_rfl
def K33:K:=(kSeq (kRegion K33r0 [4]) (kSeq (kSeq (kRegion K33r1 [7]) (kCond (.tmp 7) (kSeq (kRegion K33r2 [4]) kRet) kSkip)) (kSeq (kRegion K33r3 [4]) kRet)))
theorem enter33 (cl:CallF) (a0 a1:AV) (s:St):enterA Try.prog X cl 33 [a0,a1] s Try.f33=finA Try.prog Try.f33 (K33 cl ⟨33,none,Try.f33.ntmps,X 33⟩ (paramsEnv 0 [a0,a1] .nil) [] s) :=
  enterA_eq (b:=Try.f33.body.getD .skip) (by kernel_rfl) (by kernel_rfl) (by kernel_rfl) (by kernel_rfl) (by kernel_rfl)
def K34r0:OpsF:=(oVal (.tmp 4) (kMove (.con .nilslice)) oNil)
def K34r1:OpsF:=(oVal (.tmp 8) (kMove (.tmp 1)) (oVal (.tmp 9) (kFold maxA (.con (.int .i64 0)) [(.tmp 8)]) (oVal (.tmp 10) (kMake [(.int .i64 0)] 8 (.tmp 9) (.tmp 9)) (oVal (.tmp 5) (kMove (.tmp 10)) oNil))))
def K34r2:OpsF:=(oVal (.tmp 6) (kMove (.con (.int .i64 0))) oNil)
def K34r3:OpsF:=(oVal (.tmp 11) (kMove (.tmp 6)) (oVal (.tmp 12) (kMove (.tmp 5)) (oVal (.tmp 13) (kUn lenSlA (.tmp 12)) (oVal (.tmp 14) (kInt aLss (.tmp 11) (.tmp 13)) oNil))))
def K34r4:OpsF:=(oVal (.tmp 17) (kMove (.tmp 0)) (oVal (.tmp 18) (kMove (.tmp 6)) (oVal (.tmp 19) (kInt aAdd (.tmp 18) (.con (.int .i64 1))) (oCall (.tmp 20) (.con (.func 15 [] [])) [(.tmp 17),(.tmp 19)] (oVal (.tmp 7) (kMove (.tmp 20)) oNil)))))
def K34r5:OpsF:=(oVal (.tmp 21) (kMove (.tmp 5)) (oVal (.tmp 22) (kMove (.tmp 6)) (oVal (.tmp 23) (kMove (.tmp 5)) (oVal (.tmp 24) (kMove (.tmp 7)) (oVal (.tmp 25) (kTwo (ixsA 1) (.tmp 23) (.tmp 24)) (oVal (.tmp 26) (kLoad none (.tmp 25)) (oVal (.tmp 27) (kTwo (ixsA 1) (.tmp 21) (.tmp 22)) (oVal .none (kStore 1 (.tmp 27) (.tmp 26)) oNil))))))))
def K34r6:OpsF:=(oVal (.tmp 28) (kMove (.tmp 5)) (oVal (.tmp 29) (kMove (.tmp 7)) (oVal (.tmp 30) (kMove (.tmp 6)) (oVal (.tmp 31) (kTwo (ixsA 1) (.tmp 28) (.tmp 29)) (oVal .none (kStore 1 (.tmp 31) (.tmp 30)) oNil)))))
def K34r7:OpsF:=(oVal (.tmp 15) (kMove (.tmp 6)) (oVal (.tmp 16) (kInt aAdd (.tmp 15) (.con (.int .i64 1))) (oVal (.tmp 6) (kMove (.tmp 16)) oNil)))
def K34l0:K:=(kSeq (kSeq (kRegion K34r3 [14]) (kCond (.tmp 14) kSkip (kExit 0))) (kSeq (kBlock 1 (kSeq (kRegion K34r4 [7]) (kSeq (kRegion K34r5 []) (kRegion K34r6 [])))) (kRegion K34r7 [6])))
def K34r8:OpsF:=(oVal (.tmp 32) (kMove (.tmp 5)) (oVal (.tmp 4) (kMove (.tmp 32)) oNil))
theorem res34:Try.f34.results.toList=[.tmp 4]:=by kernel_rfl
def K34:K:=(kSeq (kRegion K34r0 [4]) (kSeq (kRegion K34r1 [5]) (kSeq (kSeq (kRegion K34r2 [6]) (kBlock 0 (kLoop K34l0))) (kSeq (kRegion K34r8 [4]) kRet))))
theorem enter34 (cl:CallF) (a0 a1:AV) (s:St):enterA Try.prog X cl 34 [a0,a1] s Try.f34=finA Try.prog Try.f34 (K34 cl ⟨34,none,Try.f34.ntmps,X 34⟩ (paramsEnv 0 [a0,a1] .nil) [] s) :=
  enterA_eq (b:=Try.f34.body.getD .skip) (by kernel_rfl) (by kernel_rfl) (by kernel_rfl) (by kernel_rfl) (by kernel_rfl)
end
end Go.Proofs.Ythbhjgbpjlnbcaa.code
set_option maxRecDepth 100000
namespace Go.Proofs.Ythbhjgbpjlnbcaa.code
open Go.Abs
noncomputable section
def K12r0:OpsF:=(oVal (.tmp 6) (kAlloc [.nilslice,.nilslice] (tag 28)) oNil)
def K12r1:OpsF:=(oVal (.tmp 7) (kAlloc [.nilslice,.nilslice] (tag 28)) oNil)
def K12r2:OpsF:=(oVal (.tmp 14) (kMove (.tmp 0)) (oVal (.tmp 15) (kMove (.tmp 2)) (oVal (.tmp 16) (kInt aAdd (.tmp 15) (.con (.int .i64 1))) (oCall (.tmp 17) (.con (.func 15 [] [])) [(.tmp 14),(.tmp 16)] (oVal (.tmp 8) (kMove (.tmp 17)) oNil)))))
def K12r3:OpsF:=(oVal (.tmp 18) (kMove (.tmp 0)) (oVal (.tmp 19) (kMove (.tmp 1)) (oCall (.tmp 20) (.con (.func 26 [] [])) [(.tmp 18),(.con (.int .i64 1)),(.tmp 19)] (oVal (.tmp 9) (kMove (.tmp 20)) oNil))))
def K12r4:OpsF:=(oVal (.tmp 21) (kMove (.tmp 9)) (oVal (.tmp 22) (kGtr (.tmp 21) (.con (.int .i64 0))) oNil))
def K12r5:OpsF:=(oVal (.tmp 25) (kMove (.tmp 0)) (oCall (.tmp 26) (.con (.func 26 [] [])) [(.tmp 25),(.con (.int .i64 1)),(.con (.int .i64 3))] (oVal (.tmp 27) (kMove (.tmp 0)) (oVal (.tmp 28) (kMove (.tmp 0)) (oCall (.tmp 29) (.con (.func 15 [] [])) [(.tmp 28),(.con (.int .i64 10))] (oVal (.tmp 30) (kMove (.tmp 0)) (oCall (.tmp 31) (.con (.func 15 [] [])) [(.tmp 30),(.con (.int .i64 1000))] (oVal (.tmp 32) (kBuildSlice [(.int .i64 0),(.int .i64 0),(.int .i64 0)] 3 [(0,1,(.con (.int .i64 0))),(1,1,(.tmp 29)),(2,1,(.tmp 31))]) (oCall (.tmp 33) (.con (.func 33 [] [])) [(.tmp 27),(.tmp 32)] (oVal (.tmp 34) (kBuild [(.int .i64 0),(.int .i64 0),(.int .i64 0)] [(0,1,(.tmp 26)),(1,1,(.tmp 33)),(2,1,(.con (.int .i64 (-1))))]) (oVal (.tmp 10) (kAlloc [(.int .i64 0),(.int .i64 0),(.int .i64 0)] (tag 53)) (oVal .none (kStore 3 (.tmp 10) (.tmp 34)) oNil))))))))))))
def K12r6:OpsF:=(oVal (.tmp 35) (kMove (.tmp 0)) (oCall (.tmp 36) (.con (.func 27 [] [])) [(.tmp 35),(.con (.int .i64 4))] oNil))
def K12r7:OpsF:=(oVal (.tmp 37) (kMove (.tmp 0)) (oVal (.tmp 38) (kMove (.tmp 8)) (oVal (.tmp 39) (kInt aSub (.tmp 38) (.con (.int .i64 1))) (oCall (.tmp 40) (.con (.func 26 [] [])) [(.tmp 37),(.con (.int .i64 (-1))),(.tmp 39)] (oVal (.tmp 41) (kUn (fadA 2) (.tmp 10)) (oVal .none (kStore 1 (.tmp 41) (.tmp 40)) oNil))))))
def K12r8:OpsF:=(oVal (.tmp 42) (kUn (fadA 0) (.tmp 7)) (oVal (.tmp 43) (kLoad none (.tmp 42)) (oVal (.tmp 44) (kLoad (some 3) (.tmp 10)) (oVal (.tmp 45) (kBuildSlice [(.int .i64 0),(.int .i64 0),(.int .i64 0)] 1 [(0,3,(.tmp 44))]) (oVal (.tmp 46) (kTwo (appendA false 3 24 (tag 53)) (.tmp 43) (.tmp 45)) (oVal (.tmp 47) (kUn (fadA 0) (.tmp 7)) (oVal .none (kStore 1 (.tmp 47) (.tmp 46)) oNil)))))))
def K12r9:OpsF:=(oVal (.tmp 23) (kMove (.tmp 9)) (oVal (.tmp 24) (kInt aSub (.tmp 23) (.con (.int .i64 1))) (oVal (.tmp 9) (kMove (.tmp 24)) oNil)))
def K12l0:K:=(kSeq (kSeq (kRegion K12r4 [22]) (kCond (.tmp 22) kSkip (kExit 0))) (kSeq (kBlock 1 (kSeq (kRegion K12r5 [10]) (kSeq (kSeq (kRegion K12r6 [36]) (kCond (.tmp 36) (kRegion K12r7 []) kSkip)) (kRegion K12r8 [])))) (kRegion K12r9 [9])))
def K12r10:OpsF:=(oVal (.tmp 11) (kMove (.con (.int .i64 0))) oNil)
def K12r11:OpsF:=(oVal (.tmp 48) (kMove (.tmp 11)) (oVal (.tmp 49) (kMove (.tmp 8)) (oVal (.tmp 50) (kInt aLss (.tmp 48) (.tmp 49)) oNil)))
def K12r12:OpsF:=(oVal (.tmp 53) (kMove (.tmp 0)) (oCall (.tmp 54) (.con (.func 15 [] [])) [(.tmp 53),(.con (.int .i64 5))] (oVal (.tmp 55) (kMove (.tmp 0)) (oVal (.tmp 56) (kMove (.tmp 0)) (oCall (.tmp 57) (.con (.func 15 [] [])) [(.tmp 56),(.con (.int .i64 10))] (oVal (.tmp 58) (kMove (.tmp 0)) (oCall (.tmp 59) (.con (.func 15 [] [])) [(.tmp 58),(.con (.int .i64 1000000001))] (oVal (.tmp 60) (kBuildSlice [(.int .i64 0),(.int .i64 0)] 2 [(0,1,(.tmp 57)),(1,1,(.tmp 59))]) (oCall (.tmp 61) (.con (.func 33 [] [])) [(.tmp 55),(.tmp 60)] (oVal (.tmp 62) (kBuild [(.int .i64 0),(.int .i64 0),.nilslice,.nilslice] [(0,1,(.tmp 54)),(1,1,(.tmp 61))]) (oVal (.tmp 12) (kAlloc [(.int .i64 0),(.int .i64 0),.nilslice,.nilslice] (tag 37)) (oVal .none (kStore 4 (.tmp 12) (.tmp 62)) oNil))))))))))))
def K12r13:OpsF:=(oVal (.tmp 63) (kMove (.tmp 0)) (oVal (.tmp 64) (kUn (fadA 0) (.tmp 7)) (oVal (.tmp 65) (kLoad none (.tmp 64)) (oVal (.tmp 66) (kUn lenSlA (.tmp 65)) (oCall (.tmp 67) (.con (.func 34 [] [])) [(.tmp 63),(.tmp 66)] (oVal (.tmp 68) (kUn (fadA 2) (.tmp 12)) (oVal .none (kStore 1 (.tmp 68) (.tmp 67)) oNil)))))))
def K12r14:OpsF:=(oVal (.tmp 69) (kMove (.tmp 0)) (oCall (.tmp 70) (.con (.func 27 [] [])) [(.tmp 69),(.con (.int .i64 2))] oNil))
def K12r15:OpsF:=(oEnd [] (oVal (.tmp 71) (kUn (fadA 2) (.tmp 12)) (oVal (.tmp 72) (kLoad none (.tmp 71)) (oVal (.tmp 73) (kMove (.tmp 0)) (oVal (.tmp 74) (kUn (fadA 2) (.tmp 12)) (oVal (.tmp 75) (kLoad none (.tmp 74)) (oVal (.tmp 76) (kUn lenSlA (.tmp 75)) (oVal (.tmp 77) (kInt aAdd (.tmp 76) (.con (.int .i64 1))) (oCallT (some [71]) (.tmp 78) (.con (.func 15 [] [])) [(.tmp 73),(.tmp 77)] (oVal (.tmp 79) (kSlice (sliceVal 1) (.tmp 72) none (some (.tmp 78))) (oVal (.tmp 80) (kUn (fadA 2) (.tmp 12)) (oVal .none (kStore 1 (.tmp 80) (.tmp 79)) oNil))))))))))))
def K12r16:OpsF:=(oVal (.tmp 13) (kMove (.con (.int .i64 0))) oNil)
def K12r17:OpsF:=(oVal (.tmp 81) (kMove (.tmp 13)) (oVal (.tmp 82) (kUn (fadA 2) (.tmp 12)) (oVal (.tmp 83) (kLoad none (.tmp 82)) (oVal (.tmp 84) (kUn lenSlA (.tmp 83)) (oVal (.tmp 85) (kInt aLss (.tmp 81) (.tmp 84)) oNil)))))
def K12r18:OpsF:=(oEnd [] (oVal (.tmp 88) (kUn (fadA 3) (.tmp 12)) (oVal (.tmp 89) (kLoad none (.tmp 88)) (oVal (.tmp 90) (kUn (fadA 0) (.tmp 7)) (oVal (.tmp 91) (kLoad none (.tmp 90)) (oVal (.tmp 92) (kUn (fadA 2) (.tmp 12)) (oVal (.tmp 93) (kLoad none (.tmp 92)) (oVal (.tmp 94) (kMove (.tmp 13)) (oVal (.tmp 95) (kTwo (ixsA 1) (.tmp 93) (.tmp 94)) (oVal (.tmp 96) (kLoad none (.tmp 95)) (oVal (.tmp 97) (kTwo (ixsA 3) (.tmp 91) (.tmp 96)) (oVal (.tmp 98) (kUn (fadA 1) (.tmp 97)) (oVal (.tmp 99) (kLoad none (.tmp 98)) (oVal (.tmp 100) (kMove (.tmp 0)) (oVal (.tmp 101) (kMove (.tmp 0)) (oCallT (some [88,90,92,95,98]) (.tmp 102) (.con (.func 15 [] [])) [(.tmp 101),(.con (.int .i64 8))] (oVal (.tmp 103) (kBuildSlice [(.int .i64 0),(.int .i64 0),(.int .i64 0),(.int .i64 0)] 4 [(0,1,(.con (.int .i64 0))),(1,1,(.con (.int .i64 1))),(2,1,(.con (.int .i64 (-1)))),(3,1,(.tmp 102))]) (oCallT (some [88,90,92,95,98]) (.tmp 104) (.con (.func 33 [] [])) [(.tmp 100),(.tmp 103)] (oVal (.tmp 105) (kInt aAdd (.tmp 99) (.tmp 104)) (oVal (.tmp 106) (kFold maxA (.con (.int .i64 0)) [(.tmp 105)]) (oVal (.tmp 107) (kBuildSlice [(.int .i64 0)] 1 [(0,1,(.tmp 106))]) (oVal (.tmp 108) (kTwo (appendA false 1 8 (tag 3)) (.tmp 89) (.tmp 107)) (oVal (.tmp 109) (kUn (fadA 3) (.tmp 12)) (oVal .none (kStore 1 (.tmp 109) (.tmp 108)) oNil))))))))))))))))))))))))
def K12r19:OpsF:=(oVal (.tmp 86) (kMove (.tmp 13)) (oVal (.tmp 87) (kInt aAdd (.tmp 86) (.con (.int .i64 1))) (oVal (.tmp 13) (kMove (.tmp 87)) oNil)))
def K12l1:K:=(kSeq (kSeq (kRegion K12r17 [85]) (kCond (.tmp 85) kSkip (kExit 4))) (kSeq (kBlock 5 (kRegionD K12r18 [])) (kRegion K12r19 [13])))
def K12r20:OpsF:=(oVal (.tmp 110) (kUn (fadA 1) (.tmp 7)) (oVal (.tmp 111) (kLoad none (.tmp 110)) (oVal (.tmp 112) (kLoad (some 4) (.tmp 12)) (oVal (.tmp 113) (kBuildSlice [(.int .i64 0),(.int .i64 0),.nilslice,.nilslice] 1 [(0,4,(.tmp 112))]) (oVal (.tmp 114) (kTwo (appendA false 4 64 (tag 37)) (.tmp 111) (.tmp 113)) (oVal (.tmp 115) (kUn (fadA 1) (.tmp 7)) (oVal .none (kStore 1 (.tmp 115) (.tmp 114)) oNil)))))))
def K12r21:OpsF:=(oVal (.tmp 51) (kMove (.tmp 11)) (oVal (.tmp 52) (kInt aAdd (.tmp 51) (.con (.int .i64 1))) (oVal (.tmp 11) (kMove (.tmp 52)) oNil)))
def K12l2:K:=(kSeq (kSeq (kRegion K12r11 [50]) (kCond (.tmp 50) kSkip (kExit 2))) (kSeq (kBlock 3 (kSeq (kRegion K12r12 [12]) (kSeq (kRegion K12r13 []) (kSeq (kSeq (kRegion K12r14 [70]) (kCond (.tmp 70) (kRegionD K12r15 []) kSkip)) (kSeq (kSeq (kRegion K12r16 [13]) (kBlock 4 (kLoop K12l1))) (kRegion K12r20 [])))))) (kRegion K12r21 [11])))
def K12r22:OpsF:=(oVal (.tmp 116) (kLoad (some 2) (.tmp 7)) (oVal .none (kStore 2 (.tmp 6) (.tmp 116)) oNil))
theorem res12:Try.f12.results.toList=[.cell 6 28]:=by kernel_rfl
def K12:K:=(kSeq (kRegion K12r0 [6]) (kSeq (kRegion K12r1 [7]) (kSeq (kRegion K12r2 [8]) (kSeq (kSeq (kRegion K12r3 [9]) (kBlock 0 (kLoop K12l0))) (kSeq (kSeq (kRegion K12r10 [11]) (kBlock 2 (kLoop K12l2))) (kSeq (kRegion K12r22 []) kRet))))))
theorem enter12 (cl:CallF) (a0 a1 a2:AV) (s:St):enterA Try.prog X cl 12 [a0,a1,a2] s Try.f12=finA Try.prog Try.f12 (K12 cl ⟨12,none,Try.f12.ntmps,X 12⟩ (paramsEnv 0 [a0,a1,a2] .nil) [] s) :=
  enterA_eq (b:=Try.f12.body.getD .skip) (by kernel_rfl) (by kernel_rfl) (by kernel_rfl) (by kernel_rfl) (by kernel_rfl)
end
end Go.Proofs.Ythbhjgbpjlnbcaa.code
set_option maxRecDepth 100000
namespace Go.Proofs.Ythbhjgbpjlnbcaa.code
open Go.Abs
noncomputable section
end
end Go.Proofs.Ythbhjgbpjlnbcaa.code
set_option maxRecDepth 100000
namespace Go.Proofs.Ythbhjgbpjlnbcaa.code
open Go.Abs
noncomputable section
def K29r0:OpsF:=(oVal (.tmp 2) (kBox (tag 28) (.tmp 0)) (oVal (.tmp 4) (kMove (.con .nilslice)) (oVal (.tmp 5) (kMove (.con (.int .i64 0))) oNil)))
def K29r1:OpsF:=(oEnd [] (oVal (.tmp 7) (kLoad (some 2) (.tmp 2)) (oCallT (some [10,11]) (.tmp 8) (.con (.func 35 [] [])) [(.tmp 7)] (oVal (.tmp 9) (kMove (.tmp 1)) (oVal (.tmp 10) (kUn (fadA 0) (.tmp 2)) (oVal (.tmp 11) (kLoad none (.tmp 10)) (oVal (.tmp 12) (kUn lenSlA (.tmp 11)) (oCall (.tmp 13) (.con (.func 48 [] [])) [(.tmp 9),(.tmp 12)] (oVal (.tmp 14) (kBuildSlice [(.int .i64 0),(.int .i64 0)] 2 [(0,1,(.tmp 8)),(1,1,(.tmp 13))]) (oCall (.tmp 15) (.con (.func 47 [] [])) [(.tmp 14)] (oVal (.tmp 6) (kMove (.tmp 15)) oNil)))))))))))
def K29r2:OpsF:=(oVal (.tmp 16) (kMove (.tmp 6)) (oVal (.tmp 17) (kInt aNeq (.tmp 16) (.con (.int .i64 0))) oNil))
def K29r3:OpsF:=(oVal (.tmp 18) (kMove (.tmp 6)) (oVal (.tmp 4) (kMove (.con .nilslice)) (oVal (.tmp 5) (kMove (.tmp 18)) oNil)))
def K29r4:OpsF:=(oVal (.tmp 19) (kLoad (some 2) (.tmp 2)) (oVal (.tmp 20) (kMove (.tmp 1)) (oCall (.tmp 21) (.con (.func 49 [] [])) [(.tmp 19),(.tmp 20)] (oVal (.tmp 4) (kMove (.tmp 21)) (oVal (.tmp 5) (kMove (.con (.int .i64 0))) oNil)))))
theorem res29:Try.f29.results.toList=[.tmp 4,.tmp 5]:=by kernel_rfl
def K29:K:=(kSeq (kRegion K29r0 [2,4,5]) (kSeq (kSeq (kRegionD K29r1 [6]) (kSeq (kRegion K29r2 [17]) (kCond (.tmp 17) (kSeq (kRegion K29r3 [4,5]) kRet) kSkip))) (kSeq (kRegion K29r4 [4,5]) kRet)))
theorem enter29 (cl:CallF) (a0 a1:AV) (s:St):enterA Try.prog X cl 29 [a0,a1] s Try.f29=finA Try.prog Try.f29 (K29 cl ⟨29,none,Try.f29.ntmps,X 29⟩ (paramsEnv 0 [a0,a1] .nil) [] s) :=
  enterA_eq (b:=Try.f29.body.getD .skip) (by kernel_rfl) (by kernel_rfl) (by kernel_rfl) (by kernel_rfl) (by kernel_rfl)
def K49r0:OpsF:=(oVal (.tmp 2) (kBox (tag 28) (.tmp 0)) (oVal (.tmp 3) (kBox (tag 3) (.tmp 1)) (oVal (.tmp 4) (kMove (.con .nilslice)) oNil)))
def K49r1:OpsF:=(oVal (.tmp 8) (kLoad (some 2) (.tmp 2)) (oCall (.tmp 9) (.con (.func 36 [] [])) [(.tmp 8)] (oVal (.tmp 5) (kAlloc [(.int .i64 0),(.int .i64 0),(.int .i64 0),(.int .i64 0),(.int .i64 0),(.int .i64 0),(.int .i64 0),(.int .i64 0)] (tag 69)) (oVal .none (kStore 8 (.tmp 5) (.tmp 9)) oNil))))
def K49r2:OpsF:=(oEnd [] (oVal (.tmp 10) (kLoad (some 2) (.tmp 2)) (oVal (.tmp 11) (kLoad none (.tmp 3)) (oVal (.tmp 12) (kUn (fadA 1) (.tmp 2)) (oVal (.tmp 13) (kLoad none (.tmp 12)) (oVal (.tmp 14) (kUn lenSlA (.tmp 13)) (oVal (.tmp 15) (kSlice (sliceArr 8 1) (.tmp 5) none (some (.tmp 14))) (oCallT (some [2,3]) (.tmp 16) (.con (.func 54 [] [])) [(.tmp 15)] (oVal (.tmp 17) (kBuild [.nilslice,.nilslice,(.int .i64 0),.nilmap] [(0,2,(.tmp 10)),(2,1,(.tmp 11)),(3,1,(.tmp 16))]) (oVal (.tmp 6) (kAlloc [.nilslice,.nilslice,(.int .i64 0),.nilmap] (tag 101)) (oVal .none (kStore 4 (.tmp 6) (.tmp 17)) oNil)))))))))))
def K49r3:OpsF:=(oVal (.tmp 18) (kLoad (some 2) (.tmp 2)) (oCall (.tmp 19) (.con (.func 41 [] [])) [(.tmp 18)] (oVal (.tmp 20) (kFunc 62 [] [(.tmp 2),(.tmp 3)]) (oCall (.tmp 21) (.con (.func 61 [] [])) [(.tmp 19),(.tmp 20)] (oVal (.tmp 7) (kMove (.tmp 21)) oNil)))))
def K49r4:OpsF:=(oVal (.tmp 22) (kMove (.tmp 7)) (oVal (.tmp 23) (kLoad (some 4) (.tmp 6)) (oVal (.tmp 24) (kFunc 64 [(.tmp 23)] []) (oCall (.tmp 25) (.con (.func 63 [] [])) [(.tmp 22),(.tmp 24)] (oVal (.tmp 4) (kMove (.tmp 25)) oNil)))))
theorem res49:Try.f49.results.toList=[.tmp 4]:=by kernel_rfl
def K49:K:=(kSeq (kRegion K49r0 [2,3,4]) (kSeq (kRegion K49r1 [5]) (kSeq (kRegionD K49r2 [6]) (kSeq (kRegion K49r3 [7]) (kSeq (kRegion K49r4 [4]) kRet)))))
theorem enter49 (cl:CallF) (a0 a1:AV) (s:St):enterA Try.prog X cl 49 [a0,a1] s Try.f49=finA Try.prog Try.f49 (K49 cl ⟨49,none,Try.f49.ntmps,X 49⟩ (paramsEnv 0 [a0,a1] .nil) [] s) :=
  enterA_eq (b:=Try.f49.body.getD .skip) (by kernel_rfl) (by kernel_rfl) (by kernel_rfl) (by kernel_rfl) (by kernel_rfl)
def K62r0:OpsF:=(oVal (.tmp 4) (kMove (.con (.bool false))) oNil)
def K62r1:OpsF:=(oVal (.tmp 8) (kLoad (some 2) (.tmp 1)) (oVal (.tmp 9) (kMove (.tmp 0)) (oVal (.tmp 10) (kLoad none (.tmp 2)) (oCall (.tmp 11) (.con (.func 50 [] [])) [(.tmp 8),(.tmp 9),(.tmp 10)] (oVal (.tmp 7) (kMove (.tmp 11)) (oVal (.tmp 12) (kUn (extA 0) (.tmp 7)) (oVal (.tmp 13) (kUn (extA 1) (.tmp 7)) (oVal (.tmp 5) (kMove (.tmp 12)) (oVal (.tmp 6) (kMove (.tmp 13)) oNil)))))))))
def K62r2:OpsF:=(oVal (.tmp 14) (kMove (.tmp 6)) (oVal (.tmp 15) (kUn notA (.tmp 14)) (oVal (.tmp 4) (kMove (.tmp 15)) oNil)))
theorem res62:Try.f62.results.toList=[.tmp 4]:=by kernel_rfl
def K62:K:=(kSeq (kRegion K62r0 [4]) (kSeq (kRegion K62r1 [6]) (kSeq (kRegion K62r2 [4]) kRet)))
theorem enter62 (cl:CallF) (a0 a1 a2:AV) (s:St):enterA Try.prog X cl 62 [a0,a1,a2] s Try.f62=finA Try.prog Try.f62 (K62 cl ⟨62,none,Try.f62.ntmps,X 62⟩ (paramsEnv 0 [a0,a1,a2] .nil) [] s) :=
  enterA_eq (b:=Try.f62.body.getD .skip) (by kernel_rfl) (by kernel_rfl) (by kernel_rfl) (by kernel_rfl) (by kernel_rfl)
def K64r0:OpsF:=(oVal (.tmp 3) (kBox (tag 101) (.tmp 0)) (oVal (.tmp 6) (kMove (.con (.bool false))) oNil))
def K64r1:OpsF:=(oVal (.tmp 14) (kUn (fadA 0) (.tmp 3)) (oVal (.tmp 15) (kUn (fadA 0) (.tmp 14)) (oVal (.tmp 16) (kLoad none (.tmp 15)) (oVal (.tmp 17) (kUn (fadA 2) (.tmp 3)) (oVal (.tmp 18) (kLoad none (.tmp 17)) (oVal (.tmp 19) (kTwo (ixsA 3) (.tmp 16) (.tmp 18)) (oVal (.tmp 20) (kLoad (some 3) (.tmp 19)) (oVal (.tmp 7) (kAlloc [(.int .i64 0),(.int .i64 0),(.int .i64 0)] (tag 53)) (oVal .none (kStore 3 (.tmp 7) (.tmp 20)) oNil)))))))))
def K64r2s9:OpsF:=(oVal (.tmp 30) (kPick (.tmp 25) (.con (.bool true)) (.tmp 29)) oNil)
def K64r2s8:OpsF:=(oIf 25 false (oVal (.tmp 29) (kInt aEql (.tmp 27) (.tmp 28)) K64r2s9) (oSkip (.tmp 29) K64r2s9))
def K64r2s7:OpsF:=(oIf 25 false (oVal (.tmp 28) (kMove (.tmp 2)) K64r2s8) (oSkip (.tmp 28) K64r2s8))
def K64r2s6:OpsF:=(oIf 25 false (oVal (.tmp 27) (kLoad none (.tmp 26)) K64r2s7) (oSkip (.tmp 27) K64r2s7))
def K64r2:OpsF:=(oVal (.tmp 21) (kUn (fadA 2) (.tmp 7)) (oVal (.tmp 22) (kLoad none (.tmp 21)) (oVal (.tmp 23) (kMove (.tmp 1)) (oVal (.tmp 24) (kInt aEql (.tmp 22) (.tmp 23)) (oVal (.tmp 25) (kMove (.tmp 24)) (oIf 25 false (oVal (.tmp 26) (kUn (fadA 2) (.tmp 7)) K64r2s6) (oSkip (.tmp 26) K64r2s6)))))))
def K64r3:OpsF:=(oVal (.tmp 31) (kUn (fadA 2) (.tmp 7)) (oVal (.tmp 32) (kLoad none (.tmp 31)) (oVal (.tmp 33) (kMove (.tmp 1)) (oVal (.tmp 34) (kInt aEql (.tmp 32) (.tmp 33)) (oVal (.tmp 6) (kMove (.tmp 34)) oNil)))))
def K64r4:OpsF:=(oVal (.tmp 36) (kUn (fadA 0) (.tmp 3)) (oVal (.tmp 37) (kLoad (some 2) (.tmp 36)) (oVal (.tmp 38) (kMove (.tmp 1)) (oVal (.tmp 39) (kUn (fadA 2) (.tmp 3)) (oVal (.tmp 40) (kLoad none (.tmp 39)) (oCall (.tmp 41) (.con (.func 50 [] [])) [(.tmp 37),(.tmp 38),(.tmp 40)] (oVal (.tmp 35) (kMove (.tmp 41)) (oVal (.tmp 42) (kUn (extA 0) (.tmp 35)) (oVal (.tmp 43) (kUn (extA 1) (.tmp 35)) (oVal (.tmp 8) (kMove (.tmp 42)) (oVal (.tmp 9) (kMove (.tmp 43)) oNil)))))))))))
def K64r5:OpsF:=(oVal (.tmp 45) (kUn (fadA 0) (.tmp 3)) (oVal (.tmp 46) (kLoad (some 2) (.tmp 45)) (oVal (.tmp 47) (kMove (.tmp 2)) (oVal (.tmp 48) (kUn (fadA 2) (.tmp 3)) (oVal (.tmp 49) (kLoad none (.tmp 48)) (oCall (.tmp 50) (.con (.func 50 [] [])) [(.tmp 46),(.tmp 47),(.tmp 49)] (oVal (.tmp 44) (kMove (.tmp 50)) (oVal (.tmp 51) (kUn (extA 0) (.tmp 44)) (oVal (.tmp 52) (kUn (extA 1) (.tmp 44)) (oVal (.tmp 10) (kMove (.tmp 51)) (oVal (.tmp 11) (kMove (.tmp 52)) oNil)))))))))))
def K64r6s7:OpsF:=(oVal (.tmp 60) (kPick (.tmp 56) (.tmp 59) (.con (.bool false))) oNil)
def K64r6s6:OpsF:=(oIf 56 true (oVal (.tmp 59) (kInt aNeq (.tmp 57) (.tmp 58)) K64r6s7) (oSkip (.tmp 59) K64r6s7))
def K64r6s5:OpsF:=(oIf 56 true (oVal (.tmp 58) (kMove (.tmp 10)) K64r6s6) (oSkip (.tmp 58) K64r6s6))
def K64r6:OpsF:=(oVal (.tmp 53) (kUn (fadA 0) (.tmp 7)) (oVal (.tmp 54) (kLoad none (.tmp 53)) (oVal (.tmp 55) (kInt aEql (.tmp 54) (.con (.int .i64 3))) (oVal (.tmp 56) (kMove (.tmp 55)) (oIf 56 true (oVal (.tmp 57) (kMove (.tmp 8)) K64r6s5) (oSkip (.tmp 57) K64r6s5))))))
def K64r7:OpsF:=(oVal (.tmp 61) (kMove (.tmp 8)) (oVal (.tmp 62) (kMove (.tmp 10)) (oVal (.tmp 63) (kGtr (.tmp 61) (.tmp 62)) (oVal (.tmp 6) (kMove (.tmp 63)) oNil))))
def K64r8:OpsF:=(oEnd [] (oVal (.tmp 64) (kUn (fadA 0) (.tmp 3)) (oVal (.tmp 65) (kUn (fadA 1) (.tmp 64)) (oVal (.tmp 66) (kLoad none (.tmp 65)) (oVal (.tmp 67) (kMove (.tmp 1)) (oVal (.tmp 68) (kTwo (ixsA 4) (.tmp 66) (.tmp 67)) (oVal (.tmp 69) (kUn (fadA 0) (.tmp 68)) (oVal (.tmp 70) (kLoad none (.tmp 69)) (oVal (.tmp 71) (kUn (fadA 0) (.tmp 3)) (oVal (.tmp 72) (kUn (fadA 1) (.tmp 71)) (oVal (.tmp 73) (kLoad none (.tmp 72)) (oVal (.tmp 74) (kMove (.tmp 2)) (oVal (.tmp 75) (kTwo (ixsA 4) (.tmp 73) (.tmp 74)) (oVal (.tmp 76) (kUn (fadA 0) (.tmp 75)) (oVal (.tmp 77) (kLoad none (.tmp 76)) (oVal (.tmp 12) (kMove (.tmp 70)) (oVal (.tmp 13) (kMove (.tmp 77)) oNil)))))))))))))))))
def K64r9s7:OpsF:=(oVal (.tmp 85) (kPick (.tmp 81) (.tmp 84) (.con (.bool false))) oNil)
def K64r9s6:OpsF:=(oIf 81 true (oVal (.tmp 84) (kInt aNeq (.tmp 82) (.tmp 83)) K64r9s7) (oSkip (.tmp 84) K64r9s7))
def K64r9s5:OpsF:=(oIf 81 true (oVal (.tmp 83) (kMove (.tmp 13)) K64r9s6) (oSkip (.tmp 83) K64r9s6))
def K64r9:OpsF:=(oVal (.tmp 78) (kUn (fadA 0) (.tmp 7)) (oVal (.tmp 79) (kLoad none (.tmp 78)) (oVal (.tmp 80) (kInt aNeq (.tmp 79) (.con (.int .i64 1))) (oVal (.tmp 81) (kMove (.tmp 80)) (oIf 81 true (oVal (.tmp 82) (kMove (.tmp 12)) K64r9s5) (oSkip (.tmp 82) K64r9s5))))))
def K64r10:OpsF:=(oVal (.tmp 86) (kMove (.tmp 12)) (oVal (.tmp 87) (kMove (.tmp 13)) (oVal (.tmp 88) (kGtr (.tmp 86) (.tmp 87)) (oVal (.tmp 6) (kMove (.tmp 88)) oNil))))
def K64r11:OpsF:=(oVal (.tmp 89) (kUn (fadA 3) (.tmp 3)) (oVal (.tmp 90) (kLoad none (.tmp 89)) (oVal (.tmp 91) (kMove (.tmp 1)) (oVal (.tmp 92) (kLook .int (.int .i64 0) false (.tmp 90) (.tmp 91)) (oVal (.tmp 93) (kUn (fadA 3) (.tmp 3)) (oVal (.tmp 94) (kLoad none (.tmp 93)) (oVal (.tmp 95) (kMove (.tmp 2)) (oVal (.tmp 96) (kLook .int (.int .i64 0) false (.tmp 94) (.tmp 95)) (oVal (.tmp 97) (kInt aLss (.tmp 92) (.tmp 96)) (oVal (.tmp 6) (kMove (.tmp 97)) oNil))))))))))
theorem res64:Try.f64.results.toList=[.tmp 6]:=by kernel_rfl
def K64:K:=(kSeq (kRegion K64r0 [3,6]) (kSeq (kRegion K64r1 [7]) (kSeq (kSeq (kRegion K64r2 [30]) (kCond (.tmp 30) (kSeq (kRegion K64r3 [6]) kRet) kSkip)) (kSeq (kRegion K64r4 [8]) (kSeq (kRegion K64r5 [10]) (kSeq (kSeq (kRegion K64r6 [60]) (kCond (.tmp 60) (kSeq (kRegion K64r7 [6]) kRet) kSkip)) (kSeq (kRegionD K64r8 [12,13]) (kSeq (kSeq (kRegion K64r9 [85]) (kCond (.tmp 85) (kSeq (kRegion K64r10 [6]) kRet) kSkip)) (kSeq (kRegion K64r11 [6]) kRet)))))))))
theorem enter64 (cl:CallF) (a0 a1 a2:AV) (s:St):enterA Try.prog X cl 64 [a0,a1,a2] s Try.f64=finA Try.prog Try.f64 (K64 cl ⟨64,none,Try.f64.ntmps,X 64⟩ (paramsEnv 0 [a0,a1,a2] .nil) [] s) :=
  enterA_eq (b:=Try.f64.body.getD .skip) (by kernel_rfl) (by kernel_rfl) (by kernel_rfl) (by kernel_rfl) (by kernel_rfl)
def K50r0:OpsF:=(oVal (.tmp 3) (kBox (tag 28) (.tmp 0)) (oVal (.tmp 5) (kBox (tag 3) (.tmp 2)) (oVal (.tmp 6) (kAlloc [(.int .i64 0)] (tag 3)) (oVal (.tmp 7) (kAlloc [(.bool false)] (tag 4)) oNil))))
def K50r1:OpsF:=(oVal (.tmp 10) (kLoad (some 2) (.tmp 3)) (oVal (.tmp 11) (kMove (.tmp 1)) (oCall (.tmp 12) (.con (.func 42 [] [])) [(.tmp 10),(.tmp 11)] oNil)))
def K50r2:OpsF:=(oVal .none (kStore 1 (.tmp 6) (.con (.int .i64 0))) (oVal .none (kStore 1 (.tmp 7) (.con (.bool false))) oNil))
theorem res50:Try.f50.results.toList=[.cell 6 3,.cell 7 4]:=by kernel_rfl
def K50:K:=(kSeq (kRegion K50r0 [3,5,6,7]) (kSeq (kSeq (kRegion K50r1 [12]) (kBlock 0 (kRange (.tmp 12) [13,14] (rangeAt Try.f50 0).1 (rangeAt Try.f50 0).2))) (kSeq (kRegion K50r2 []) kRet)))
theorem enter50 (cl:CallF) (a0 a1 a2:AV) (s:St):enterA Try.prog X cl 50 [a0,a1,a2] s Try.f50=finA Try.prog Try.f50 (K50 cl ⟨50,none,Try.f50.ntmps,X 50⟩ (paramsEnv 0 [a0,a1,a2] .nil) [] s) :=
  enterA_eq (b:=Try.f50.body.getD .skip) (by kernel_rfl) (by kernel_rfl) (by kernel_rfl) (by kernel_rfl) (by kernel_rfl)
def K50a0r0:OpsF:=(oVal (.tmp 8) (kMove (.tmp 13)) oNil)
def K50a0r1:OpsF:=(oVal (.tmp 9) (kMove (.tmp 14)) oNil)
def K50a0:K:=(kSeq (kRegion K50a0r0 [8]) (kRegion K50a0r1 [9]))
theorem code50a0:codeK Try.prog (X 50) Try.f50.ntmps (rangeAt Try.f50 0).1=some K50a0:=by kernel_rfl
def K50b0r0:OpsF:=(oVal (.tmp 15) (kMove (.tmp 8)) (oVal (.tmp 16) (kLoad none (.tmp 5)) (oVal (.tmp 17) (kInt aEql (.tmp 15) (.tmp 16)) oNil)))
def K50b0r1:OpsF:=(oVal (.tmp 18) (kMove (.tmp 9)) (oVal .none (kStore 1 (.tmp 6) (.tmp 18)) (oVal .none (kStore 1 (.tmp 7) (.con (.bool true))) oNil)))
def K50b0:K:=(kBlock 1 (kSeq (kRegion K50b0r0 [17]) (kCond (.tmp 17) (kSeq (kRegion K50b0r1 []) kRet) kSkip)))
theorem code50b0:codeK Try.prog (X 50) Try.f50.ntmps (rangeAt Try.f50 0).2=some K50b0:=by kernel_rfl
def K42r0:OpsF:=(oVal (.tmp 2) (kBox (tag 28) (.tmp 0)) (oVal (.tmp 3) (kBox (tag 3) (.tmp 1)) (oVal (.tmp 4) (kMove (.con .nilfunc)) oNil)))
def K42r1:OpsF:=(oVal (.tmp 5) (kFunc 56 [] [(.tmp 2),(.tmp 3)]) (oVal (.tmp 4) (kMove (.tmp 5)) oNil))
theorem res42:Try.f42.results.toList=[.tmp 4]:=by kernel_rfl
def K42:K:=(kSeq (kRegion K42r0 [2,3,4]) (kSeq (kRegion K42r1 [4]) kRet))
theorem enter42 (cl:CallF) (a0 a1:AV) (s:St):enterA Try.prog X cl 42 [a0,a1] s Try.f42=finA Try.prog Try.f42 (K42 cl ⟨42,none,Try.f42.ntmps,X 42⟩ (paramsEnv 0 [a0,a1] .nil) [] s) :=
  enterA_eq (b:=Try.f42.body.getD .skip) (by kernel_rfl) (by kernel_rfl) (by kernel_rfl) (by kernel_rfl) (by kernel_rfl)
def K56r0:OpsF:=(oVal (.tmp 3) (kBox (tag 95) (.tmp 0)) oNil)
def K56r1:OpsF:=(oVal (.tmp 7) (kUn (fadA 1) (.tmp 1)) (oVal (.tmp 8) (kLoad none (.tmp 7)) (oVal (.tmp 9) (kLoad none (.tmp 2)) (oVal (.tmp 10) (kTwo (ixsA 4) (.tmp 8) (.tmp 9)) (oVal (.tmp 11) (kLoad (some 4) (.tmp 10)) (oCall (.tmp 12) (.con (.func 57 [] [])) [(.tmp 11)] oNil))))))
theorem res56:Try.f56.results.toList=[]:=by kernel_rfl
def K56:K:=(kSeq (kRegion K56r0 [3]) (kSeq (kRegion K56r1 [12]) (kBlock 0 (kRange (.tmp 12) [13,14] (rangeAt Try.f56 0).1 (rangeAt Try.f56 0).2))))
theorem enter56 (cl:CallF) (a0 a1 a2:AV) (s:St):enterA Try.prog X cl 56 [a0,a1,a2] s Try.f56=finA Try.prog Try.f56 (K56 cl ⟨56,none,Try.f56.ntmps,X 56⟩ (paramsEnv 0 [a0,a1,a2] .nil) [] s) :=
  enterA_eq (b:=Try.f56.body.getD .skip) (by kernel_rfl) (by kernel_rfl) (by kernel_rfl) (by kernel_rfl) (by kernel_rfl)
def K56a0r0:OpsF:=(oVal (.tmp 4) (kMove (.tmp 13)) oNil)
def K56a0r1:OpsF:=(oVal (.tmp 5) (kMove (.tmp 14)) oNil)
def K56a0:K:=(kSeq (kRegion K56a0r0 [4]) (kRegion K56a0r1 [5]))
theorem code56a0:codeK Try.prog (X 56) Try.f56.ntmps (rangeAt Try.f56 0).1=some K56a0:=by kernel_rfl
def K56b0r0:OpsF:=(oVal (.tmp 15) (kUn (fadA 0) (.tmp 1)) (oVal (.tmp 16) (kLoad none (.tmp 15)) (oVal (.tmp 17) (kMove (.tmp 4)) (oVal (.tmp 18) (kTwo (ixsA 3) (.tmp 16) (.tmp 17)) (oVal (.tmp 19) (kLoad (some 3) (.tmp 18)) (oVal (.tmp 6) (kAlloc [(.int .i64 0),(.int .i64 0),(.int .i64 0)] (tag 53)) (oVal .none (kStore 3 (.tmp 6) (.tmp 19)) oNil)))))))
def K56b0r1s8:OpsF:=(oVal (.tmp 28) (kPick (.tmp 23) (.tmp 27) (.con (.bool false))) oNil)
def K56b0r1s7:OpsF:=(oIf 23 true (oVal (.tmp 27) (kInt aLss (.tmp 24) (.tmp 26)) K56b0r1s8) (oSkip (.tmp 27) K56b0r1s8))
def K56b0r1s6:OpsF:=(oIf 23 true (oVal (.tmp 26) (kLoad none (.tmp 25)) K56b0r1s7) (oSkip (.tmp 26) K56b0r1s7))
def K56b0r1s5:OpsF:=(oIf 23 true (oVal (.tmp 25) (kUn (fadA 1) (.tmp 6)) K56b0r1s6) (oSkip (.tmp 25) K56b0r1s6))
def K56b0r1:OpsF:=(oVal (.tmp 20) (kUn (fadA 0) (.tmp 6)) (oVal (.tmp 21) (kLoad none (.tmp 20)) (oVal (.tmp 22) (kInt aEql (.tmp 21) (.con (.int .i64 3))) (oVal (.tmp 23) (kMove (.tmp 22)) (oIf 23 true (oVal (.tmp 24) (kMove (.tmp 5)) K56b0r1s5) (oSkip (.tmp 24) K56b0r1s5))))))
def K56b0r2:OpsF:=(oVal (.tmp 29) (kLoad none (.tmp 3)) (oVal (.tmp 30) (kMove (.tmp 4)) (oVal (.tmp 31) (kMove (.tmp 5)) (oCall (.tmp 32) (.tmp 29) [(.tmp 30),(.tmp 31)] (oVal (.tmp 33) (kUn notA (.tmp 32)) oNil)))))
def K56b0:K:=(kBlock 1 (kSeq (kRegion K56b0r0 [6]) (kSeq (kSeq (kRegion K56b0r1 [28]) (kCond (.tmp 28) (kExit 1) kSkip)) (kSeq (kRegion K56b0r2 [33]) (kCond (.tmp 33) kRet kSkip)))))
theorem code56b0:codeK Try.prog (X 56) Try.f56.ntmps (rangeAt Try.f56 0).2=some K56b0:=by kernel_rfl
def K57r0:OpsF:=(oVal (.tmp 1) (kBox (tag 37) (.tmp 0)) (oVal (.tmp 2) (kMove (.con .nilfunc)) oNil))
def K57r1:OpsF:=(oVal (.tmp 3) (kFunc 71 [] [(.tmp 1)]) (oVal (.tmp 2) (kMove (.tmp 3)) oNil))
theorem res57:Try.f57.results.toList=[.tmp 2]:=by kernel_rfl
def K57:K:=(kSeq (kRegion K57r0 [1,2]) (kSeq (kRegion K57r1 [2]) kRet))
theorem enter57 (cl:CallF) (a0:AV) (s:St):enterA Try.prog X cl 57 [a0] s Try.f57=finA Try.prog Try.f57 (K57 cl ⟨57,none,Try.f57.ntmps,X 57⟩ (paramsEnv 0 [a0] .nil) [] s) :=
  enterA_eq (b:=Try.f57.body.getD .skip) (by kernel_rfl) (by kernel_rfl) (by kernel_rfl) (by kernel_rfl) (by kernel_rfl)
def K71r0:OpsF:=(oVal (.tmp 5) (kUn (fadA 2) (.tmp 1)) (oVal (.tmp 6) (kLoad none (.tmp 5)) (oVal (.tmp 7) (kUn lenSlA (.tmp 6)) (oVal (.tmp 8) (kMove (.con (.int .i64 0))) oNil))))
def K71r1:OpsF:=(oVal (.tmp 9) (kInt aLss (.tmp 8) (.tmp 7)) oNil)
def K71r2:OpsF:=(oVal (.tmp 10) (kMove (.tmp 8)) (oVal (.tmp 11) (kTwo (ixsA 1) (.tmp 6) (.tmp 8)) (oVal (.tmp 12) (kLoad none (.tmp 11)) (oVal (.tmp 3) (kMove (.tmp 10)) (oVal (.tmp 4) (kMove (.tmp 12)) oNil)))))
def K71r3:OpsF:=(oVal (.tmp 13) (kMove (.tmp 0)) (oVal (.tmp 14) (kMove (.tmp 4)) (oVal (.tmp 15) (kUn (fadA 3) (.tmp 1)) (oVal (.tmp 16) (kLoad none (.tmp 15)) (oVal (.tmp 17) (kMove (.tmp 3)) (oVal (.tmp 18) (kTwo (ixsA 1) (.tmp 16) (.tmp 17)) (oVal (.tmp 19) (kLoad none (.tmp 18)) (oCall (.tmp 20) (.tmp 13) [(.tmp 14),(.tmp 19)] (oVal (.tmp 21) (kUn notA (.tmp 20)) oNil)))))))))
def K71r4:OpsF:=(oVal (.tmp 22) (kInt aAdd (.tmp 8) (.con (.int .i64 1))) (oVal (.tmp 8) (kMove (.tmp 22)) oNil))
def K71l0:K:=(kSeq (kRegion K71r1 [9]) (kSeq (kCond (.tmp 9) kSkip (kExit 0)) (kSeq (kBlock 1 (kSeq (kRegion K71r2 [3,4]) (kSeq (kRegion K71r3 [21]) (kCond (.tmp 21) kRet kSkip)))) (kRegion K71r4 [8]))))
theorem res71:Try.f71.results.toList=[]:=by kernel_rfl
def K71:K:=(kSeq (kRegion K71r0 [6,7,8]) (kBlock 0 (kLoop K71l0)))
theorem enter71 (cl:CallF) (a0 a1:AV) (s:St):enterA Try.prog X cl 71 [a0,a1] s Try.f71=finA Try.prog Try.f71 (K71 cl ⟨71,none,Try.f71.ntmps,X 71⟩ (paramsEnv 0 [a0,a1] .nil) [] s) :=
  enterA_eq (b:=Try.f71.body.getD .skip) (by kernel_rfl) (by kernel_rfl) (by kernel_rfl) (by kernel_rfl) (by kernel_rfl)
def K41r0:OpsF:=(oVal (.tmp 1) (kBox (tag 28) (.tmp 0)) (oVal (.tmp 2) (kMove (.con .nilslice)) oNil))
def K41r1:OpsF:=(oVal (.tmp 5) (kUn (fadA 1) (.tmp 1)) (oVal (.tmp 6) (kLoad none (.tmp 5)) (oVal (.tmp 7) (kUn lenSlA (.tmp 6)) (oVal (.tmp 8) (kMake [(.int .i64 0)] 8 (.tmp 7) (.tmp 7)) (oVal (.tmp 3) (kMove (.tmp 8)) oNil)))))
def K41r2:OpsF:=(oVal (.tmp 9) (kMove (.tmp 3)) (oVal (.tmp 10) (kUn lenSlA (.tmp 9)) (oVal (.tmp 11) (kMove (.con (.int .i64 0))) oNil)))
def K41r3:OpsF:=(oVal (.tmp 12) (kInt aLss (.tmp 11) (.tmp 10)) oNil)
def K41r4:OpsF:=(oVal (.tmp 13) (kMove (.tmp 11)) (oVal (.tmp 4) (kMove (.tmp 13)) oNil))
def K41r5:OpsF:=(oVal (.tmp 14) (kMove (.tmp 3)) (oVal (.tmp 15) (kMove (.tmp 4)) (oVal (.tmp 16) (kMove (.tmp 4)) (oVal (.tmp 17) (kTwo (ixsA 1) (.tmp 14) (.tmp 15)) (oVal .none (kStore 1 (.tmp 17) (.tmp 16)) oNil)))))
def K41r6:OpsF:=(oVal (.tmp 18) (kInt aAdd (.tmp 11) (.con (.int .i64 1))) (oVal (.tmp 11) (kMove (.tmp 18)) oNil))
def K41l0:K:=(kSeq (kRegion K41r3 [12]) (kSeq (kCond (.tmp 12) kSkip (kExit 0)) (kSeq (kBlock 1 (kSeq (kRegion K41r4 [4]) (kRegion K41r5 []))) (kRegion K41r6 [11]))))
def K41r7:OpsF:=(oVal (.tmp 19) (kMove (.tmp 3)) (oVal (.tmp 2) (kMove (.tmp 19)) oNil))
theorem res41:Try.f41.results.toList=[.tmp 2]:=by kernel_rfl
def K41:K:=(kSeq (kRegion K41r0 [1,2]) (kSeq (kRegion K41r1 [3]) (kSeq (kSeq (kRegion K41r2 [10,11]) (kBlock 0 (kLoop K41l0))) (kSeq (kRegion K41r7 [2]) kRet))))
theorem enter41 (cl:CallF) (a0:AV) (s:St):enterA Try.prog X cl 41 [a0] s Try.f41=finA Try.prog Try.f41 (K41 cl ⟨41,none,Try.f41.ntmps,X 41⟩ (paramsEnv 0 [a0] .nil) [] s) :=
  enterA_eq (b:=Try.f41.body.getD .skip) (by kernel_rfl) (by kernel_rfl) (by kernel_rfl) (by kernel_rfl) (by kernel_rfl)
def K54r0:OpsF:=(oVal (.tmp 2) (kMove (.con .nilmap)) oNil)
def K54r1:OpsF:=(oVal (.tmp 6) kMap (oVal (.tmp 3) (kMove (.tmp 6)) oNil))
def K54r2:OpsF:=(oVal (.tmp 7) (kMove (.tmp 0)) (oVal (.tmp 8) (kUn lenSlA (.tmp 7)) (oVal (.tmp 9) (kMove (.con (.int .i64 0))) oNil)))
def K54r3:OpsF:=(oVal (.tmp 10) (kInt aLss (.tmp 9) (.tmp 8)) oNil)
def K54r4:OpsF:=(oVal (.tmp 11) (kMove (.tmp 9)) (oVal (.tmp 12) (kTwo (ixsA 1) (.tmp 7) (.tmp 9)) (oVal (.tmp 13) (kLoad none (.tmp 12)) (oVal (.tmp 4) (kMove (.tmp 11)) (oVal (.tmp 5) (kMove (.tmp 13)) oNil)))))
def K54r5:OpsF:=(oVal (.tmp 14) (kMove (.tmp 3)) (oVal (.tmp 15) (kMove (.tmp 5)) (oVal (.tmp 16) (kMove (.tmp 4)) (oVal .none (kUpd .int (.tmp 14) (.tmp 15) (.tmp 16)) oNil))))
def K54r6:OpsF:=(oVal (.tmp 17) (kInt aAdd (.tmp 9) (.con (.int .i64 1))) (oVal (.tmp 9) (kMove (.tmp 17)) oNil))
def K54l0:K:=(kSeq (kRegion K54r3 [10]) (kSeq (kCond (.tmp 10) kSkip (kExit 0)) (kSeq (kBlock 1 (kSeq (kRegion K54r4 [4,5]) (kRegion K54r5 []))) (kRegion K54r6 [9]))))
def K54r7:OpsF:=(oVal (.tmp 18) (kMove (.tmp 3)) (oVal (.tmp 2) (kMove (.tmp 18)) oNil))
theorem res54:Try.f54.results.toList=[.tmp 2]:=by kernel_rfl
def K54:K:=(kSeq (kRegion K54r0 [2]) (kSeq (kRegion K54r1 [3]) (kSeq (kSeq (kRegion K54r2 [7,8,9]) (kBlock 0 (kLoop K54l0))) (kSeq (kRegion K54r7 [2]) kRet))))
theorem enter54 (cl:CallF) (a0:AV) (s:St):enterA Try.prog X cl 54 [a0] s Try.f54=finA Try.prog Try.f54 (K54 cl ⟨54,none,Try.f54.ntmps,X 54⟩ (paramsEnv 0 [a0] .nil) [] s) :=
  enterA_eq (b:=Try.f54.body.getD .skip) (by kernel_rfl) (by kernel_rfl) (by kernel_rfl) (by kernel_rfl) (by kernel_rfl)
end
end Go.Proofs.Ythbhjgbpjlnbcaa.code
set_option maxRecDepth 100000
namespace Go.Proofs.Ythbhjgbpjlnbcaa.code
open Go.Abs
noncomputable section
def K63r0:OpsF:=(oVal (.tmp 3) (kBox (tag 95) (.tmp 1)) (oVal (.tmp 4) (kMove (.con .nilslice)) oNil))
def K63r1:OpsF:=(oVal (.tmp 5) (kMove (.tmp 0)) (oCall (.tmp 6) (.con (.func 86 [] [])) [(.tmp 5)] (oVal (.tmp 7) (kFunc 87 [] [(.tmp 3)]) (oCall (.tmp 8) (.con (.func 85 [] [])) [(.tmp 6),(.tmp 7)] (oVal (.tmp 4) (kMove (.tmp 8)) oNil)))))
theorem res63:Try.f63.results.toList=[.tmp 4]:=by kernel_rfl
def K63:K:=(kSeq (kRegion K63r0 [3,4]) (kSeq (kRegion K63r1 [4]) kRet))
theorem enter63 (cl:CallF) (a0 a1:AV) (s:St):enterA Try.prog X cl 63 [a0,a1] s Try.f63=finA Try.prog Try.f63 (K63 cl ⟨63,none,Try.f63.ntmps,X 63⟩ (paramsEnv 0 [a0,a1] .nil) [] s) :=
  enterA_eq (b:=Try.f63.body.getD .skip) (by kernel_rfl) (by kernel_rfl) (by kernel_rfl) (by kernel_rfl) (by kernel_rfl)
def K87r0:OpsF:=(oVal (.tmp 5) (kMove (.con (.int .i64 0))) oNil)
def K87r1:OpsF:=(oVal (.tmp 7) (kLoad none (.tmp 2)) (oVal (.tmp 8) (kMove (.tmp 0)) (oVal (.tmp 9) (kMove (.tmp 1)) (oCall (.tmp 10) (.tmp 7) [(.tmp 8),(.tmp 9)] (oVal (.tmp 6) (kMove (.tmp 10)) oNil)))))
def K87r2:OpsF:=(oVal (.tmp 5) (kMove (.con (.int .i64 (-1)))) oNil)
def K87r3:OpsF:=(oVal (.tmp 12) (kLoad none (.tmp 2)) (oVal (.tmp 13) (kMove (.tmp 1)) (oVal (.tmp 14) (kMove (.tmp 0)) (oCall (.tmp 15) (.tmp 12) [(.tmp 13),(.tmp 14)] (oVal (.tmp 11) (kMove (.tmp 15)) oNil)))))
def K87r4:OpsF:=(oVal (.tmp 5) (kMove (.con (.int .i64 1))) oNil)
def K87r5:OpsF:=(oVal (.tmp 5) (kMove (.con (.int .i64 0))) oNil)
theorem res87:Try.f87.results.toList=[.tmp 5]:=by kernel_rfl
def K87:K:=(kSeq (kRegion K87r0 [5]) (kSeq (kBlock 0 (kSeq (kRegion K87r1 [6]) (kCond (.tmp 6) (kSeq (kRegion K87r2 [5]) kRet) (kSeq (kRegion K87r3 [11]) (kCond (.tmp 11) (kSeq (kRegion K87r4 [5]) kRet) kSkip))))) (kSeq (kRegion K87r5 [5]) kRet)))
theorem enter87 (cl:CallF) (a0 a1 a2:AV) (s:St):enterA Try.prog X cl 87 [a0,a1,a2] s Try.f87=finA Try.prog Try.f87 (K87 cl ⟨87,none,Try.f87.ntmps,X 87⟩ (paramsEnv 0 [a0,a1,a2] .nil) [] s) :=
  enterA_eq (b:=Try.f87.body.getD .skip) (by kernel_rfl) (by kernel_rfl) (by kernel_rfl) (by kernel_rfl) (by kernel_rfl)
def K85r0:OpsF:=(oVal (.tmp 4) (kMove (.con .nilslice)) oNil)
def K85r1:OpsF:=(oVal (.tmp 6) (kMove (.tmp 0)) (oCall (.tmp 7) (.con (.func 94 [] [])) [(.tmp 6)] (oVal (.tmp 5) (kMove (.tmp 7)) oNil)))
def K85r2:OpsF:=(oVal (.tmp 8) (kMove (.tmp 5)) (oVal (.tmp 9) (kMove (.tmp 1)) (oCall (.tmp 10) (.con (.func 95 [] [])) [(.tmp 8),(.tmp 9)] oNil)))
def K85r3:OpsF:=(oVal (.tmp 11) (kMove (.tmp 5)) (oVal (.tmp 4) (kMove (.tmp 11)) oNil))
theorem res85:Try.f85.results.toList=[.tmp 4]:=by kernel_rfl
def K85:K:=(kSeq (kRegion K85r0 [4]) (kSeq (kRegion K85r1 [5]) (kSeq (kRegion K85r2 []) (kSeq (kRegion K85r3 [4]) kRet))))
theorem enter85 (cl:CallF) (a0 a1:AV) (s:St):enterA Try.prog X cl 85 [a0,a1] s Try.f85=finA Try.prog Try.f85 (K85 cl ⟨85,none,Try.f85.ntmps,X 85⟩ (paramsEnv 0 [a0,a1] .nil) [] s) :=
  enterA_eq (b:=Try.f85.body.getD .skip) (by kernel_rfl) (by kernel_rfl) (by kernel_rfl) (by kernel_rfl) (by kernel_rfl)
def K86r0:OpsF:=(oVal (.tmp 1) (kBox (tag 22) (.tmp 0)) (oVal (.tmp 2) (kMove (.con .nilfunc)) oNil))
def K86r1:OpsF:=(oVal (.tmp 3) (kFunc 96 [] [(.tmp 1)]) (oVal (.tmp 2) (kMove (.tmp 3)) oNil))
theorem res86:Try.f86.results.toList=[.tmp 2]:=by kernel_rfl
def K86:K:=(kSeq (kRegion K86r0 [1,2]) (kSeq (kRegion K86r1 [2]) kRet))
theorem enter86 (cl:CallF) (a0:AV) (s:St):enterA Try.prog X cl 86 [a0] s Try.f86=finA Try.prog Try.f86 (K86 cl ⟨86,none,Try.f86.ntmps,X 86⟩ (paramsEnv 0 [a0] .nil) [] s) :=
  enterA_eq (b:=Try.f86.body.getD .skip) (by kernel_rfl) (by kernel_rfl) (by kernel_rfl) (by kernel_rfl) (by kernel_rfl)
def K96r0:OpsF:=(oVal (.tmp 5) (kLoad none (.tmp 1)) (oVal (.tmp 6) (kUn lenSlA (.tmp 5)) (oVal (.tmp 7) (kMove (.con (.int .i64 0))) oNil)))
def K96r1:OpsF:=(oVal (.tmp 8) (kInt aLss (.tmp 7) (.tmp 6)) oNil)
def K96r2:OpsF:=(oVal (.tmp 9) (kTwo (ixsA 1) (.tmp 5) (.tmp 7)) (oVal (.tmp 10) (kLoad none (.tmp 9)) (oVal (.tmp 4) (kMove (.tmp 10)) oNil)))
def K96r3:OpsF:=(oVal (.tmp 11) (kMove (.tmp 0)) (oVal (.tmp 12) (kMove (.tmp 4)) (oCall (.tmp 13) (.tmp 11) [(.tmp 12)] (oVal (.tmp 14) (kUn notA (.tmp 13)) oNil))))
def K96r4:OpsF:=(oVal (.tmp 15) (kInt aAdd (.tmp 7) (.con (.int .i64 1))) (oVal (.tmp 7) (kMove (.tmp 15)) oNil))
def K96l0:K:=(kSeq (kRegion K96r1 [8]) (kSeq (kCond (.tmp 8) kSkip (kExit 0)) (kSeq (kBlock 1 (kSeq (kRegion K96r2 [4]) (kSeq (kRegion K96r3 [14]) (kCond (.tmp 14) kRet kSkip)))) (kRegion K96r4 [7]))))
theorem res96:Try.f96.results.toList=[]:=by kernel_rfl
def K96:K:=(kSeq (kRegion K96r0 [5,6,7]) (kBlock 0 (kLoop K96l0)))
theorem enter96 (cl:CallF) (a0 a1:AV) (s:St):enterA Try.prog X cl 96 [a0,a1] s Try.f96=finA Try.prog Try.f96 (K96 cl ⟨96,none,Try.f96.ntmps,X 96⟩ (paramsEnv 0 [a0,a1] .nil) [] s) :=
  enterA_eq (b:=Try.f96.body.getD .skip) (by kernel_rfl) (by kernel_rfl) (by kernel_rfl) (by kernel_rfl) (by kernel_rfl)
def K94r0:OpsF:=(oVal (.tmp 2) (kMove (.con .nilslice)) oNil)
def K94r1:OpsF:=(oVal (.tmp 3) (kMove (.tmp 0)) (oCall (.tmp 4) (.con (.func 98 [] [])) [(.con .nilslice),(.tmp 3)] (oVal (.tmp 2) (kMove (.tmp 4)) oNil)))
theorem res94:Try.f94.results.toList=[.tmp 2]:=by kernel_rfl
def K94:K:=(kSeq (kRegion K94r0 [2]) (kSeq (kRegion K94r1 [2]) kRet))
theorem enter94 (cl:CallF) (a0:AV) (s:St):enterA Try.prog X cl 94 [a0] s Try.f94=finA Try.prog Try.f94 (K94 cl ⟨94,none,Try.f94.ntmps,X 94⟩ (paramsEnv 0 [a0] .nil) [] s) :=
  enterA_eq (b:=Try.f94.body.getD .skip) (by kernel_rfl) (by kernel_rfl) (by kernel_rfl) (by kernel_rfl) (by kernel_rfl)
def K98r0:OpsF:=(oVal (.tmp 2) (kBox (tag 22) (.tmp 0)) (oVal (.tmp 4) (kMove (.con .nilslice)) oNil))
def K98r1:OpsF:=(oVal (.tmp 6) (kMove (.tmp 1)) oNil)
def K98r2:OpsF:=(oVal (.tmp 12) (kLoad none (.tmp 2)) (oVal (.tmp 4) (kMove (.tmp 12)) oNil))
theorem res98:Try.f98.results.toList=[.tmp 4]:=by kernel_rfl
def K98:K:=(kSeq (kRegion K98r0 [2,4]) (kSeq (kSeq (kRegion K98r1 [6]) (kBlock 0 (kRange (.tmp 6) [7] (rangeAt Try.f98 0).1 (rangeAt Try.f98 0).2))) (kSeq (kRegion K98r2 [4]) kRet)))
theorem enter98 (cl:CallF) (a0 a1:AV) (s:St):enterA Try.prog X cl 98 [a0,a1] s Try.f98=finA Try.prog Try.f98 (K98 cl ⟨98,none,Try.f98.ntmps,X 98⟩ (paramsEnv 0 [a0,a1] .nil) [] s) :=
  enterA_eq (b:=Try.f98.body.getD .skip) (by kernel_rfl) (by kernel_rfl) (by kernel_rfl) (by kernel_rfl) (by kernel_rfl)
def K98a0r0:OpsF:=(oVal (.tmp 5) (kMove (.tmp 7)) oNil)
def K98a0:K:=(kRegion K98a0r0 [5])
theorem code98a0:codeK Try.prog (X 98) Try.f98.ntmps (rangeAt Try.f98 0).1=some K98a0:=by kernel_rfl
def K98b0r0:OpsF:=(oVal (.tmp 8) (kLoad none (.tmp 2)) (oVal (.tmp 9) (kMove (.tmp 5)) (oVal (.tmp 10) (kBuildSlice [(.int .i64 0)] 1 [(0,1,(.tmp 9))]) (oVal (.tmp 11) (kTwo (appendA false 1 8 (tag 3)) (.tmp 8) (.tmp 10)) (oVal .none (kStore 1 (.tmp 2) (.tmp 11)) oNil)))))
def K98b0:K:=(kBlock 1 (kRegion K98b0r0 []))
theorem code98b0:codeK Try.prog (X 98) Try.f98.ntmps (rangeAt Try.f98 0).2=some K98b0:=by kernel_rfl
def K95r0:OpsF:=(oVal (.tmp 5) (kMove (.tmp 0)) (oVal (.tmp 6) (kUn lenSlA (.tmp 5)) (oVal (.tmp 4) (kMove (.tmp 6)) oNil)))
def K95r1:OpsF:=(oVal (.tmp 7) (kMove (.tmp 0)) (oVal (.tmp 8) (kMove (.tmp 4)) (oVal (.tmp 9) (kMove (.tmp 4)) (oVal (.tmp 10) (kUn (cviA .u64) (.tmp 9)) (oCall (.tmp 11) (.con (.func 59 [] [])) [(.tmp 10)] (oVal (.tmp 12) (kMove (.tmp 1)) (oCall (.tmp 13) (.con (.func 99 [] [])) [(.tmp 7),(.con (.int .i64 0)),(.tmp 8),(.tmp 11),(.tmp 12)] oNil)))))))
theorem res95:Try.f95.results.toList=[]:=by kernel_rfl
def K95:K:=(kSeq (kRegion K95r0 [4]) (kRegion K95r1 []))
theorem enter95 (cl:CallF) (a0 a1:AV) (s:St):enterA Try.prog X cl 95 [a0,a1] s Try.f95=finA Try.prog Try.f95 (K95 cl ⟨95,none,Try.f95.ntmps,X 95⟩ (paramsEnv 0 [a0,a1] .nil) [] s) :=
  enterA_eq (b:=Try.f95.body.getD .skip) (by kernel_rfl) (by kernel_rfl) (by kernel_rfl) (by kernel_rfl) (by kernel_rfl)
def K99r0:OpsF:=(oVal (.tmp 10) (kMove (.con (.bool true))) oNil)
def K99r1:OpsF:=(oVal (.tmp 11) (kMove (.con (.bool true))) oNil)
def K99r2:OpsF:=(oVal (.tmp 21) (kMove (.tmp 2)) (oVal (.tmp 22) (kMove (.tmp 1)) (oVal (.tmp 23) (kInt aSub (.tmp 21) (.tmp 22)) (oVal (.tmp 12) (kMove (.tmp 23)) oNil))))
def K99r3:OpsF:=(oVal (.tmp 24) (kMove (.tmp 12)) (oVal (.tmp 25) (kInt aLeq (.tmp 24) (.con (.int .i64 12))) oNil))
def K99r4:OpsF:=(oVal (.tmp 26) (kMove (.tmp 0)) (oVal (.tmp 27) (kMove (.tmp 1)) (oVal (.tmp 28) (kMove (.tmp 2)) (oVal (.tmp 29) (kMove (.tmp 4)) (oCall (.tmp 30) (.con (.func 100 [] [])) [(.tmp 26),(.tmp 27),(.tmp 28),(.tmp 29)] oNil)))))
def K99r5:OpsF:=(oVal (.tmp 31) (kMove (.tmp 3)) (oVal (.tmp 32) (kInt aEql (.tmp 31) (.con (.int .i64 0))) oNil))
def K99r6:OpsF:=(oVal (.tmp 33) (kMove (.tmp 0)) (oVal (.tmp 34) (kMove (.tmp 1)) (oVal (.tmp 35) (kMove (.tmp 2)) (oVal (.tmp 36) (kMove (.tmp 4)) (oCall (.tmp 37) (.con (.func 101 [] [])) [(.tmp 33),(.tmp 34),(.tmp 35),(.tmp 36)] oNil)))))
def K99r7:OpsF:=(oVal (.tmp 38) (kMove (.tmp 10)) (oVal (.tmp 39) (kUn notA (.tmp 38)) oNil))
def K99r8:OpsF:=(oVal (.tmp 40) (kMove (.tmp 0)) (oVal (.tmp 41) (kMove (.tmp 1)) (oVal (.tmp 42) (kMove (.tmp 2)) (oVal (.tmp 43) (kMove (.tmp 4)) (oCall (.tmp 44) (.con (.func 102 [] [])) [(.tmp 40),(.tmp 41),(.tmp 42),(.tmp 43)] oNil)))))
def K99r9:OpsF:=(oVal (.tmp 45) (kMove (.tmp 3)) (oVal (.tmp 46) (kInt aSub (.tmp 45) (.con (.int .i64 1))) (oVal (.tmp 3) (kMove (.tmp 46)) oNil)))
def K99r10:OpsF:=(oVal (.tmp 48) (kMove (.tmp 0)) (oVal (.tmp 49) (kMove (.tmp 1)) (oVal (.tmp 50) (kMove (.tmp 2)) (oVal (.tmp 51) (kMove (.tmp 4)) (oCall (.tmp 52) (.con (.func 103 [] [])) [(.tmp 48),(.tmp 49),(.tmp 50),(.tmp 51)] (oVal (.tmp 47) (kMove (.tmp 52)) (oVal (.tmp 53) (kUn (extA 0) (.tmp 47)) (oVal (.tmp 54) (kUn (extA 1) (.tmp 47)) (oVal (.tmp 13) (kMove (.tmp 53)) (oVal (.tmp 14) (kMove (.tmp 54)) oNil))))))))))
def K99r11:OpsF:=(oVal (.tmp 55) (kMove (.tmp 14)) (oVal (.tmp 56) (kInt aEql (.tmp 55) (.con (.int .i64 2))) oNil))
def K99r12:OpsF:=(oVal (.tmp 57) (kMove (.tmp 0)) (oVal (.tmp 58) (kMove (.tmp 1)) (oVal (.tmp 59) (kMove (.tmp 2)) (oVal (.tmp 60) (kMove (.tmp 4)) (oCall (.tmp 61) (.con (.func 104 [] [])) [(.tmp 57),(.tmp 58),(.tmp 59),(.tmp 60)] oNil)))))
def K99r13:OpsF:=(oVal (.tmp 62) (kMove (.tmp 2)) (oVal (.tmp 63) (kInt aSub (.tmp 62) (.con (.int .i64 1))) (oVal (.tmp 64) (kMove (.tmp 13)) (oVal (.tmp 65) (kMove (.tmp 1)) (oVal (.tmp 66) (kInt aSub (.tmp 64) (.tmp 65)) (oVal (.tmp 67) (kInt aSub (.tmp 63) (.tmp 66)) (oVal (.tmp 13) (kMove (.tmp 67)) oNil)))))))
def K99r14:OpsF:=(oVal (.tmp 14) (kMove (.con (.int .i64 1))) oNil)
def K99r15s7:OpsF:=(oVal (.tmp 75) (kPick (.tmp 72) (.tmp 74) (.con (.bool false))) oNil)
def K99r15s6:OpsF:=(oIf 72 true (oVal (.tmp 74) (kInt aEql (.tmp 73) (.con (.int .i64 1))) K99r15s7) (oSkip (.tmp 74) K99r15s7))
def K99r15s3:OpsF:=(oVal (.tmp 71) (kPick (.tmp 69) (.tmp 70) (.con (.bool false))) (oVal (.tmp 72) (kMove (.tmp 71)) (oIf 72 true (oVal (.tmp 73) (kMove (.tmp 14)) K99r15s6) (oSkip (.tmp 73) K99r15s6))))
def K99r15:OpsF:=(oVal (.tmp 68) (kMove (.tmp 10)) (oVal (.tmp 69) (kMove (.tmp 68)) (oIf 69 true (oVal (.tmp 70) (kMove (.tmp 11)) K99r15s3) (oSkip (.tmp 70) K99r15s3))))
def K99r16:OpsF:=(oVal (.tmp 76) (kMove (.tmp 0)) (oVal (.tmp 77) (kMove (.tmp 1)) (oVal (.tmp 78) (kMove (.tmp 2)) (oVal (.tmp 79) (kMove (.tmp 4)) (oCall (.tmp 80) (.con (.func 105 [] [])) [(.tmp 76),(.tmp 77),(.tmp 78),(.tmp 79)] oNil)))))
def K99r17s16:OpsF:=(oVal (.tmp 97) (kPick (.tmp 83) (.tmp 96) (.con (.bool false))) oNil)
def K99r17s15:OpsF:=(oIf 83 true (oVal (.tmp 96) (kUn notA (.tmp 95)) K99r17s16) (oSkip (.tmp 96) K99r17s16))
def K99r17s14:OpsF:=(oIf 83 true (oVal (.tmp 95) (kInt aLss (.tmp 94) (.con (.int .i64 0))) K99r17s15) (oSkip (.tmp 95) K99r17s15))
def K99r17s13:OpsF:=(oIf 83 true (oCall (.tmp 94) (.tmp 84) [(.tmp 89),(.tmp 93)] K99r17s14) (oSkip (.tmp 94) K99r17s14))
def K99r17s12:OpsF:=(oIf 83 true (oVal (.tmp 93) (kLoad none (.tmp 92)) K99r17s13) (oSkip (.tmp 93) K99r17s13))
def K99r17s11:OpsF:=(oIf 83 true (oVal (.tmp 92) (kTwo (ixsA 1) (.tmp 90) (.tmp 91)) K99r17s12) (oSkip (.tmp 92) K99r17s12))
def K99r17s10:OpsF:=(oIf 83 true (oVal (.tmp 91) (kMove (.tmp 13)) K99r17s11) (oSkip (.tmp 91) K99r17s11))
def K99r17s9:OpsF:=(oIf 83 true (oVal (.tmp 90) (kMove (.tmp 0)) K99r17s10) (oSkip (.tmp 90) K99r17s10))
def K99r17s8:OpsF:=(oIf 83 true (oVal (.tmp 89) (kLoad none (.tmp 88)) K99r17s9) (oSkip (.tmp 89) K99r17s9))
def K99r17s7:OpsF:=(oIf 83 true (oVal (.tmp 88) (kTwo (ixsA 1) (.tmp 85) (.tmp 87)) K99r17s8) (oSkip (.tmp 88) K99r17s8))
def K99r17s6:OpsF:=(oIf 83 true (oVal (.tmp 87) (kInt aSub (.tmp 86) (.con (.int .i64 1))) K99r17s7) (oSkip (.tmp 87) K99r17s7))
def K99r17s5:OpsF:=(oIf 83 true (oVal (.tmp 86) (kMove (.tmp 1)) K99r17s6) (oSkip (.tmp 86) K99r17s6))
def K99r17s4:OpsF:=(oIf 83 true (oVal (.tmp 85) (kMove (.tmp 0)) K99r17s5) (oSkip (.tmp 85) K99r17s5))
def K99r17:OpsF:=(oEnd [] (oVal (.tmp 81) (kMove (.tmp 1)) (oVal (.tmp 82) (kGtr (.tmp 81) (.con (.int .i64 0))) (oVal (.tmp 83) (kMove (.tmp 82)) (oIf 83 true (oVal (.tmp 84) (kMove (.tmp 4)) K99r17s4) (oSkip (.tmp 84) K99r17s4))))))
def K99r18:OpsF:=(oVal (.tmp 98) (kMove (.tmp 0)) (oVal (.tmp 99) (kMove (.tmp 1)) (oVal (.tmp 100) (kMove (.tmp 2)) (oVal (.tmp 101) (kMove (.tmp 13)) (oVal (.tmp 102) (kMove (.tmp 4)) (oCall (.tmp 103) (.con (.func 106 [] [])) [(.tmp 98),(.tmp 99),(.tmp 100),(.tmp 101),(.tmp 102)] (oVal (.tmp 15) (kMove (.tmp 103)) oNil)))))))
def K99r19:OpsF:=(oVal (.tmp 104) (kMove (.tmp 15)) (oVal (.tmp 1) (kMove (.tmp 104)) oNil))
def K99r20:OpsF:=(oVal (.tmp 106) (kMove (.tmp 0)) (oVal (.tmp 107) (kMove (.tmp 1)) (oVal (.tmp 108) (kMove (.tmp 2)) (oVal (.tmp 109) (kMove (.tmp 13)) (oVal (.tmp 110) (kMove (.tmp 4)) (oCall (.tmp 111) (.con (.func 107 [] [])) [(.tmp 106),(.tmp 107),(.tmp 108),(.tmp 109),(.tmp 110)] (oVal (.tmp 105) (kMove (.tmp 111)) (oVal (.tmp 112) (kUn (extA 0) (.tmp 105)) (oVal (.tmp 113) (kUn (extA 1) (.tmp 105)) (oVal (.tmp 16) (kMove (.tmp 112)) (oVal (.tmp 17) (kMove (.tmp 113)) oNil)))))))))))
def K99r21:OpsF:=(oVal (.tmp 114) (kMove (.tmp 17)) (oVal (.tmp 11) (kMove (.tmp 114)) oNil))
def K99r22:OpsF:=(oVal (.tmp 115) (kMove (.tmp 16)) (oVal (.tmp 116) (kMove (.tmp 1)) (oVal (.tmp 117) (kInt aSub (.tmp 115) (.tmp 116)) (oVal (.tmp 118) (kMove (.tmp 2)) (oVal (.tmp 119) (kMove (.tmp 16)) (oVal (.tmp 120) (kInt aSub (.tmp 118) (.tmp 119)) (oVal (.tmp 18) (kMove (.tmp 117)) (oVal (.tmp 19) (kMove (.tmp 120)) oNil))))))))
def K99r23:OpsF:=(oVal (.tmp 121) (kMove (.tmp 12)) (oVal (.tmp 122) (kInt aQuo (.tmp 121) (.con (.int .i64 8))) (oVal (.tmp 20) (kMove (.tmp 122)) oNil)))
def K99r24:OpsF:=(oVal (.tmp 123) (kMove (.tmp 18)) (oVal (.tmp 124) (kMove (.tmp 19)) (oVal (.tmp 125) (kInt aLss (.tmp 123) (.tmp 124)) oNil)))
def K99r25:OpsF:=(oVal (.tmp 126) (kMove (.tmp 18)) (oVal (.tmp 127) (kMove (.tmp 20)) (oVal (.tmp 128) (kInt aGeq (.tmp 126) (.tmp 127)) (oVal (.tmp 10) (kMove (.tmp 128)) oNil))))
def K99r26:OpsF:=(oVal (.tmp 129) (kMove (.tmp 0)) (oVal (.tmp 130) (kMove (.tmp 1)) (oVal (.tmp 131) (kMove (.tmp 16)) (oVal (.tmp 132) (kMove (.tmp 3)) (oVal (.tmp 133) (kMove (.tmp 4)) (oCall (.tmp 134) (.con (.func 99 [] [])) [(.tmp 129),(.tmp 130),(.tmp 131),(.tmp 132),(.tmp 133)] oNil))))))
def K99r27:OpsF:=(oVal (.tmp 135) (kMove (.tmp 16)) (oVal (.tmp 136) (kInt aAdd (.tmp 135) (.con (.int .i64 1))) (oVal (.tmp 1) (kMove (.tmp 136)) oNil)))
def K99r28:OpsF:=(oVal (.tmp 137) (kMove (.tmp 19)) (oVal (.tmp 138) (kMove (.tmp 20)) (oVal (.tmp 139) (kInt aGeq (.tmp 137) (.tmp 138)) (oVal (.tmp 10) (kMove (.tmp 139)) oNil))))
def K99r29:OpsF:=(oVal (.tmp 140) (kMove (.tmp 0)) (oVal (.tmp 141) (kMove (.tmp 16)) (oVal (.tmp 142) (kInt aAdd (.tmp 141) (.con (.int .i64 1))) (oVal (.tmp 143) (kMove (.tmp 2)) (oVal (.tmp 144) (kMove (.tmp 3)) (oVal (.tmp 145) (kMove (.tmp 4)) (oCall (.tmp 146) (.con (.func 99 [] [])) [(.tmp 140),(.tmp 142),(.tmp 143),(.tmp 144),(.tmp 145)] oNil)))))))
def K99r30:OpsF:=(oVal (.tmp 147) (kMove (.tmp 16)) (oVal (.tmp 2) (kMove (.tmp 147)) oNil))
def K99l0:K:=(kBlock 1 (kSeq (kRegion K99r2 [12]) (kSeq (kSeq (kRegion K99r3 [25]) (kCond (.tmp 25) (kSeq (kRegion K99r4 []) kRet) kSkip)) (kSeq (kSeq (kRegion K99r5 [32]) (kCond (.tmp 32) (kSeq (kRegion K99r6 []) kRet) kSkip)) (kSeq (kSeq (kRegion K99r7 [39]) (kCond (.tmp 39) (kSeq (kRegion K99r8 []) (kRegion K99r9 [3])) kSkip)) (kSeq (kRegion K99r10 [13,14]) (kSeq (kSeq (kRegion K99r11 [56]) (kCond (.tmp 56) (kSeq (kRegion K99r12 []) (kSeq (kRegion K99r13 [13]) (kRegion K99r14 [14]))) kSkip)) (kSeq (kSeq (kRegion K99r15 [75]) (kCond (.tmp 75) (kSeq (kRegion K99r16 [80]) (kCond (.tmp 80) kRet kSkip)) kSkip)) (kSeq (kSeq (kRegionD K99r17 [97]) (kCond (.tmp 97) (kSeq (kRegion K99r18 [15]) (kSeq (kRegion K99r19 [1]) (kExit 1))) kSkip)) (kSeq (kRegion K99r20 [16,17]) (kSeq (kRegion K99r21 [11]) (kSeq (kRegion K99r22 [18,19]) (kSeq (kRegion K99r23 [20]) (kSeq (kRegion K99r24 [125]) (kCond (.tmp 125) (kSeq (kRegion K99r25 [10]) (kSeq (kRegion K99r26 []) (kRegion K99r27 [1]))) (kSeq (kRegion K99r28 [10]) (kSeq (kRegion K99r29 []) (kRegion K99r30 [2]))))))))))))))))))
theorem res99:Try.f99.results.toList=[]:=by kernel_rfl
def K99:K:=(kSeq (kRegion K99r0 [10]) (kSeq (kRegion K99r1 [11]) (kBlock 0 (kLoop K99l0))))
theorem enter99 (cl:CallF) (a0 a1 a2 a3 a4:AV) (s:St):enterA Try.prog X cl 99 [a0,a1,a2,a3,a4] s Try.f99=finA Try.prog Try.f99 (K99 cl ⟨99,none,Try.f99.ntmps,X 99⟩ (paramsEnv 0 [a0,a1,a2,a3,a4] .nil) [] s) :=
  enterA_eq (b:=Try.f99.body.getD .skip) (by kernel_rfl) (by kernel_rfl) (by kernel_rfl) (by kernel_rfl) (by kernel_rfl)
def K100r0:OpsF:=(oVal (.tmp 10) (kMove (.tmp 1)) (oVal (.tmp 11) (kInt aAdd (.tmp 10) (.con (.int .i64 1))) (oVal (.tmp 8) (kMove (.tmp 11)) oNil)))
def K100r1:OpsF:=(oVal (.tmp 12) (kMove (.tmp 8)) (oVal (.tmp 13) (kMove (.tmp 2)) (oVal (.tmp 14) (kInt aLss (.tmp 12) (.tmp 13)) oNil)))
def K100r2:OpsF:=(oVal (.tmp 17) (kMove (.tmp 8)) (oVal (.tmp 9) (kMove (.tmp 17)) oNil))
def K100r3s16:OpsF:=(oVal (.tmp 34) (kPick (.tmp 21) (.tmp 33) (.con (.bool false))) oNil)
def K100r3s15:OpsF:=(oIf 21 true (oVal (.tmp 33) (kInt aLss (.tmp 32) (.con (.int .i64 0))) K100r3s16) (oSkip (.tmp 33) K100r3s16))
def K100r3s14:OpsF:=(oIf 21 true (oCall (.tmp 32) (.tmp 22) [(.tmp 26),(.tmp 31)] K100r3s15) (oSkip (.tmp 32) K100r3s15))
def K100r3s13:OpsF:=(oIf 21 true (oVal (.tmp 31) (kLoad none (.tmp 30)) K100r3s14) (oSkip (.tmp 31) K100r3s14))
def K100r3s12:OpsF:=(oIf 21 true (oVal (.tmp 30) (kTwo (ixsA 1) (.tmp 27) (.tmp 29)) K100r3s13) (oSkip (.tmp 30) K100r3s13))
def K100r3s11:OpsF:=(oIf 21 true (oVal (.tmp 29) (kInt aSub (.tmp 28) (.con (.int .i64 1))) K100r3s12) (oSkip (.tmp 29) K100r3s12))
def K100r3s10:OpsF:=(oIf 21 true (oVal (.tmp 28) (kMove (.tmp 9)) K100r3s11) (oSkip (.tmp 28) K100r3s11))
def K100r3s9:OpsF:=(oIf 21 true (oVal (.tmp 27) (kMove (.tmp 0)) K100r3s10) (oSkip (.tmp 27) K100r3s10))
def K100r3s8:OpsF:=(oIf 21 true (oVal (.tmp 26) (kLoad none (.tmp 25)) K100r3s9) (oSkip (.tmp 26) K100r3s9))
def K100r3s7:OpsF:=(oIf 21 true (oVal (.tmp 25) (kTwo (ixsA 1) (.tmp 23) (.tmp 24)) K100r3s8) (oSkip (.tmp 25) K100r3s8))
def K100r3s6:OpsF:=(oIf 21 true (oVal (.tmp 24) (kMove (.tmp 9)) K100r3s7) (oSkip (.tmp 24) K100r3s7))
def K100r3s5:OpsF:=(oIf 21 true (oVal (.tmp 23) (kMove (.tmp 0)) K100r3s6) (oSkip (.tmp 23) K100r3s6))
def K100r3:OpsF:=(oEnd [] (oVal (.tmp 18) (kMove (.tmp 9)) (oVal (.tmp 19) (kMove (.tmp 1)) (oVal (.tmp 20) (kGtr (.tmp 18) (.tmp 19)) (oVal (.tmp 21) (kMove (.tmp 20)) (oIf 21 true (oVal (.tmp 22) (kMove (.tmp 3)) K100r3s5) (oSkip (.tmp 22) K100r3s5)))))))
def K100r4:OpsF:=(oEnd [] (oVal (.tmp 37) (kMove (.tmp 0)) (oVal (.tmp 38) (kMove (.tmp 9)) (oVal (.tmp 39) (kMove (.tmp 0)) (oVal (.tmp 40) (kMove (.tmp 9)) (oVal (.tmp 41) (kInt aSub (.tmp 40) (.con (.int .i64 1))) (oVal (.tmp 42) (kMove (.tmp 0)) (oVal (.tmp 43) (kMove (.tmp 9)) (oVal (.tmp 44) (kInt aSub (.tmp 43) (.con (.int .i64 1))) (oVal (.tmp 45) (kTwo (ixsA 1) (.tmp 42) (.tmp 44)) (oVal (.tmp 46) (kLoad none (.tmp 45)) (oVal (.tmp 47) (kMove (.tmp 0)) (oVal (.tmp 48) (kMove (.tmp 9)) (oVal (.tmp 49) (kTwo (ixsA 1) (.tmp 47) (.tmp 48)) (oVal (.tmp 50) (kLoad none (.tmp 49)) (oVal (.tmp 51) (kTwo (ixsA 1) (.tmp 37) (.tmp 38)) (oVal .none (kStore 1 (.tmp 51) (.tmp 46)) (oVal (.tmp 52) (kTwo (ixsA 1) (.tmp 39) (.tmp 41)) (oVal .none (kStore 1 (.tmp 52) (.tmp 50)) oNil)))))))))))))))))))
def K100r5:OpsF:=(oVal (.tmp 35) (kMove (.tmp 9)) (oVal (.tmp 36) (kInt aSub (.tmp 35) (.con (.int .i64 1))) (oVal (.tmp 9) (kMove (.tmp 36)) oNil)))
def K100l0:K:=(kSeq (kSeq (kRegionD K100r3 [34]) (kCond (.tmp 34) kSkip (kExit 2))) (kSeq (kBlock 3 (kRegionD K100r4 [])) (kRegion K100r5 [9])))
def K100r6:OpsF:=(oVal (.tmp 15) (kMove (.tmp 8)) (oVal (.tmp 16) (kInt aAdd (.tmp 15) (.con (.int .i64 1))) (oVal (.tmp 8) (kMove (.tmp 16)) oNil)))
def K100l1:K:=(kSeq (kSeq (kRegion K100r1 [14]) (kCond (.tmp 14) kSkip (kExit 0))) (kSeq (kBlock 1 (kSeq (kRegion K100r2 [9]) (kBlock 2 (kLoop K100l0)))) (kRegion K100r6 [8])))
theorem res100:Try.f100.results.toList=[]:=by kernel_rfl
def K100:K:=(kSeq (kRegion K100r0 [8]) (kBlock 0 (kLoop K100l1)))
theorem enter100 (cl:CallF) (a0 a1 a2 a3:AV) (s:St):enterA Try.prog X cl 100 [a0,a1,a2,a3] s Try.f100=finA Try.prog Try.f100 (K100 cl ⟨100,none,Try.f100.ntmps,X 100⟩ (paramsEnv 0 [a0,a1,a2,a3] .nil) [] s) :=
  enterA_eq (b:=Try.f100.body.getD .skip) (by kernel_rfl) (by kernel_rfl) (by kernel_rfl) (by kernel_rfl) (by kernel_rfl)
def K61r0:OpsF:=(oVal (.tmp 4) (kMove (.con .nilslice)) oNil)
def K61r1:OpsF:=(oVal (.tmp 8) (kMove (.tmp 0)) (oVal (.tmp 9) (kMove (.tmp 1)) (oCall (.tmp 10) (.con (.func 84 [] [])) [(.tmp 8),(.tmp 9)] (oVal (.tmp 5) (kMove (.tmp 10)) oNil))))
def K61r2:OpsF:=(oVal (.tmp 11) (kMove (.tmp 5)) (oVal (.tmp 12) (kInt aEql (.tmp 11) (.con (.int .i64 (-1)))) oNil))
def K61r3:OpsF:=(oVal (.tmp 13) (kMove (.tmp 0)) (oVal (.tmp 4) (kMove (.tmp 13)) oNil))
def K61r4:OpsF:=(oVal (.tmp 14) (kMove (.tmp 5)) (oVal (.tmp 15) (kInt aAdd (.tmp 14) (.con (.int .i64 1))) (oVal (.tmp 6) (kMove (.tmp 15)) oNil)))
def K61r5:OpsF:=(oVal (.tmp 16) (kMove (.tmp 6)) (oVal (.tmp 17) (kMove (.tmp 0)) (oVal (.tmp 18) (kUn lenSlA (.tmp 17)) (oVal (.tmp 19) (kInt aLss (.tmp 16) (.tmp 18)) oNil))))
def K61r6:OpsF:=(oVal (.tmp 22) (kMove (.tmp 0)) (oVal (.tmp 23) (kMove (.tmp 6)) (oVal (.tmp 24) (kTwo (ixsA 1) (.tmp 22) (.tmp 23)) (oVal (.tmp 25) (kLoad none (.tmp 24)) (oVal (.tmp 7) (kMove (.tmp 25)) oNil)))))
def K61r7:OpsF:=(oVal (.tmp 26) (kMove (.tmp 1)) (oVal (.tmp 27) (kMove (.tmp 7)) (oCall (.tmp 28) (.tmp 26) [(.tmp 27)] (oVal (.tmp 29) (kUn notA (.tmp 28)) oNil))))
def K61r8:OpsF:=(oVal (.tmp 30) (kMove (.tmp 0)) (oVal (.tmp 31) (kMove (.tmp 5)) (oVal (.tmp 32) (kMove (.tmp 7)) (oVal (.tmp 33) (kTwo (ixsA 1) (.tmp 30) (.tmp 31)) (oVal .none (kStore 1 (.tmp 33) (.tmp 32)) oNil)))))
def K61r9:OpsF:=(oVal (.tmp 34) (kMove (.tmp 5)) (oVal (.tmp 35) (kInt aAdd (.tmp 34) (.con (.int .i64 1))) (oVal (.tmp 5) (kMove (.tmp 35)) oNil)))
def K61r10:OpsF:=(oVal (.tmp 20) (kMove (.tmp 6)) (oVal (.tmp 21) (kInt aAdd (.tmp 20) (.con (.int .i64 1))) (oVal (.tmp 6) (kMove (.tmp 21)) oNil)))
def K61l0:K:=(kSeq (kSeq (kRegion K61r5 [19]) (kCond (.tmp 19) kSkip (kExit 0))) (kSeq (kBlock 1 (kSeq (kRegion K61r6 [7]) (kSeq (kRegion K61r7 [29]) (kCond (.tmp 29) (kSeq (kRegion K61r8 []) (kRegion K61r9 [5])) kSkip)))) (kRegion K61r10 [6])))
def K61r11:OpsF:=(oVal (.tmp 36) (kMove (.tmp 0)) (oVal (.tmp 37) (kMove (.tmp 5)) (oVal (.tmp 38) (kSlice (sliceVal 1) (.tmp 36) (some (.tmp 37)) none) (oVal .none (kUn (clearA [(.int .i64 0)]) (.tmp 38)) oNil))))
def K61r12:OpsF:=(oVal (.tmp 39) (kMove (.tmp 0)) (oVal (.tmp 40) (kMove (.tmp 5)) (oVal (.tmp 41) (kSlice (sliceVal 1) (.tmp 39) none (some (.tmp 40))) (oVal (.tmp 4) (kMove (.tmp 41)) oNil))))
theorem res61:Try.f61.results.toList=[.tmp 4]:=by kernel_rfl
def K61:K:=(kSeq (kRegion K61r0 [4]) (kSeq (kRegion K61r1 [5]) (kSeq (kSeq (kRegion K61r2 [12]) (kCond (.tmp 12) (kSeq (kRegion K61r3 [4]) kRet) kSkip)) (kSeq (kSeq (kRegion K61r4 [6]) (kBlock 0 (kLoop K61l0))) (kSeq (kRegion K61r11 []) (kSeq (kRegion K61r12 [4]) kRet))))))
theorem enter61 (cl:CallF) (a0 a1:AV) (s:St):enterA Try.prog X cl 61 [a0,a1] s Try.f61=finA Try.prog Try.f61 (K61 cl ⟨61,none,Try.f61.ntmps,X 61⟩ (paramsEnv 0 [a0,a1] .nil) [] s) :=
  enterA_eq (b:=Try.f61.body.getD .skip) (by kernel_rfl) (by kernel_rfl) (by kernel_rfl) (by kernel_rfl) (by kernel_rfl)
def K84r0:OpsF:=(oVal (.tmp 4) (kMove (.con (.int .i64 0))) oNil)
def K84r1:OpsF:=(oVal (.tmp 6) (kMove (.tmp 0)) (oVal (.tmp 7) (kUn lenSlA (.tmp 6)) (oVal (.tmp 8) (kMove (.con (.int .i64 0))) oNil)))
def K84r2:OpsF:=(oVal (.tmp 9) (kInt aLss (.tmp 8) (.tmp 7)) oNil)
def K84r3:OpsF:=(oVal (.tmp 10) (kMove (.tmp 8)) (oVal (.tmp 5) (kMove (.tmp 10)) oNil))
def K84r4:OpsF:=(oVal (.tmp 11) (kMove (.tmp 1)) (oVal (.tmp 12) (kMove (.tmp 0)) (oVal (.tmp 13) (kMove (.tmp 5)) (oVal (.tmp 14) (kTwo (ixsA 1) (.tmp 12) (.tmp 13)) (oVal (.tmp 15) (kLoad none (.tmp 14)) (oCall (.tmp 16) (.tmp 11) [(.tmp 15)] oNil))))))
def K84r5:OpsF:=(oVal (.tmp 17) (kMove (.tmp 5)) (oVal (.tmp 4) (kMove (.tmp 17)) oNil))
def K84r6:OpsF:=(oVal (.tmp 18) (kInt aAdd (.tmp 8) (.con (.int .i64 1))) (oVal (.tmp 8) (kMove (.tmp 18)) oNil))
def K84l0:K:=(kSeq (kRegion K84r2 [9]) (kSeq (kCond (.tmp 9) kSkip (kExit 0)) (kSeq (kBlock 1 (kSeq (kRegion K84r3 [5]) (kSeq (kRegion K84r4 [16]) (kCond (.tmp 16) (kSeq (kRegion K84r5 [4]) kRet) kSkip)))) (kRegion K84r6 [8]))))
def K84r7:OpsF:=(oVal (.tmp 4) (kMove (.con (.int .i64 (-1)))) oNil)
theorem res84:Try.f84.results.toList=[.tmp 4]:=by kernel_rfl
def K84:K:=(kSeq (kRegion K84r0 [4]) (kSeq (kSeq (kRegion K84r1 [7,8]) (kBlock 0 (kLoop K84l0))) (kSeq (kRegion K84r7 [4]) kRet)))
theorem enter84 (cl:CallF) (a0 a1:AV) (s:St):enterA Try.prog X cl 84 [a0,a1] s Try.f84=finA Try.prog Try.f84 (K84 cl ⟨84,none,Try.f84.ntmps,X 84⟩ (paramsEnv 0 [a0,a1] .nil) [] s) :=
  enterA_eq (b:=Try.f84.body.getD .skip) (by kernel_rfl) (by kernel_rfl) (by kernel_rfl) (by kernel_rfl) (by kernel_rfl)
def K59r0:OpsF:=(oVal (.tmp 2) (kMove (.con (.int .i64 0))) oNil)
def K59r1:OpsF:=(oVal (.tmp 3) (kMove (.tmp 0)) (oVal (.tmp 4) (kUn (cviA .u32) (.tmp 3)) (oCall (.tmp 5) (.con (.func 81 [] [])) [(.tmp 4)] (oVal (.tmp 2) (kMove (.tmp 5)) oNil))))
def K59r2:OpsF:=(oVal (.tmp 6) (kMove (.tmp 0)) (oCall (.tmp 7) (.con (.func 82 [] [])) [(.tmp 6)] (oVal (.tmp 2) (kMove (.tmp 7)) oNil)))
theorem res59:Try.f59.results.toList=[.tmp 2]:=by kernel_rfl
def K59:K:=(kSeq (kRegion K59r0 [2]) (kSeq (kCond (.con (.bool false)) (kSeq (kRegion K59r1 [2]) kRet) kSkip) (kSeq (kRegion K59r2 [2]) kRet)))
theorem enter59 (cl:CallF) (a0:AV) (s:St):enterA Try.prog X cl 59 [a0] s Try.f59=finA Try.prog Try.f59 (K59 cl ⟨59,none,Try.f59.ntmps,X 59⟩ (paramsEnv 0 [a0] .nil) [] s) :=
  enterA_eq (b:=Try.f59.body.getD .skip) (by kernel_rfl) (by kernel_rfl) (by kernel_rfl) (by kernel_rfl) (by kernel_rfl)
end
end Go.Proofs.Ythbhjgbpjlnbcaa.code
set_option maxRecDepth 100000
namespace Go.Proofs.Ythbhjgbpjlnbcaa.code
open Go.Abs
noncomputable section
def K18r0:OpsF:=(oVal (.tmp 1) (kBox (tag 28) (.tmp 0)) (oVal (.tmp 2) (kMove (.con .nilslice)) (oVal (.tmp 3) (kMove (.con (.int .i64 0))) oNil)))
def K18r1:OpsF:=(oVal (.tmp 11) (kLoad (some 2) (.tmp 1)) (oCall (.tmp 12) (.con (.func 35 [] [])) [(.tmp 11)] (oVal (.tmp 4) (kMove (.tmp 12)) oNil)))
def K18r2:OpsF:=(oVal (.tmp 13) (kMove (.tmp 4)) (oVal (.tmp 14) (kInt aNeq (.tmp 13) (.con (.int .i64 0))) oNil))
def K18r3:OpsF:=(oVal (.tmp 15) (kMove (.tmp 4)) (oVal (.tmp 2) (kMove (.con .nilslice)) (oVal (.tmp 3) (kMove (.tmp 15)) oNil)))
def K18r4:OpsF:=(oVal (.tmp 16) (kLoad (some 2) (.tmp 1)) (oCall (.tmp 17) (.con (.func 39 [] [])) [(.tmp 16)] (oVal (.tmp 5) (kAlloc [.nilslice] (tag 75)) (oVal .none (kStore 1 (.tmp 5) (.tmp 17)) oNil))))
def K18r5:OpsF:=(oVal (.tmp 18) (kBuildSlice [(.int .i64 0)] 1 [(0,1,(.con (.int .i64 (-1))))]) (oVal (.tmp 19) (kUn (fadA 0) (.tmp 1)) (oVal (.tmp 20) (kLoad none (.tmp 19)) (oVal (.tmp 21) (kUn lenSlA (.tmp 20)) (oCall (.tmp 22) (.con (.func 40 [] [])) [(.tmp 18),(.tmp 21)] (oVal (.tmp 6) (kAlloc [.nilslice] (tag 22)) (oVal .none (kStore 1 (.tmp 6) (.tmp 22)) oNil)))))))
def K18r6:OpsF:=(oVal (.tmp 23) (kLoad (some 2) (.tmp 1)) (oCall (.tmp 24) (.con (.func 41 [] [])) [(.tmp 23)] (oVal (.tmp 7) (kAlloc [.nilslice] (tag 22)) (oVal .none (kStore 1 (.tmp 7) (.tmp 24)) oNil))))
def K18r7:OpsF:=(oVal (.tmp 25) (kLoad none (.tmp 7)) (oVal (.tmp 26) (kUn lenSlA (.tmp 25)) (oVal (.tmp 27) (kGtr (.tmp 26) (.con (.int .i64 0))) oNil)))
def K18r8:OpsF:=(oVal (.tmp 28) (kLoad none (.tmp 7)) (oVal (.tmp 29) (kTwo (ixsA 1) (.tmp 28) (.con (.int .i64 0))) (oVal (.tmp 30) (kLoad none (.tmp 29)) (oVal (.tmp 8) (kAlloc [(.int .i64 0)] (tag 3)) (oVal .none (kStore 1 (.tmp 8) (.tmp 30)) oNil)))))
def K18r9:OpsF:=(oVal (.tmp 31) (kLoad none (.tmp 7)) (oVal (.tmp 32) (kSlice (sliceVal 1) (.tmp 31) (some (.con (.int .i64 1))) none) (oVal .none (kStore 1 (.tmp 7) (.tmp 32)) oNil)))
def K18r10:OpsF:=(oVal (.tmp 33) (kLoad (some 2) (.tmp 1)) (oVal (.tmp 34) (kLoad none (.tmp 8)) (oCall (.tmp 35) (.con (.func 42 [] [])) [(.tmp 33),(.tmp 34)] oNil)))
def K18l0:K:=(kSeq (kSeq (kRegion K18r7 [27]) (kCond (.tmp 27) kSkip (kExit 0))) (kBlock 1 (kSeq (kRegion K18r8 [8]) (kSeq (kRegion K18r9 []) (kSeq (kRegion K18r10 [35]) (kBlock 2 (kRange (.tmp 35) [36,37] (rangeAt Try.f18 0).1 (rangeAt Try.f18 0).2)))))))
def K18r11:OpsF:=(oVal (.tmp 58) (kLoad none (.tmp 6)) (oVal (.tmp 2) (kMove (.tmp 58)) (oVal (.tmp 3) (kMove (.con (.int .i64 0))) oNil)))
theorem res18:Try.f18.results.toList=[.tmp 2,.tmp 3]:=by kernel_rfl
def K18:K:=(kSeq (kRegion K18r0 [1,2,3]) (kSeq (kSeq (kRegion K18r1 [4]) (kSeq (kRegion K18r2 [14]) (kCond (.tmp 14) (kSeq (kRegion K18r3 [2,3]) kRet) kSkip))) (kSeq (kRegion K18r4 [5]) (kSeq (kRegion K18r5 [6]) (kSeq (kRegion K18r6 [7]) (kSeq kSkip (kSeq (kBlock 0 (kLoop K18l0)) (kSeq (kRegion K18r11 [2,3]) kRet))))))))
theorem enter18 (cl:CallF) (a0:AV) (s:St):enterA Try.prog X cl 18 [a0] s Try.f18=finA Try.prog Try.f18 (K18 cl ⟨18,none,Try.f18.ntmps,X 18⟩ (paramsEnv 0 [a0] .nil) [] s) :=
  enterA_eq (b:=Try.f18.body.getD .skip) (by kernel_rfl) (by kernel_rfl) (by kernel_rfl) (by kernel_rfl) (by kernel_rfl)
def K18a0r0:OpsF:=(oVal (.tmp 9) (kMove (.tmp 36)) oNil)
def K18a0:K:=(kRegion K18a0r0 [9])
theorem code18a0:codeK Try.prog (X 18) Try.f18.ntmps (rangeAt Try.f18 0).1=some K18a0:=by kernel_rfl
def K18b0r0:OpsF:=(oVal (.tmp 38) (kLoad none (.tmp 6)) (oVal (.tmp 39) (kMove (.tmp 9)) (oVal (.tmp 40) (kTwo (ixsA 1) (.tmp 38) (.tmp 39)) (oVal (.tmp 41) (kLoad none (.tmp 40)) (oVal (.tmp 10) (kMove (.tmp 41)) oNil)))))
def K18b0r1:OpsF:=(oVal (.tmp 42) (kLoad none (.tmp 5)) (oVal (.tmp 43) (kMove (.tmp 9)) (oVal (.tmp 44) (kLoad none (.tmp 8)) (oVal (.tmp 45) (kMove (.tmp 10)) (oCall (.tmp 46) (.con (.func 43 [] [])) [(.tmp 42),(.tmp 43),(.tmp 44),(.tmp 45)] (oVal (.tmp 47) (kUn notA (.tmp 46)) oNil))))))
def K18b0r2:OpsF:=(oVal (.tmp 48) (kLoad none (.tmp 6)) (oVal (.tmp 49) (kMove (.tmp 9)) (oVal (.tmp 50) (kLoad none (.tmp 8)) (oVal (.tmp 51) (kTwo (ixsA 1) (.tmp 48) (.tmp 49)) (oVal .none (kStore 1 (.tmp 51) (.tmp 50)) oNil)))))
def K18b0r3:OpsF:=(oVal (.tmp 52) (kMove (.tmp 10)) (oVal (.tmp 53) (kInt aNeq (.tmp 52) (.con (.int .i64 (-1)))) oNil))
def K18b0r4:OpsF:=(oVal (.tmp 54) (kLoad none (.tmp 7)) (oVal (.tmp 55) (kMove (.tmp 10)) (oVal (.tmp 56) (kBuildSlice [(.int .i64 0)] 1 [(0,1,(.tmp 55))]) (oVal (.tmp 57) (kTwo (appendA false 1 8 (tag 3)) (.tmp 54) (.tmp 56)) (oVal .none (kStore 1 (.tmp 7) (.tmp 57)) oNil)))))
def K18b0:K:=(kBlock 3 (kSeq (kRegion K18b0r0 [10]) (kSeq (kSeq (kRegion K18b0r1 [47]) (kCond (.tmp 47) (kExit 3) kSkip)) (kSeq (kRegion K18b0r2 []) (kSeq (kSeq (kRegion K18b0r3 [53]) (kCond (.tmp 53) (kRegion K18b0r4 []) kSkip)) (kExit 1))))))
theorem code18b0:codeK Try.prog (X 18) Try.f18.ntmps (rangeAt Try.f18 0).2=some K18b0:=by kernel_rfl
def K39r0:OpsF:=(oVal (.tmp 1) (kBox (tag 28) (.tmp 0)) (oVal (.tmp 2) (kMove (.con .nilslice)) oNil))
def K39r1:OpsF:=(oVal (.tmp 3) (kMove (.con .nilslice)) oNil)
def K39r2:OpsF:=(oVal (.tmp 5) (kUn (fadA 0) (.tmp 1)) (oVal (.tmp 6) (kLoad none (.tmp 5)) (oVal (.tmp 7) (kUn lenSlA (.tmp 6)) (oVal (.tmp 8) (kMove (.con (.int .i64 0))) oNil))))
def K39r3:OpsF:=(oVal (.tmp 9) (kInt aLss (.tmp 8) (.tmp 7)) oNil)
def K39r4:OpsF:=(oVal (.tmp 10) (kMove (.tmp 8)) (oVal (.tmp 4) (kMove (.tmp 10)) oNil))
def K39r5:OpsF:=(oVal (.tmp 11) (kMove (.tmp 3)) (oVal (.tmp 12) (kLoad (some 2) (.tmp 1)) (oVal (.tmp 13) (kMove (.tmp 4)) (oCall (.tmp 14) (.con (.func 49 [] [])) [(.tmp 12),(.tmp 13)] (oCall (.tmp 15) (.con (.func 54 [] [])) [(.tmp 14)] (oVal (.tmp 16) (kBuildSlice [.nilmap] 1 [(0,1,(.tmp 15))]) (oVal (.tmp 17) (kTwo (appendA false 1 8 (tag 91)) (.tmp 11) (.tmp 16)) (oVal (.tmp 3) (kMove (.tmp 17)) oNil))))))))
def K39r6:OpsF:=(oVal (.tmp 18) (kInt aAdd (.tmp 8) (.con (.int .i64 1))) (oVal (.tmp 8) (kMove (.tmp 18)) oNil))
def K39l0:K:=(kSeq (kRegion K39r3 [9]) (kSeq (kCond (.tmp 9) kSkip (kExit 0)) (kSeq (kBlock 1 (kSeq (kRegion K39r4 [4]) (kRegion K39r5 [3]))) (kRegion K39r6 [8]))))
def K39r7:OpsF:=(oVal (.tmp 19) (kMove (.tmp 3)) (oVal (.tmp 2) (kMove (.tmp 19)) oNil))
theorem res39:Try.f39.results.toList=[.tmp 2]:=by kernel_rfl
def K39:K:=(kSeq (kRegion K39r0 [1,2]) (kSeq (kRegion K39r1 [3]) (kSeq (kSeq (kRegion K39r2 [7,8]) (kBlock 0 (kLoop K39l0))) (kSeq (kRegion K39r7 [2]) kRet))))
theorem enter39 (cl:CallF) (a0:AV) (s:St):enterA Try.prog X cl 39 [a0] s Try.f39=finA Try.prog Try.f39 (K39 cl ⟨39,none,Try.f39.ntmps,X 39⟩ (paramsEnv 0 [a0] .nil) [] s) :=
  enterA_eq (b:=Try.f39.body.getD .skip) (by kernel_rfl) (by kernel_rfl) (by kernel_rfl) (by kernel_rfl) (by kernel_rfl)
def K43r0:OpsF:=(oVal (.tmp 8) (kMove (.con (.bool false))) oNil)
def K43r1s16:OpsF:=(oVal (.tmp 25) (kPick (.tmp 11) (.con (.bool true)) (.tmp 24)) (oVal (.tmp 8) (kMove (.tmp 25)) oNil))
def K43r1s15:OpsF:=(oIf 11 false (oVal (.tmp 24) (kInt aLss (.tmp 17) (.tmp 23)) K43r1s16) (oSkip (.tmp 24) K43r1s16))
def K43r1s14:OpsF:=(oIf 11 false (oVal (.tmp 23) (kLook .int (.int .i64 0) false (.tmp 21) (.tmp 22)) K43r1s15) (oSkip (.tmp 23) K43r1s15))
def K43r1s13:OpsF:=(oIf 11 false (oVal (.tmp 22) (kMove (.tmp 3)) K43r1s14) (oSkip (.tmp 22) K43r1s14))
def K43r1s12:OpsF:=(oIf 11 false (oVal (.tmp 21) (kLoad none (.tmp 20)) K43r1s13) (oSkip (.tmp 21) K43r1s13))
def K43r1s11:OpsF:=(oIf 11 false (oVal (.tmp 20) (kTwo (ixsA 1) (.tmp 18) (.tmp 19)) K43r1s12) (oSkip (.tmp 20) K43r1s12))
def K43r1s10:OpsF:=(oIf 11 false (oVal (.tmp 19) (kMove (.tmp 1)) K43r1s11) (oSkip (.tmp 19) K43r1s11))
def K43r1s9:OpsF:=(oIf 11 false (oVal (.tmp 18) (kMove (.tmp 0)) K43r1s10) (oSkip (.tmp 18) K43r1s10))
def K43r1s8:OpsF:=(oIf 11 false (oVal (.tmp 17) (kLook .int (.int .i64 0) false (.tmp 15) (.tmp 16)) K43r1s9) (oSkip (.tmp 17) K43r1s9))
def K43r1s7:OpsF:=(oIf 11 false (oVal (.tmp 16) (kMove (.tmp 2)) K43r1s8) (oSkip (.tmp 16) K43r1s8))
def K43r1s6:OpsF:=(oIf 11 false (oVal (.tmp 15) (kLoad none (.tmp 14)) K43r1s7) (oSkip (.tmp 15) K43r1s7))
def K43r1s5:OpsF:=(oIf 11 false (oVal (.tmp 14) (kTwo (ixsA 1) (.tmp 12) (.tmp 13)) K43r1s6) (oSkip (.tmp 14) K43r1s6))
def K43r1s4:OpsF:=(oIf 11 false (oVal (.tmp 13) (kMove (.tmp 1)) K43r1s5) (oSkip (.tmp 13) K43r1s5))
def K43r1:OpsF:=(oEnd [] (oVal (.tmp 9) (kMove (.tmp 3)) (oVal (.tmp 10) (kInt aEql (.tmp 9) (.con (.int .i64 (-1)))) (oVal (.tmp 11) (kMove (.tmp 10)) (oIf 11 false (oVal (.tmp 12) (kMove (.tmp 0)) K43r1s4) (oSkip (.tmp 12) K43r1s4))))))
theorem res43:Try.f43.results.toList=[.tmp 8]:=by kernel_rfl
def K43:K:=(kSeq (kRegion K43r0 [8]) (kSeq (kRegionD K43r1 [8]) kRet))
theorem enter43 (cl:CallF) (a0 a1 a2 a3:AV) (s:St):enterA Try.prog X cl 43 [a0,a1,a2,a3] s Try.f43=finA Try.prog Try.f43 (K43 cl ⟨43,none,Try.f43.ntmps,X 43⟩ (paramsEnv 0 [a0,a1,a2,a3] .nil) [] s) :=
  enterA_eq (b:=Try.f43.body.getD .skip) (by kernel_rfl) (by kernel_rfl) (by kernel_rfl) (by kernel_rfl) (by kernel_rfl)
def K40r0:OpsF:=(oVal (.tmp 4) (kMove (.con .nilslice)) oNil)
def K40r1:OpsF:=(oVal (.tmp 9) (kMove (.tmp 1)) (oVal (.tmp 10) (kInt aLss (.tmp 9) (.con (.int .i64 0))) oNil))
def K40r2:OpsF:=oFail
def K40r3:OpsF:=(oVal (.tmp 13) (kMove (.tmp 0)) (oVal (.tmp 14) (kUn lenSlA (.tmp 13)) (oVal (.tmp 15) (kUn (cviA .u64) (.tmp 14)) (oVal (.tmp 16) (kMove (.tmp 1)) (oVal (.tmp 17) (kUn (cviA .u64) (.tmp 16)) (oCall (.tmp 18) (.con (.func 55 [] [])) [(.tmp 15),(.tmp 17)] (oVal (.tmp 12) (kMove (.tmp 18)) (oVal (.tmp 19) (kUn (extA 0) (.tmp 12)) (oVal (.tmp 20) (kUn (extA 1) (.tmp 12)) (oVal (.tmp 5) (kMove (.tmp 19)) (oVal (.tmp 6) (kMove (.tmp 20)) oNil)))))))))))
def K40r4s5:OpsF:=(oVal (.tmp 26) (kPick (.tmp 23) (.con (.bool true)) (.tmp 25)) oNil)
def K40r4s4:OpsF:=(oIf 23 false (oVal (.tmp 25) (kGtr (.tmp 24) (.con (.int .u64 9223372036854775807))) K40r4s5) (oSkip (.tmp 25) K40r4s5))
def K40r4:OpsF:=(oVal (.tmp 21) (kMove (.tmp 5)) (oVal (.tmp 22) (kGtr (.tmp 21) (.con (.int .u64 0))) (oVal (.tmp 23) (kMove (.tmp 22)) (oIf 23 false (oVal (.tmp 24) (kMove (.tmp 6)) K40r4s4) (oSkip (.tmp 24) K40r4s4)))))
def K40r5:OpsF:=oFail
def K40r6:OpsF:=(oVal (.tmp 28) (kMove (.tmp 6)) (oVal (.tmp 29) (kUn (cviA .i64) (.tmp 28)) (oVal (.tmp 30) (kMake [(.int .i64 0)] 8 (.tmp 29) (.tmp 29)) (oVal (.tmp 7) (kMove (.tmp 30)) oNil))))
def K40r7:OpsF:=(oVal (.tmp 31) (kMove (.tmp 7)) (oVal (.tmp 32) (kMove (.tmp 0)) (oVal (.tmp 33) (kTwo (copyA 1) (.tmp 31) (.tmp 32)) (oVal (.tmp 8) (kMove (.tmp 33)) oNil))))
def K40r8:OpsF:=(oVal (.tmp 34) (kMove (.tmp 8)) (oVal (.tmp 35) (kMove (.tmp 7)) (oVal (.tmp 36) (kUn lenSlA (.tmp 35)) (oVal (.tmp 37) (kInt aLss (.tmp 34) (.tmp 36)) oNil))))
def K40r9:OpsF:=(oEnd [] (oVal (.tmp 38) (kMove (.tmp 8)) (oVal (.tmp 39) (kMove (.tmp 7)) (oVal (.tmp 40) (kMove (.tmp 8)) (oVal (.tmp 41) (kSlice (sliceVal 1) (.tmp 39) (some (.tmp 40)) none) (oVal (.tmp 42) (kMove (.tmp 7)) (oVal (.tmp 43) (kMove (.tmp 8)) (oVal (.tmp 44) (kSlice (sliceVal 1) (.tmp 42) none (some (.tmp 43))) (oVal (.tmp 45) (kTwo (copyA 1) (.tmp 41) (.tmp 44)) (oVal (.tmp 46) (kInt aAdd (.tmp 38) (.tmp 45)) (oVal (.tmp 8) (kMove (.tmp 46)) oNil)))))))))))
def K40l0:K:=(kSeq (kSeq (kRegion K40r8 [37]) (kCond (.tmp 37) kSkip (kExit 0))) (kBlock 1 (kRegionD K40r9 [8])))
def K40r10:OpsF:=(oVal (.tmp 47) (kMove (.tmp 7)) (oVal (.tmp 4) (kMove (.tmp 47)) oNil))
theorem res40:Try.f40.results.toList=[.tmp 4]:=by kernel_rfl
def K40:K:=(kSeq (kRegion K40r0 [4]) (kSeq (kSeq (kRegion K40r1 [10]) (kCond (.tmp 10) (kRegion K40r2 []) kSkip)) (kSeq (kRegion K40r3 [5,6]) (kSeq (kSeq (kRegion K40r4 [26]) (kCond (.tmp 26) (kRegion K40r5 []) kSkip)) (kSeq (kRegion K40r6 [7]) (kSeq (kRegion K40r7 [8]) (kSeq (kBlock 0 (kLoop K40l0)) (kSeq (kRegion K40r10 [4]) kRet))))))))
theorem enter40 (cl:CallF) (a0 a1:AV) (s:St):enterA Try.prog X cl 40 [a0,a1] s Try.f40=finA Try.prog Try.f40 (K40 cl ⟨40,none,Try.f40.ntmps,X 40⟩ (paramsEnv 0 [a0,a1] .nil) [] s) :=
  enterA_eq (b:=Try.f40.body.getD .skip) (by kernel_rfl) (by kernel_rfl) (by kernel_rfl) (by kernel_rfl) (by kernel_rfl)
def K55r0:OpsF:=(oVal (.tmp 4) (kMove (.con (.int .u64 0))) (oVal (.tmp 5) (kMove (.con (.int .u64 0))) oNil))
def K55r1:OpsF:=(oVal (.tmp 11) (kMove (.tmp 0)) (oVal (.tmp 12) (kUn (cviA .u32) (.tmp 11)) (oVal (.tmp 13) (kMove (.tmp 1)) (oVal (.tmp 14) (kUn (cviA .u32) (.tmp 13)) (oCall (.tmp 15) (.con (.func 69 [] [])) [(.tmp 12),(.tmp 14)] (oVal (.tmp 10) (kMove (.tmp 15)) (oVal (.tmp 16) (kUn (extA 0) (.tmp 10)) (oVal (.tmp 17) (kUn (extA 1) (.tmp 10)) (oVal (.tmp 6) (kMove (.tmp 16)) (oVal (.tmp 7) (kMove (.tmp 17)) oNil))))))))))
def K55r2:OpsF:=(oVal (.tmp 18) (kMove (.tmp 6)) (oVal (.tmp 19) (kUn (cviA .u64) (.tmp 18)) (oVal (.tmp 20) (kMove (.tmp 7)) (oVal (.tmp 21) (kUn (cviA .u64) (.tmp 20)) (oVal (.tmp 4) (kMove (.tmp 19)) (oVal (.tmp 5) (kMove (.tmp 21)) oNil))))))
def K55r3:OpsF:=(oVal (.tmp 23) (kMove (.tmp 0)) (oVal (.tmp 24) (kMove (.tmp 1)) (oCall (.tmp 25) (.con (.func 70 [] [])) [(.tmp 23),(.tmp 24)] (oVal (.tmp 22) (kMove (.tmp 25)) (oVal (.tmp 26) (kUn (extA 0) (.tmp 22)) (oVal (.tmp 27) (kUn (extA 1) (.tmp 22)) (oVal (.tmp 8) (kMove (.tmp 26)) (oVal (.tmp 9) (kMove (.tmp 27)) oNil))))))))
def K55r4:OpsF:=(oVal (.tmp 28) (kMove (.tmp 8)) (oVal (.tmp 29) (kMove (.tmp 9)) (oVal (.tmp 4) (kMove (.tmp 28)) (oVal (.tmp 5) (kMove (.tmp 29)) oNil))))
theorem res55:Try.f55.results.toList=[.tmp 4,.tmp 5]:=by kernel_rfl
def K55:K:=(kSeq (kRegion K55r0 [4,5]) (kSeq (kCond (.con (.bool false)) (kSeq (kRegion K55r1 [6,7]) (kSeq (kRegion K55r2 [4,5]) kRet)) kSkip) (kSeq (kRegion K55r3 [8,9]) (kSeq (kRegion K55r4 [4,5]) kRet))))
theorem enter55 (cl:CallF) (a0 a1:AV) (s:St):enterA Try.prog X cl 55 [a0,a1] s Try.f55=finA Try.prog Try.f55 (K55 cl ⟨55,none,Try.f55.ntmps,X 55⟩ (paramsEnv 0 [a0,a1] .nil) [] s) :=
  enterA_eq (b:=Try.f55.body.getD .skip) (by kernel_rfl) (by kernel_rfl) (by kernel_rfl) (by kernel_rfl) (by kernel_rfl)
def K70r0:OpsF:=(oVal (.tmp 4) (kMove (.con (.int .u64 0))) (oVal (.tmp 5) (kMove (.con (.int .u64 0))) oNil))
def K70r1:OpsF:=(oVal (.tmp 14) (kMove (.tmp 0)) (oVal (.tmp 15) (kInt aAnd (.tmp 14) (.con (.int .u64 4294967295))) (oVal (.tmp 6) (kMove (.tmp 15)) oNil)))
def K70r2:OpsF:=(oVal (.tmp 16) (kMove (.tmp 0)) (oVal (.tmp 17) (kShr (.tmp 16) (.con (.int .u64 32))) (oVal (.tmp 7) (kMove (.tmp 17)) oNil)))
def K70r3:OpsF:=(oVal (.tmp 18) (kMove (.tmp 1)) (oVal (.tmp 19) (kInt aAnd (.tmp 18) (.con (.int .u64 4294967295))) (oVal (.tmp 8) (kMove (.tmp 19)) oNil)))
def K70r4:OpsF:=(oVal (.tmp 20) (kMove (.tmp 1)) (oVal (.tmp 21) (kShr (.tmp 20) (.con (.int .u64 32))) (oVal (.tmp 9) (kMove (.tmp 21)) oNil)))
def K70r5:OpsF:=(oVal (.tmp 22) (kMove (.tmp 6)) (oVal (.tmp 23) (kMove (.tmp 8)) (oVal (.tmp 24) (kInt aMul (.tmp 22) (.tmp 23)) (oVal (.tmp 10) (kMove (.tmp 24)) oNil))))
def K70r6:OpsF:=(oVal (.tmp 25) (kMove (.tmp 7)) (oVal (.tmp 26) (kMove (.tmp 8)) (oVal (.tmp 27) (kInt aMul (.tmp 25) (.tmp 26)) (oVal (.tmp 28) (kMove (.tmp 10)) (oVal (.tmp 29) (kShr (.tmp 28) (.con (.int .u64 32))) (oVal (.tmp 30) (kInt aAdd (.tmp 27) (.tmp 29)) (oVal (.tmp 11) (kMove (.tmp 30)) oNil)))))))
def K70r7:OpsF:=(oVal (.tmp 31) (kMove (.tmp 11)) (oVal (.tmp 32) (kInt aAnd (.tmp 31) (.con (.int .u64 4294967295))) (oVal (.tmp 12) (kMove (.tmp 32)) oNil)))
def K70r8:OpsF:=(oVal (.tmp 33) (kMove (.tmp 11)) (oVal (.tmp 34) (kShr (.tmp 33) (.con (.int .u64 32))) (oVal (.tmp 13) (kMove (.tmp 34)) oNil)))
def K70r9:OpsF:=(oVal (.tmp 35) (kMove (.tmp 12)) (oVal (.tmp 36) (kMove (.tmp 6)) (oVal (.tmp 37) (kMove (.tmp 9)) (oVal (.tmp 38) (kInt aMul (.tmp 36) (.tmp 37)) (oVal (.tmp 39) (kInt aAdd (.tmp 35) (.tmp 38)) (oVal (.tmp 12) (kMove (.tmp 39)) oNil))))))
def K70r10:OpsF:=(oVal (.tmp 40) (kMove (.tmp 7)) (oVal (.tmp 41) (kMove (.tmp 9)) (oVal (.tmp 42) (kInt aMul (.tmp 40) (.tmp 41)) (oVal (.tmp 43) (kMove (.tmp 13)) (oVal (.tmp 44) (kInt aAdd (.tmp 42) (.tmp 43)) (oVal (.tmp 45) (kMove (.tmp 12)) (oVal (.tmp 46) (kShr (.tmp 45) (.con (.int .u64 32))) (oVal (.tmp 47) (kInt aAdd (.tmp 44) (.tmp 46)) (oVal (.tmp 4) (kMove (.tmp 47)) oNil)))))))))
def K70r11:OpsF:=(oVal (.tmp 48) (kMove (.tmp 0)) (oVal (.tmp 49) (kMove (.tmp 1)) (oVal (.tmp 50) (kInt aMul (.tmp 48) (.tmp 49)) (oVal (.tmp 5) (kMove (.tmp 50)) oNil))))
def K70:K:=(kSeq (kRegion K70r0 [4,5]) (kSeq (kRegion K70r1 [6]) (kSeq (kRegion K70r2 [7]) (kSeq (kRegion K70r3 [8]) (kSeq (kRegion K70r4 [9]) (kSeq (kRegion K70r5 [10]) (kSeq (kRegion K70r6 [11]) (kSeq (kRegion K70r7 [12]) (kSeq (kRegion K70r8 [13]) (kSeq (kRegion K70r9 [12]) (kSeq (kRegion K70r10 [4]) (kSeq (kRegion K70r11 [5]) kRet))))))))))))
theorem enter70 (cl:CallF) (a0 a1:AV) (s:St):enterA Try.prog X cl 70 [a0,a1] s Try.f70=finA Try.prog Try.f70 (K70 cl ⟨70,none,Try.f70.ntmps,X 70⟩ (paramsEnv 0 [a0,a1] .nil) [] s) :=
  enterA_eq (b:=Try.f70.body.getD .skip) (by kernel_rfl) (by kernel_rfl) (by kernel_rfl) (by kernel_rfl) (by kernel_rfl)
end
end Go.Proofs.Ythbhjgbpjlnbcaa.code
set_option maxRecDepth 100000
namespace Go.Proofs.Ythbhjgbpjlnbcaa.code
open Go.Abs
noncomputable section
def K20r0:OpsF:=(oVal (.tmp 2) (kBox (tag 28) (.tmp 0)) (oVal (.tmp 3) (kBox (tag 22) (.tmp 1)) (oVal (.tmp 4) (kMove (.con .nilslice)) (oVal (.tmp 5) (kMove (.con (.int .i64 0))) oNil))))
def K20r1:OpsF:=(oVal (.tmp 15) (kLoad (some 2) (.tmp 2)) (oVal (.tmp 16) (kLoad none (.tmp 3)) (oCall (.tmp 17) (.con (.func 21 [] [])) [(.tmp 15),(.tmp 16)] (oVal (.tmp 6) (kMove (.tmp 17)) oNil))))
def K20r2:OpsF:=(oVal (.tmp 18) (kMove (.tmp 6)) (oVal (.tmp 19) (kInt aNeq (.tmp 18) (.con (.int .i64 0))) oNil))
def K20r3:OpsF:=(oVal (.tmp 20) (kMove (.tmp 6)) (oVal (.tmp 4) (kMove (.con .nilslice)) (oVal (.tmp 5) (kMove (.tmp 20)) oNil)))
def K20r4:OpsF:=(oVal (.tmp 21) (kLoad (some 2) (.tmp 2)) (oCall (.tmp 22) (.con (.func 39 [] [])) [(.tmp 21)] (oVal (.tmp 7) (kAlloc [.nilslice] (tag 75)) (oVal .none (kStore 1 (.tmp 7) (.tmp 22)) oNil))))
def K20r5:OpsF:=(oVal (.tmp 8) (kMove (.con .nilslice)) oNil)
def K20r6:OpsF:=(oVal (.tmp 23) (kLoad (some 2) (.tmp 2)) (oCall (.tmp 24) (.con (.func 41 [] [])) [(.tmp 23)] (oVal (.tmp 25) (kUn lenSlA (.tmp 24)) (oVal (.tmp 26) (kMove (.con (.int .i64 0))) oNil))))
def K20r7:OpsF:=(oVal (.tmp 27) (kInt aLss (.tmp 26) (.tmp 25)) oNil)
def K20r8:OpsF:=(oVal (.tmp 28) (kTwo (ixsA 1) (.tmp 24) (.tmp 26)) (oVal (.tmp 29) (kLoad none (.tmp 28)) (oVal (.tmp 10) (kAlloc [(.int .i64 0)] (tag 3)) (oVal .none (kStore 1 (.tmp 10) (.tmp 29)) oNil))))
def K20r9:OpsF:=(oVal (.tmp 11) (kAlloc [.nilslice] (tag 22)) oNil)
def K20r10:OpsF:=(oVal (.tmp 30) (kLoad (some 2) (.tmp 2)) (oVal (.tmp 31) (kLoad none (.tmp 10)) (oCall (.tmp 32) (.con (.func 42 [] [])) [(.tmp 30),(.tmp 31)] oNil)))
def K20r11:OpsF:=(oVal (.tmp 53) (kLoad none (.tmp 11)) (oCall (.tmp 54) (.con (.func 44 [] [])) [(.tmp 53)] oNil))
def K20r12:OpsF:=(oVal (.tmp 55) (kLoad none (.tmp 11)) (oVal (.tmp 56) (kUn lenSlA (.tmp 55)) (oVal (.tmp 57) (kMove (.con (.int .i64 0))) oNil)))
def K20r13:OpsF:=(oVal (.tmp 58) (kInt aLss (.tmp 57) (.tmp 56)) oNil)
def K20r14:OpsF:=(oVal (.tmp 59) (kTwo (ixsA 1) (.tmp 55) (.tmp 57)) (oVal (.tmp 60) (kLoad none (.tmp 59)) (oVal (.tmp 14) (kMove (.tmp 60)) oNil)))
def K20r15:OpsF:=(oVal (.tmp 61) (kMove (.tmp 8)) (oVal (.tmp 62) (kLoad none (.tmp 10)) (oVal (.tmp 63) (kMove (.tmp 14)) (oVal (.tmp 64) (kBuild [(.int .i64 0),(.int .i64 0)] [(0,1,(.tmp 62)),(1,1,(.tmp 63))]) (oVal (.tmp 65) (kBuildSlice [(.int .i64 0),(.int .i64 0)] 1 [(0,2,(.tmp 64))]) (oVal (.tmp 66) (kTwo (appendA false 2 16 (tag 59)) (.tmp 61) (.tmp 65)) (oVal (.tmp 8) (kMove (.tmp 66)) oNil)))))))
def K20r16:OpsF:=(oVal (.tmp 67) (kInt aAdd (.tmp 57) (.con (.int .i64 1))) (oVal (.tmp 57) (kMove (.tmp 67)) oNil))
def K20l0:K:=(kSeq (kRegion K20r13 [58]) (kSeq (kCond (.tmp 58) kSkip (kExit 4)) (kSeq (kBlock 5 (kSeq (kRegion K20r14 [14]) (kRegion K20r15 [8]))) (kRegion K20r16 [57]))))
def K20r17:OpsF:=(oVal (.tmp 68) (kInt aAdd (.tmp 26) (.con (.int .i64 1))) (oVal (.tmp 26) (kMove (.tmp 68)) oNil))
def K20l1:K:=(kSeq (kRegion K20r7 [27]) (kSeq (kCond (.tmp 27) kSkip (kExit 0)) (kSeq (kBlock 1 (kSeq (kRegion K20r8 [10]) (kSeq (kRegion K20r9 [11]) (kSeq (kSeq (kRegion K20r10 [32]) (kBlock 2 (kRange (.tmp 32) [33,34] (rangeAt Try.f20 0).1 (rangeAt Try.f20 0).2))) (kSeq (kRegion K20r11 []) (kSeq (kRegion K20r12 [55,56,57]) (kBlock 4 (kLoop K20l0)))))))) (kRegion K20r17 [26]))))
def K20r18:OpsF:=(oVal (.tmp 69) (kMove (.tmp 8)) (oVal (.tmp 4) (kMove (.tmp 69)) (oVal (.tmp 5) (kMove (.con (.int .i64 0))) oNil)))
theorem res20:Try.f20.results.toList=[.tmp 4,.tmp 5]:=by kernel_rfl
def K20:K:=(kSeq (kRegion K20r0 [2,3,4,5]) (kSeq (kSeq (kRegion K20r1 [6]) (kSeq (kRegion K20r2 [19]) (kCond (.tmp 19) (kSeq (kRegion K20r3 [4,5]) kRet) kSkip))) (kSeq (kRegion K20r4 [7]) (kSeq (kRegion K20r5 [8]) (kSeq (kSeq (kRegion K20r6 [24,25,26]) (kBlock 0 (kLoop K20l1))) (kSeq (kRegion K20r18 [4,5]) kRet))))))
theorem enter20 (cl:CallF) (a0 a1:AV) (s:St):enterA Try.prog X cl 20 [a0,a1] s Try.f20=finA Try.prog Try.f20 (K20 cl ⟨20,none,Try.f20.ntmps,X 20⟩ (paramsEnv 0 [a0,a1] .nil) [] s) :=
  enterA_eq (b:=Try.f20.body.getD .skip) (by kernel_rfl) (by kernel_rfl) (by kernel_rfl) (by kernel_rfl) (by kernel_rfl)
def K20a0r0:OpsF:=(oVal (.tmp 12) (kMove (.tmp 33)) oNil)
def K20a0:K:=(kRegion K20a0r0 [12])
theorem code20a0:codeK Try.prog (X 20) Try.f20.ntmps (rangeAt Try.f20 0).1=some K20a0:=by kernel_rfl
def K20b0r0:OpsF:=(oEnd [] (oVal (.tmp 35) (kLoad none (.tmp 3)) (oVal (.tmp 36) (kMove (.tmp 12)) (oVal (.tmp 37) (kTwo (ixsA 1) (.tmp 35) (.tmp 36)) (oVal (.tmp 38) (kLoad none (.tmp 37)) (oVal (.tmp 39) (kLoad none (.tmp 10)) (oVal (.tmp 40) (kInt aEql (.tmp 38) (.tmp 39)) oNil)))))))
def K20b0r1:OpsF:=(oEnd [] (oVal (.tmp 41) (kLoad none (.tmp 7)) (oVal (.tmp 42) (kMove (.tmp 12)) (oVal (.tmp 43) (kLoad none (.tmp 10)) (oVal (.tmp 44) (kLoad none (.tmp 3)) (oVal (.tmp 45) (kMove (.tmp 12)) (oVal (.tmp 46) (kTwo (ixsA 1) (.tmp 44) (.tmp 45)) (oVal (.tmp 47) (kLoad none (.tmp 46)) (oCall (.tmp 48) (.con (.func 43 [] [])) [(.tmp 41),(.tmp 42),(.tmp 43),(.tmp 47)] oNil)))))))))
def K20b0r2:OpsF:=(oVal (.tmp 49) (kLoad none (.tmp 11)) (oVal (.tmp 50) (kMove (.tmp 12)) (oVal (.tmp 51) (kBuildSlice [(.int .i64 0)] 1 [(0,1,(.tmp 50))]) (oVal (.tmp 52) (kTwo (appendA false 1 8 (tag 3)) (.tmp 49) (.tmp 51)) (oVal .none (kStore 1 (.tmp 11) (.tmp 52)) oNil)))))
def K20b0:K:=(kBlock 3 (kSeq (kSeq (kRegionD K20b0r0 [40]) (kCond (.tmp 40) (kExit 2) kSkip)) (kSeq (kRegionD K20b0r1 [48]) (kCond (.tmp 48) (kRegion K20b0r2 []) kSkip))))
theorem code20b0:codeK Try.prog (X 20) Try.f20.ntmps (rangeAt Try.f20 0).2=some K20b0:=by kernel_rfl
def K21r0:OpsF:=(oVal (.tmp 2) (kBox (tag 28) (.tmp 0)) (oVal (.tmp 4) (kMove (.con (.int .i64 0))) oNil))
def K21r1:OpsF:=(oVal (.tmp 9) (kLoad (some 2) (.tmp 2)) (oCall (.tmp 10) (.con (.func 35 [] [])) [(.tmp 9)] (oVal (.tmp 5) (kMove (.tmp 10)) oNil)))
def K21r2:OpsF:=(oVal (.tmp 11) (kMove (.tmp 5)) (oVal (.tmp 12) (kInt aNeq (.tmp 11) (.con (.int .i64 0))) oNil))
def K21r3:OpsF:=(oVal (.tmp 13) (kMove (.tmp 5)) (oVal (.tmp 4) (kMove (.tmp 13)) oNil))
def K21r4:OpsF:=(oVal (.tmp 14) (kMove (.tmp 1)) (oVal (.tmp 15) (kUn lenSlA (.tmp 14)) (oVal (.tmp 16) (kUn (fadA 0) (.tmp 2)) (oVal (.tmp 17) (kLoad none (.tmp 16)) (oVal (.tmp 18) (kUn lenSlA (.tmp 17)) (oVal (.tmp 19) (kInt aNeq (.tmp 15) (.tmp 18)) oNil))))))
def K21r5:OpsF:=(oVal (.tmp 4) (kMove (.con (.int .i64 2))) oNil)
def K21r6:OpsF:=(oVal (.tmp 20) (kMove (.tmp 1)) (oVal (.tmp 21) (kUn lenSlA (.tmp 20)) (oVal (.tmp 22) (kMove (.con (.int .i64 0))) oNil)))
def K21r7:OpsF:=(oVal (.tmp 23) (kInt aLss (.tmp 22) (.tmp 21)) oNil)
def K21r8:OpsF:=(oVal (.tmp 24) (kMove (.tmp 22)) (oVal (.tmp 25) (kTwo (ixsA 1) (.tmp 20) (.tmp 22)) (oVal (.tmp 26) (kLoad none (.tmp 25)) (oVal (.tmp 6) (kMove (.tmp 24)) (oVal (.tmp 7) (kMove (.tmp 26)) oNil)))))
def K21r9:OpsF:=(oEnd [] (oVal (.tmp 27) (kLoad (some 2) (.tmp 2)) (oVal (.tmp 28) (kMove (.tmp 1)) (oVal (.tmp 29) (kMove (.tmp 6)) (oVal (.tmp 30) (kSlice (sliceVal 1) (.tmp 28) none (some (.tmp 29))) (oVal (.tmp 31) (kMove (.tmp 7)) (oCall (.tmp 32) (.con (.func 45 [] [])) [(.tmp 27),(.tmp 30),(.tmp 31)] (oVal (.tmp 8) (kMove (.tmp 32)) oNil))))))))
def K21r10:OpsF:=(oVal (.tmp 33) (kMove (.tmp 8)) (oVal (.tmp 34) (kInt aNeq (.tmp 33) (.con (.int .i64 0))) oNil))
def K21r11:OpsF:=(oVal (.tmp 35) (kMove (.tmp 8)) (oVal (.tmp 4) (kMove (.tmp 35)) oNil))
def K21r12:OpsF:=(oVal (.tmp 36) (kInt aAdd (.tmp 22) (.con (.int .i64 1))) (oVal (.tmp 22) (kMove (.tmp 36)) oNil))
def K21l0:K:=(kSeq (kRegion K21r7 [23]) (kSeq (kCond (.tmp 23) kSkip (kExit 0)) (kSeq (kBlock 1 (kSeq (kRegion K21r8 [6,7]) (kSeq (kRegionD K21r9 [8]) (kSeq (kRegion K21r10 [34]) (kCond (.tmp 34) (kSeq (kRegion K21r11 [4]) kRet) kSkip))))) (kRegion K21r12 [22]))))
def K21r13:OpsF:=(oVal (.tmp 4) (kMove (.con (.int .i64 0))) oNil)
theorem res21:Try.f21.results.toList=[.tmp 4]:=by kernel_rfl
def K21:K:=(kSeq (kRegion K21r0 [2,4]) (kSeq (kSeq (kRegion K21r1 [5]) (kSeq (kRegion K21r2 [12]) (kCond (.tmp 12) (kSeq (kRegion K21r3 [4]) kRet) kSkip))) (kSeq (kSeq (kRegion K21r4 [19]) (kCond (.tmp 19) (kSeq (kRegion K21r5 [4]) kRet) kSkip)) (kSeq (kSeq (kRegion K21r6 [20,21,22]) (kBlock 0 (kLoop K21l0))) (kSeq (kRegion K21r13 [4]) kRet)))))
theorem enter21 (cl:CallF) (a0 a1:AV) (s:St):enterA Try.prog X cl 21 [a0,a1] s Try.f21=finA Try.prog Try.f21 (K21 cl ⟨21,none,Try.f21.ntmps,X 21⟩ (paramsEnv 0 [a0,a1] .nil) [] s) :=
  enterA_eq (b:=Try.f21.body.getD .skip) (by kernel_rfl) (by kernel_rfl) (by kernel_rfl) (by kernel_rfl) (by kernel_rfl)
def K45r0:OpsF:=(oVal (.tmp 3) (kBox (tag 28) (.tmp 0)) (oVal (.tmp 6) (kMove (.con (.int .i64 0))) oNil))
def K45r1:OpsF:=(oVal (.tmp 10) (kMove (.tmp 2)) (oVal (.tmp 11) (kInt aEql (.tmp 10) (.con (.int .i64 (-1)))) oNil))
def K45r2:OpsF:=(oVal (.tmp 6) (kMove (.con (.int .i64 0))) oNil)
def K45r3:OpsF:=(oVal (.tmp 12) (kMove (.tmp 2)) (oVal (.tmp 13) (kUn (fadA 1) (.tmp 3)) (oVal (.tmp 14) (kLoad none (.tmp 13)) (oVal (.tmp 15) (kUn lenSlA (.tmp 14)) (oCall (.tmp 16) (.con (.func 48 [] [])) [(.tmp 12),(.tmp 15)] (oVal (.tmp 7) (kMove (.tmp 16)) oNil))))))
def K45r4:OpsF:=(oVal (.tmp 17) (kMove (.tmp 7)) (oVal (.tmp 18) (kInt aNeq (.tmp 17) (.con (.int .i64 0))) oNil))
def K45r5:OpsF:=(oVal (.tmp 19) (kMove (.tmp 7)) (oVal (.tmp 6) (kMove (.tmp 19)) oNil))
def K45r6:OpsF:=(oVal (.tmp 20) (kMove (.tmp 1)) (oVal (.tmp 21) (kMove (.tmp 2)) (oCall (.tmp 22) (.con (.func 60 [] [])) [(.tmp 20),(.tmp 21)] oNil)))
def K45r7:OpsF:=(oVal (.tmp 6) (kMove (.con (.int .i64 4))) oNil)
def K45r8:OpsF:=(oVal (.tmp 24) (kLoad (some 2) (.tmp 3)) (oVal (.tmp 25) (kMove (.tmp 2)) (oVal (.tmp 26) (kMove (.tmp 1)) (oVal (.tmp 27) (kUn lenSlA (.tmp 26)) (oCall (.tmp 28) (.con (.func 50 [] [])) [(.tmp 24),(.tmp 25),(.tmp 27)] (oVal (.tmp 23) (kMove (.tmp 28)) (oVal (.tmp 29) (kUn (extA 0) (.tmp 23)) (oVal (.tmp 30) (kUn (extA 1) (.tmp 23)) (oVal (.tmp 8) (kMove (.tmp 29)) (oVal (.tmp 9) (kMove (.tmp 30)) oNil))))))))))
def K45r9:OpsF:=(oVal (.tmp 31) (kMove (.tmp 9)) (oVal (.tmp 32) (kUn notA (.tmp 31)) oNil))
def K45r10:OpsF:=(oVal (.tmp 6) (kMove (.con (.int .i64 9))) oNil)
def K45r11:OpsF:=(oVal (.tmp 6) (kMove (.con (.int .i64 0))) oNil)
theorem res45:Try.f45.results.toList=[.tmp 6]:=by kernel_rfl
def K45:K:=(kSeq (kRegion K45r0 [3,6]) (kSeq (kSeq (kRegion K45r1 [11]) (kCond (.tmp 11) (kSeq (kRegion K45r2 [6]) kRet) kSkip)) (kSeq (kSeq (kRegion K45r3 [7]) (kSeq (kRegion K45r4 [18]) (kCond (.tmp 18) (kSeq (kRegion K45r5 [6]) kRet) kSkip))) (kSeq (kSeq (kRegion K45r6 [22]) (kCond (.tmp 22) (kSeq (kRegion K45r7 [6]) kRet) kSkip)) (kSeq (kSeq (kRegion K45r8 [9]) (kSeq (kRegion K45r9 [32]) (kCond (.tmp 32) (kSeq (kRegion K45r10 [6]) kRet) kSkip))) (kSeq (kRegion K45r11 [6]) kRet))))))
theorem enter45 (cl:CallF) (a0 a1 a2:AV) (s:St):enterA Try.prog X cl 45 [a0,a1,a2] s Try.f45=finA Try.prog Try.f45 (K45 cl ⟨45,none,Try.f45.ntmps,X 45⟩ (paramsEnv 0 [a0,a1,a2] .nil) [] s) :=
  enterA_eq (b:=Try.f45.body.getD .skip) (by kernel_rfl) (by kernel_rfl) (by kernel_rfl) (by kernel_rfl) (by kernel_rfl)
def K44r0:OpsF:=(oVal (.tmp 3) (kMove (.tmp 0)) (oVal (.tmp 4) (kUn lenSlA (.tmp 3)) (oVal (.tmp 2) (kMove (.tmp 4)) oNil)))
def K44r1:OpsF:=(oVal (.tmp 5) (kMove (.tmp 0)) (oVal (.tmp 6) (kMove (.tmp 2)) (oVal (.tmp 7) (kMove (.tmp 2)) (oVal (.tmp 8) (kUn (cviA .u64) (.tmp 7)) (oCall (.tmp 9) (.con (.func 59 [] [])) [(.tmp 8)] (oCall (.tmp 10) (.con (.func 58 [] [])) [(.tmp 5),(.con (.int .i64 0)),(.tmp 6),(.tmp 9)] oNil))))))
theorem res44:Try.f44.results.toList=[]:=by kernel_rfl
def K44:K:=(kSeq (kRegion K44r0 [2]) (kRegion K44r1 []))
theorem enter44 (cl:CallF) (a0:AV) (s:St):enterA Try.prog X cl 44 [a0] s Try.f44=finA Try.prog Try.f44 (K44 cl ⟨44,none,Try.f44.ntmps,X 44⟩ (paramsEnv 0 [a0] .nil) [] s) :=
  enterA_eq (b:=Try.f44.body.getD .skip) (by kernel_rfl) (by kernel_rfl) (by kernel_rfl) (by kernel_rfl) (by kernel_rfl)
def K58r0:OpsF:=(oVal (.tmp 8) (kMove (.con (.bool true))) oNil)
def K58r1:OpsF:=(oVal (.tmp 9) (kMove (.con (.bool true))) oNil)
def K58r2:OpsF:=(oVal (.tmp 19) (kMove (.tmp 2)) (oVal (.tmp 20) (kMove (.tmp 1)) (oVal (.tmp 21) (kInt aSub (.tmp 19) (.tmp 20)) (oVal (.tmp 10) (kMove (.tmp 21)) oNil))))
def K58r3:OpsF:=(oVal (.tmp 22) (kMove (.tmp 10)) (oVal (.tmp 23) (kInt aLeq (.tmp 22) (.con (.int .i64 12))) oNil))
def K58r4:OpsF:=(oVal (.tmp 24) (kMove (.tmp 0)) (oVal (.tmp 25) (kMove (.tmp 1)) (oVal (.tmp 26) (kMove (.tmp 2)) (oCall (.tmp 27) (.con (.func 72 [] [])) [(.tmp 24),(.tmp 25),(.tmp 26)] oNil))))
def K58r5:OpsF:=(oVal (.tmp 28) (kMove (.tmp 3)) (oVal (.tmp 29) (kInt aEql (.tmp 28) (.con (.int .i64 0))) oNil))
def K58r6:OpsF:=(oVal (.tmp 30) (kMove (.tmp 0)) (oVal (.tmp 31) (kMove (.tmp 1)) (oVal (.tmp 32) (kMove (.tmp 2)) (oCall (.tmp 33) (.con (.func 73 [] [])) [(.tmp 30),(.tmp 31),(.tmp 32)] oNil))))
def K58r7:OpsF:=(oVal (.tmp 34) (kMove (.tmp 8)) (oVal (.tmp 35) (kUn notA (.tmp 34)) oNil))
def K58r8:OpsF:=(oVal (.tmp 36) (kMove (.tmp 0)) (oVal (.tmp 37) (kMove (.tmp 1)) (oVal (.tmp 38) (kMove (.tmp 2)) (oCall (.tmp 39) (.con (.func 74 [] [])) [(.tmp 36),(.tmp 37),(.tmp 38)] oNil))))
def K58r9:OpsF:=(oVal (.tmp 40) (kMove (.tmp 3)) (oVal (.tmp 41) (kInt aSub (.tmp 40) (.con (.int .i64 1))) (oVal (.tmp 3) (kMove (.tmp 41)) oNil)))
def K58r10:OpsF:=(oVal (.tmp 43) (kMove (.tmp 0)) (oVal (.tmp 44) (kMove (.tmp 1)) (oVal (.tmp 45) (kMove (.tmp 2)) (oCall (.tmp 46) (.con (.func 75 [] [])) [(.tmp 43),(.tmp 44),(.tmp 45)] (oVal (.tmp 42) (kMove (.tmp 46)) (oVal (.tmp 47) (kUn (extA 0) (.tmp 42)) (oVal (.tmp 48) (kUn (extA 1) (.tmp 42)) (oVal (.tmp 11) (kMove (.tmp 47)) (oVal (.tmp 12) (kMove (.tmp 48)) oNil)))))))))
def K58r11:OpsF:=(oVal (.tmp 49) (kMove (.tmp 12)) (oVal (.tmp 50) (kInt aEql (.tmp 49) (.con (.int .i64 2))) oNil))
def K58r12:OpsF:=(oVal (.tmp 51) (kMove (.tmp 0)) (oVal (.tmp 52) (kMove (.tmp 1)) (oVal (.tmp 53) (kMove (.tmp 2)) (oCall (.tmp 54) (.con (.func 76 [] [])) [(.tmp 51),(.tmp 52),(.tmp 53)] oNil))))
def K58r13:OpsF:=(oVal (.tmp 55) (kMove (.tmp 2)) (oVal (.tmp 56) (kInt aSub (.tmp 55) (.con (.int .i64 1))) (oVal (.tmp 57) (kMove (.tmp 11)) (oVal (.tmp 58) (kMove (.tmp 1)) (oVal (.tmp 59) (kInt aSub (.tmp 57) (.tmp 58)) (oVal (.tmp 60) (kInt aSub (.tmp 56) (.tmp 59)) (oVal (.tmp 11) (kMove (.tmp 60)) oNil)))))))
def K58r14:OpsF:=(oVal (.tmp 12) (kMove (.con (.int .i64 1))) oNil)
def K58r15s7:OpsF:=(oVal (.tmp 68) (kPick (.tmp 65) (.tmp 67) (.con (.bool false))) oNil)
def K58r15s6:OpsF:=(oIf 65 true (oVal (.tmp 67) (kInt aEql (.tmp 66) (.con (.int .i64 1))) K58r15s7) (oSkip (.tmp 67) K58r15s7))
def K58r15s3:OpsF:=(oVal (.tmp 64) (kPick (.tmp 62) (.tmp 63) (.con (.bool false))) (oVal (.tmp 65) (kMove (.tmp 64)) (oIf 65 true (oVal (.tmp 66) (kMove (.tmp 12)) K58r15s6) (oSkip (.tmp 66) K58r15s6))))
def K58r15:OpsF:=(oVal (.tmp 61) (kMove (.tmp 8)) (oVal (.tmp 62) (kMove (.tmp 61)) (oIf 62 true (oVal (.tmp 63) (kMove (.tmp 9)) K58r15s3) (oSkip (.tmp 63) K58r15s3))))
def K58r16:OpsF:=(oVal (.tmp 69) (kMove (.tmp 0)) (oVal (.tmp 70) (kMove (.tmp 1)) (oVal (.tmp 71) (kMove (.tmp 2)) (oCall (.tmp 72) (.con (.func 77 [] [])) [(.tmp 69),(.tmp 70),(.tmp 71)] oNil))))
def K58r17s14:OpsF:=(oVal (.tmp 87) (kPick (.tmp 75) (.tmp 86) (.con (.bool false))) oNil)
def K58r17s13:OpsF:=(oIf 75 true (oVal (.tmp 86) (kUn notA (.tmp 85)) K58r17s14) (oSkip (.tmp 86) K58r17s14))
def K58r17s12:OpsF:=(oIf 75 true (oCall (.tmp 85) (.con (.func 78 [] [])) [(.tmp 80),(.tmp 84)] K58r17s13) (oSkip (.tmp 85) K58r17s13))
def K58r17s11:OpsF:=(oIf 75 true (oVal (.tmp 84) (kLoad none (.tmp 83)) K58r17s12) (oSkip (.tmp 84) K58r17s12))
def K58r17s10:OpsF:=(oIf 75 true (oVal (.tmp 83) (kTwo (ixsA 1) (.tmp 81) (.tmp 82)) K58r17s11) (oSkip (.tmp 83) K58r17s11))
def K58r17s9:OpsF:=(oIf 75 true (oVal (.tmp 82) (kMove (.tmp 11)) K58r17s10) (oSkip (.tmp 82) K58r17s10))
def K58r17s8:OpsF:=(oIf 75 true (oVal (.tmp 81) (kMove (.tmp 0)) K58r17s9) (oSkip (.tmp 81) K58r17s9))
def K58r17s7:OpsF:=(oIf 75 true (oVal (.tmp 80) (kLoad none (.tmp 79)) K58r17s8) (oSkip (.tmp 80) K58r17s8))
def K58r17s6:OpsF:=(oIf 75 true (oVal (.tmp 79) (kTwo (ixsA 1) (.tmp 76) (.tmp 78)) K58r17s7) (oSkip (.tmp 79) K58r17s7))
def K58r17s5:OpsF:=(oIf 75 true (oVal (.tmp 78) (kInt aSub (.tmp 77) (.con (.int .i64 1))) K58r17s6) (oSkip (.tmp 78) K58r17s6))
def K58r17s4:OpsF:=(oIf 75 true (oVal (.tmp 77) (kMove (.tmp 1)) K58r17s5) (oSkip (.tmp 77) K58r17s5))
def K58r17:OpsF:=(oEnd [] (oVal (.tmp 73) (kMove (.tmp 1)) (oVal (.tmp 74) (kGtr (.tmp 73) (.con (.int .i64 0))) (oVal (.tmp 75) (kMove (.tmp 74)) (oIf 75 true (oVal (.tmp 76) (kMove (.tmp 0)) K58r17s4) (oSkip (.tmp 76) K58r17s4))))))
def K58r18:OpsF:=(oVal (.tmp 88) (kMove (.tmp 0)) (oVal (.tmp 89) (kMove (.tmp 1)) (oVal (.tmp 90) (kMove (.tmp 2)) (oVal (.tmp 91) (kMove (.tmp 11)) (oCall (.tmp 92) (.con (.func 79 [] [])) [(.tmp 88),(.tmp 89),(.tmp 90),(.tmp 91)] (oVal (.tmp 13) (kMove (.tmp 92)) oNil))))))
def K58r19:OpsF:=(oVal (.tmp 93) (kMove (.tmp 13)) (oVal (.tmp 1) (kMove (.tmp 93)) oNil))
def K58r20:OpsF:=(oVal (.tmp 95) (kMove (.tmp 0)) (oVal (.tmp 96) (kMove (.tmp 1)) (oVal (.tmp 97) (kMove (.tmp 2)) (oVal (.tmp 98) (kMove (.tmp 11)) (oCall (.tmp 99) (.con (.func 80 [] [])) [(.tmp 95),(.tmp 96),(.tmp 97),(.tmp 98)] (oVal (.tmp 94) (kMove (.tmp 99)) (oVal (.tmp 100) (kUn (extA 0) (.tmp 94)) (oVal (.tmp 101) (kUn (extA 1) (.tmp 94)) (oVal (.tmp 14) (kMove (.tmp 100)) (oVal (.tmp 15) (kMove (.tmp 101)) oNil))))))))))
def K58r21:OpsF:=(oVal (.tmp 102) (kMove (.tmp 15)) (oVal (.tmp 9) (kMove (.tmp 102)) oNil))
def K58r22:OpsF:=(oVal (.tmp 103) (kMove (.tmp 14)) (oVal (.tmp 104) (kMove (.tmp 1)) (oVal (.tmp 105) (kInt aSub (.tmp 103) (.tmp 104)) (oVal (.tmp 106) (kMove (.tmp 2)) (oVal (.tmp 107) (kMove (.tmp 14)) (oVal (.tmp 108) (kInt aSub (.tmp 106) (.tmp 107)) (oVal (.tmp 16) (kMove (.tmp 105)) (oVal (.tmp 17) (kMove (.tmp 108)) oNil))))))))
def K58r23:OpsF:=(oVal (.tmp 109) (kMove (.tmp 10)) (oVal (.tmp 110) (kInt aQuo (.tmp 109) (.con (.int .i64 8))) (oVal (.tmp 18) (kMove (.tmp 110)) oNil)))
def K58r24:OpsF:=(oVal (.tmp 111) (kMove (.tmp 16)) (oVal (.tmp 112) (kMove (.tmp 17)) (oVal (.tmp 113) (kInt aLss (.tmp 111) (.tmp 112)) oNil)))
def K58r25:OpsF:=(oVal (.tmp 114) (kMove (.tmp 16)) (oVal (.tmp 115) (kMove (.tmp 18)) (oVal (.tmp 116) (kInt aGeq (.tmp 114) (.tmp 115)) (oVal (.tmp 8) (kMove (.tmp 116)) oNil))))
def K58r26:OpsF:=(oVal (.tmp 117) (kMove (.tmp 0)) (oVal (.tmp 118) (kMove (.tmp 1)) (oVal (.tmp 119) (kMove (.tmp 14)) (oVal (.tmp 120) (kMove (.tmp 3)) (oCall (.tmp 121) (.con (.func 58 [] [])) [(.tmp 117),(.tmp 118),(.tmp 119),(.tmp 120)] oNil)))))
def K58r27:OpsF:=(oVal (.tmp 122) (kMove (.tmp 14)) (oVal (.tmp 123) (kInt aAdd (.tmp 122) (.con (.int .i64 1))) (oVal (.tmp 1) (kMove (.tmp 123)) oNil)))
def K58r28:OpsF:=(oVal (.tmp 124) (kMove (.tmp 17)) (oVal (.tmp 125) (kMove (.tmp 18)) (oVal (.tmp 126) (kInt aGeq (.tmp 124) (.tmp 125)) (oVal (.tmp 8) (kMove (.tmp 126)) oNil))))
def K58r29:OpsF:=(oVal (.tmp 127) (kMove (.tmp 0)) (oVal (.tmp 128) (kMove (.tmp 14)) (oVal (.tmp 129) (kInt aAdd (.tmp 128) (.con (.int .i64 1))) (oVal (.tmp 130) (kMove (.tmp 2)) (oVal (.tmp 131) (kMove (.tmp 3)) (oCall (.tmp 132) (.con (.func 58 [] [])) [(.tmp 127),(.tmp 129),(.tmp 130),(.tmp 131)] oNil))))))
def K58r30:OpsF:=(oVal (.tmp 133) (kMove (.tmp 14)) (oVal (.tmp 2) (kMove (.tmp 133)) oNil))
def K58l0:K:=(kBlock 1 (kSeq (kRegion K58r2 [10]) (kSeq (kSeq (kRegion K58r3 [23]) (kCond (.tmp 23) (kSeq (kRegion K58r4 []) kRet) kSkip)) (kSeq (kSeq (kRegion K58r5 [29]) (kCond (.tmp 29) (kSeq (kRegion K58r6 []) kRet) kSkip)) (kSeq (kSeq (kRegion K58r7 [35]) (kCond (.tmp 35) (kSeq (kRegion K58r8 []) (kRegion K58r9 [3])) kSkip)) (kSeq (kRegion K58r10 [11,12]) (kSeq (kSeq (kRegion K58r11 [50]) (kCond (.tmp 50) (kSeq (kRegion K58r12 []) (kSeq (kRegion K58r13 [11]) (kRegion K58r14 [12]))) kSkip)) (kSeq (kSeq (kRegion K58r15 [68]) (kCond (.tmp 68) (kSeq (kRegion K58r16 [72]) (kCond (.tmp 72) kRet kSkip)) kSkip)) (kSeq (kSeq (kRegionD K58r17 [87]) (kCond (.tmp 87) (kSeq (kRegion K58r18 [13]) (kSeq (kRegion K58r19 [1]) (kExit 1))) kSkip)) (kSeq (kRegion K58r20 [14,15]) (kSeq (kRegion K58r21 [9]) (kSeq (kRegion K58r22 [16,17]) (kSeq (kRegion K58r23 [18]) (kSeq (kRegion K58r24 [113]) (kCond (.tmp 113) (kSeq (kRegion K58r25 [8]) (kSeq (kRegion K58r26 []) (kRegion K58r27 [1]))) (kSeq (kRegion K58r28 [8]) (kSeq (kRegion K58r29 []) (kRegion K58r30 [2]))))))))))))))))))
theorem res58:Try.f58.results.toList=[]:=by kernel_rfl
def K58:K:=(kSeq (kRegion K58r0 [8]) (kSeq (kRegion K58r1 [9]) (kBlock 0 (kLoop K58l0))))
theorem enter58 (cl:CallF) (a0 a1 a2 a3:AV) (s:St):enterA Try.prog X cl 58 [a0,a1,a2,a3] s Try.f58=finA Try.prog Try.f58 (K58 cl ⟨58,none,Try.f58.ntmps,X 58⟩ (paramsEnv 0 [a0,a1,a2,a3] .nil) [] s) :=
  enterA_eq (b:=Try.f58.body.getD .skip) (by kernel_rfl) (by kernel_rfl) (by kernel_rfl) (by kernel_rfl) (by kernel_rfl)
def K72r0:OpsF:=(oVal (.tmp 8) (kMove (.tmp 1)) (oVal (.tmp 9) (kInt aAdd (.tmp 8) (.con (.int .i64 1))) (oVal (.tmp 6) (kMove (.tmp 9)) oNil)))
def K72r1:OpsF:=(oVal (.tmp 10) (kMove (.tmp 6)) (oVal (.tmp 11) (kMove (.tmp 2)) (oVal (.tmp 12) (kInt aLss (.tmp 10) (.tmp 11)) oNil)))
def K72r2:OpsF:=(oVal (.tmp 15) (kMove (.tmp 6)) (oVal (.tmp 7) (kMove (.tmp 15)) oNil))
def K72r3s14:OpsF:=(oVal (.tmp 30) (kPick (.tmp 19) (.tmp 29) (.con (.bool false))) oNil)
def K72r3s13:OpsF:=(oIf 19 true (oCall (.tmp 29) (.con (.func 78 [] [])) [(.tmp 23),(.tmp 28)] K72r3s14) (oSkip (.tmp 29) K72r3s14))
def K72r3s12:OpsF:=(oIf 19 true (oVal (.tmp 28) (kLoad none (.tmp 27)) K72r3s13) (oSkip (.tmp 28) K72r3s13))
def K72r3s11:OpsF:=(oIf 19 true (oVal (.tmp 27) (kTwo (ixsA 1) (.tmp 24) (.tmp 26)) K72r3s12) (oSkip (.tmp 27) K72r3s12))
def K72r3s10:OpsF:=(oIf 19 true (oVal (.tmp 26) (kInt aSub (.tmp 25) (.con (.int .i64 1))) K72r3s11) (oSkip (.tmp 26) K72r3s11))
def K72r3s9:OpsF:=(oIf 19 true (oVal (.tmp 25) (kMove (.tmp 7)) K72r3s10) (oSkip (.tmp 25) K72r3s10))
def K72r3s8:OpsF:=(oIf 19 true (oVal (.tmp 24) (kMove (.tmp 0)) K72r3s9) (oSkip (.tmp 24) K72r3s9))
def K72r3s7:OpsF:=(oIf 19 true (oVal (.tmp 23) (kLoad none (.tmp 22)) K72r3s8) (oSkip (.tmp 23) K72r3s8))
def K72r3s6:OpsF:=(oIf 19 true (oVal (.tmp 22) (kTwo (ixsA 1) (.tmp 20) (.tmp 21)) K72r3s7) (oSkip (.tmp 22) K72r3s7))
def K72r3s5:OpsF:=(oIf 19 true (oVal (.tmp 21) (kMove (.tmp 7)) K72r3s6) (oSkip (.tmp 21) K72r3s6))
def K72r3:OpsF:=(oEnd [] (oVal (.tmp 16) (kMove (.tmp 7)) (oVal (.tmp 17) (kMove (.tmp 1)) (oVal (.tmp 18) (kGtr (.tmp 16) (.tmp 17)) (oVal (.tmp 19) (kMove (.tmp 18)) (oIf 19 true (oVal (.tmp 20) (kMove (.tmp 0)) K72r3s5) (oSkip (.tmp 20) K72r3s5)))))))
def K72r4:OpsF:=(oEnd [] (oVal (.tmp 33) (kMove (.tmp 0)) (oVal (.tmp 34) (kMove (.tmp 7)) (oVal (.tmp 35) (kMove (.tmp 0)) (oVal (.tmp 36) (kMove (.tmp 7)) (oVal (.tmp 37) (kInt aSub (.tmp 36) (.con (.int .i64 1))) (oVal (.tmp 38) (kMove (.tmp 0)) (oVal (.tmp 39) (kMove (.tmp 7)) (oVal (.tmp 40) (kInt aSub (.tmp 39) (.con (.int .i64 1))) (oVal (.tmp 41) (kTwo (ixsA 1) (.tmp 38) (.tmp 40)) (oVal (.tmp 42) (kLoad none (.tmp 41)) (oVal (.tmp 43) (kMove (.tmp 0)) (oVal (.tmp 44) (kMove (.tmp 7)) (oVal (.tmp 45) (kTwo (ixsA 1) (.tmp 43) (.tmp 44)) (oVal (.tmp 46) (kLoad none (.tmp 45)) (oVal (.tmp 47) (kTwo (ixsA 1) (.tmp 33) (.tmp 34)) (oVal .none (kStore 1 (.tmp 47) (.tmp 42)) (oVal (.tmp 48) (kTwo (ixsA 1) (.tmp 35) (.tmp 37)) (oVal .none (kStore 1 (.tmp 48) (.tmp 46)) oNil)))))))))))))))))))
def K72r5:OpsF:=(oVal (.tmp 31) (kMove (.tmp 7)) (oVal (.tmp 32) (kInt aSub (.tmp 31) (.con (.int .i64 1))) (oVal (.tmp 7) (kMove (.tmp 32)) oNil)))
def K72l0:K:=(kSeq (kSeq (kRegionD K72r3 [30]) (kCond (.tmp 30) kSkip (kExit 2))) (kSeq (kBlock 3 (kRegionD K72r4 [])) (kRegion K72r5 [7])))
def K72r6:OpsF:=(oVal (.tmp 13) (kMove (.tmp 6)) (oVal (.tmp 14) (kInt aAdd (.tmp 13) (.con (.int .i64 1))) (oVal (.tmp 6) (kMove (.tmp 14)) oNil)))
def K72l1:K:=(kSeq (kSeq (kRegion K72r1 [12]) (kCond (.tmp 12) kSkip (kExit 0))) (kSeq (kBlock 1 (kSeq (kRegion K72r2 [7]) (kBlock 2 (kLoop K72l0)))) (kRegion K72r6 [6])))
theorem res72:Try.f72.results.toList=[]:=by kernel_rfl
def K72:K:=(kSeq (kRegion K72r0 [6]) (kBlock 0 (kLoop K72l1)))
theorem enter72 (cl:CallF) (a0 a1 a2:AV) (s:St):enterA Try.prog X cl 72 [a0,a1,a2] s Try.f72=finA Try.prog Try.f72 (K72 cl ⟨72,none,Try.f72.ntmps,X 72⟩ (paramsEnv 0 [a0,a1,a2] .nil) [] s) :=
  enterA_eq (b:=Try.f72.body.getD .skip) (by kernel_rfl) (by kernel_rfl) (by kernel_rfl) (by kernel_rfl) (by kernel_rfl)
def K78r0:OpsF:=(oVal (.tmp 4) (kMove (.con (.bool false))) oNil)
def K78r1s11:OpsF:=(oVal (.tmp 16) (kPick (.tmp 12) (.con (.bool true)) (.tmp 15)) (oVal (.tmp 4) (kMove (.tmp 16)) oNil))
def K78r1s10:OpsF:=(oIf 12 false (oVal (.tmp 15) (kInt aLss (.tmp 13) (.tmp 14)) K78r1s11) (oSkip (.tmp 15) K78r1s11))
def K78r1s9:OpsF:=(oIf 12 false (oVal (.tmp 14) (kMove (.tmp 1)) K78r1s10) (oSkip (.tmp 14) K78r1s10))
def K78r1s6:OpsF:=(oVal (.tmp 11) (kPick (.tmp 7) (.tmp 10) (.con (.bool false))) (oVal (.tmp 12) (kMove (.tmp 11)) (oIf 12 false (oVal (.tmp 13) (kMove (.tmp 0)) K78r1s9) (oSkip (.tmp 13) K78r1s9))))
def K78r1s5:OpsF:=(oIf 7 true (oVal (.tmp 10) (kUn notA (.tmp 9)) K78r1s6) (oSkip (.tmp 10) K78r1s6))
def K78r1s4:OpsF:=(oIf 7 true (oCall (.tmp 9) (.con (.func 93 [] [])) [(.tmp 8)] K78r1s5) (oSkip (.tmp 9) K78r1s5))
def K78r1:OpsF:=(oVal (.tmp 5) (kMove (.tmp 0)) (oCall (.tmp 6) (.con (.func 93 [] [])) [(.tmp 5)] (oVal (.tmp 7) (kMove (.tmp 6)) (oIf 7 true (oVal (.tmp 8) (kMove (.tmp 1)) K78r1s4) (oSkip (.tmp 8) K78r1s4)))))
theorem res78:Try.f78.results.toList=[.tmp 4]:=by kernel_rfl
def K78:K:=(kSeq (kRegion K78r0 [4]) (kSeq (kRegion K78r1 [4]) kRet))
theorem enter78 (cl:CallF) (a0 a1:AV) (s:St):enterA Try.prog X cl 78 [a0,a1] s Try.f78=finA Try.prog Try.f78 (K78 cl ⟨78,none,Try.f78.ntmps,X 78⟩ (paramsEnv 0 [a0,a1] .nil) [] s) :=
  enterA_eq (b:=Try.f78.body.getD .skip) (by kernel_rfl) (by kernel_rfl) (by kernel_rfl) (by kernel_rfl) (by kernel_rfl)
def K93r0:OpsF:=(oVal (.tmp 2) (kMove (.con (.bool false))) oNil)
def K93r1:OpsF:=(oVal (.tmp 3) (kMove (.tmp 0)) (oVal (.tmp 4) (kMove (.tmp 0)) (oVal (.tmp 5) (kInt aNeq (.tmp 3) (.tmp 4)) (oVal (.tmp 2) (kMove (.tmp 5)) oNil))))
theorem res93:Try.f93.results.toList=[.tmp 2]:=by kernel_rfl
def K93:K:=(kSeq (kRegion K93r0 [2]) (kSeq (kRegion K93r1 [2]) kRet))
theorem enter93 (cl:CallF) (a0:AV) (s:St):enterA Try.prog X cl 93 [a0] s Try.f93=finA Try.prog Try.f93 (K93 cl ⟨93,none,Try.f93.ntmps,X 93⟩ (paramsEnv 0 [a0] .nil) [] s) :=
  enterA_eq (b:=Try.f93.body.getD .skip) (by kernel_rfl) (by kernel_rfl) (by kernel_rfl) (by kernel_rfl) (by kernel_rfl)
end
end Go.Proofs.Ythbhjgbpjlnbcaa.code
set_option maxRecDepth 100000
namespace Go.Proofs.Ythbhjgbpjlnbcaa.code
open Go.Abs
noncomputable section
def K82r0:OpsF:=(oVal (.tmp 2) (kMove (.con (.int .i64 0))) oNil)
def K82r1:OpsF:=(oVal (.tmp 3) (kMove (.tmp 0)) (oVal (.tmp 4) (kInt aGeq (.tmp 3) (.con (.int .u64 4294967296))) oNil))
def K82r2:OpsF:=(oVal (.tmp 5) (kMove (.tmp 0)) (oVal (.tmp 6) (kShr (.tmp 5) (.con (.int .u64 32))) (oVal (.tmp 0) (kMove (.tmp 6)) oNil)))
def K82r3:OpsF:=(oVal (.tmp 2) (kMove (.con (.int .i64 32))) oNil)
def K82r4:OpsF:=(oVal (.tmp 7) (kMove (.tmp 0)) (oVal (.tmp 8) (kInt aGeq (.tmp 7) (.con (.int .u64 65536))) oNil))
def K82r5:OpsF:=(oVal (.tmp 9) (kMove (.tmp 0)) (oVal (.tmp 10) (kShr (.tmp 9) (.con (.int .u64 16))) (oVal (.tmp 0) (kMove (.tmp 10)) oNil)))
def K82r6:OpsF:=(oVal (.tmp 11) (kMove (.tmp 2)) (oVal (.tmp 12) (kInt aAdd (.tmp 11) (.con (.int .i64 16))) (oVal (.tmp 2) (kMove (.tmp 12)) oNil)))
def K82r7:OpsF:=(oVal (.tmp 13) (kMove (.tmp 0)) (oVal (.tmp 14) (kInt aGeq (.tmp 13) (.con (.int .u64 256))) oNil))
def K82r8:OpsF:=(oVal (.tmp 15) (kMove (.tmp 0)) (oVal (.tmp 16) (kShr (.tmp 15) (.con (.int .u64 8))) (oVal (.tmp 0) (kMove (.tmp 16)) oNil)))
def K82r9:OpsF:=(oVal (.tmp 17) (kMove (.tmp 2)) (oVal (.tmp 18) (kInt aAdd (.tmp 17) (.con (.int .i64 8))) (oVal (.tmp 2) (kMove (.tmp 18)) oNil)))
def K82r10:OpsF:=(oVal (.tmp 19) (kMove (.tmp 2)) (oVal (.tmp 20) (kMove (.tmp 0)) (oVal (.tmp 21) (kUn (cviA .u8) (.tmp 20)) (oVal (.tmp 22) (kTwo insA (.con (.str ⟨#[0,1,2,2,3,3,3,3,4,4,4,4,4,4,4,4,5,5,5,5,5,5,5,5,5,5,5,5,5,5,5,5,6,6,6,6,6,6,6,6,6,6,6,6,6,6,6,6,6,6,6,6,6,6,6,6,6,6,6,6,6,6,6,6,7,7,7,7,7,7,7,7,7,7,7,7,7,7,7,7,7,7,7,7,7,7,7,7,7,7,7,7,7,7,7,7,7,7,7,7,7,7,7,7,7,7,7,7,7,7,7,7,7,7,7,7,7,7,7,7,7,7,7,7,7,7,7,7,8,8,8,8,8,8,8,8,8,8,8,8,8,8,8,8,8,8,8,8,8,8,8,8,8,8,8,8,8,8,8,8,8,8,8,8,8,8,8,8,8,8,8,8,8,8,8,8,8,8,8,8,8,8,8,8,8,8,8,8,8,8,8,8,8,8,8,8,8,8,8,8,8,8,8,8,8,8,8,8,8,8,8,8,8,8,8,8,8,8,8,8,8,8,8,8,8,8,8,8,8,8,8,8,8,8,8,8,8,8,8,8,8,8,8,8,8,8,8,8,8,8,8,8,8,8,8,8]⟩)) (.tmp 21)) (oVal (.tmp 23) (kUn (cviA .i64) (.tmp 22)) (oVal (.tmp 24) (kInt aAdd (.tmp 19) (.tmp 23)) (oVal (.tmp 2) (kMove (.tmp 24)) oNil)))))))
def K82:K:=(kSeq (kRegion K82r0 [2]) (kSeq (kSeq (kRegion K82r1 [4]) (kCond (.tmp 4) (kSeq (kRegion K82r2 [0]) (kRegion K82r3 [2])) kSkip)) (kSeq (kSeq (kRegion K82r4 [8]) (kCond (.tmp 8) (kSeq (kRegion K82r5 [0]) (kRegion K82r6 [2])) kSkip)) (kSeq (kSeq (kRegion K82r7 [14]) (kCond (.tmp 14) (kSeq (kRegion K82r8 [0]) (kRegion K82r9 [2])) kSkip)) (kSeq (kRegion K82r10 [2]) kRet)))))
theorem enter82 (cl:CallF) (a0:AV) (s:St):enterA Try.prog X cl 82 [a0] s Try.f82=finA Try.prog Try.f82 (K82 cl ⟨82,none,Try.f82.ntmps,X 82⟩ (paramsEnv 0 [a0] .nil) [] s) :=
  enterA_eq (b:=Try.f82.body.getD .skip) (by kernel_rfl) (by kernel_rfl) (by kernel_rfl) (by kernel_rfl) (by kernel_rfl)
end
end Go.Proofs.Ythbhjgbpjlnbcaa.code
set_option maxRecDepth 100000
namespace Go.Proofs.Ythbhjgbpjlnbcaa.code
open Go.Abs
noncomputable section
def K23r0:OpsF:=(oVal (.tmp 3) (kBox (tag 28) (.tmp 0)) (oVal (.tmp 6) (kMove (.con (.int .i64 0))) oNil))
def K23r1:OpsF:=(oVal (.tmp 7) (kMove (.con (.int .i64 0))) oNil)
def K23r2:OpsF:=(oVal (.tmp 8) (kMove (.tmp 7)) (oVal (.tmp 9) (kMove (.tmp 1)) (oVal (.tmp 10) (kUn lenSlA (.tmp 9)) (oVal (.tmp 11) (kInt aLss (.tmp 8) (.tmp 10)) oNil))))
def K23r3:OpsF:=(oVal (.tmp 14) (kMove (.tmp 1)) (oVal (.tmp 15) (kMove (.tmp 7)) (oVal (.tmp 16) (kTwo (ixsA 1) (.tmp 14) (.tmp 15)) (oVal (.tmp 17) (kLoad none (.tmp 16)) (oVal (.tmp 18) (kMove (.tmp 2)) (oVal (.tmp 19) (kInt aEql (.tmp 17) (.tmp 18)) oNil))))))
def K23r4:OpsF:=(oVal (.tmp 20) (kUn (fadA 1) (.tmp 3)) (oVal (.tmp 21) (kLoad none (.tmp 20)) (oVal (.tmp 22) (kMove (.tmp 2)) (oVal (.tmp 23) (kTwo (ixsA 4) (.tmp 21) (.tmp 22)) (oVal (.tmp 24) (kLoad (some 4) (.tmp 23)) (oVal (.tmp 25) (kMove (.tmp 7)) (oCall (.tmp 26) (.con (.func 30 [] [])) [(.tmp 24),(.tmp 25)] (oVal (.tmp 6) (kMove (.tmp 26)) oNil))))))))
def K23r5:OpsF:=(oVal (.tmp 12) (kMove (.tmp 7)) (oVal (.tmp 13) (kInt aAdd (.tmp 12) (.con (.int .i64 1))) (oVal (.tmp 7) (kMove (.tmp 13)) oNil)))
def K23l0:K:=(kSeq (kSeq (kRegion K23r2 [11]) (kCond (.tmp 11) kSkip (kExit 0))) (kSeq (kBlock 1 (kSeq (kRegion K23r3 [19]) (kCond (.tmp 19) (kSeq (kRegion K23r4 [6]) kRet) kSkip))) (kRegion K23r5 [7])))
def K23r6:OpsF:=(oVal (.tmp 27) (kUn (fadA 1) (.tmp 3)) (oVal (.tmp 28) (kLoad none (.tmp 27)) (oVal (.tmp 29) (kMove (.tmp 2)) (oVal (.tmp 30) (kTwo (ixsA 4) (.tmp 28) (.tmp 29)) (oVal (.tmp 31) (kUn (fadA 2) (.tmp 30)) (oVal (.tmp 32) (kLoad none (.tmp 31)) (oVal (.tmp 33) (kUn lenSlA (.tmp 32)) (oVal (.tmp 6) (kMove (.tmp 33)) oNil))))))))
theorem res23:Try.f23.results.toList=[.tmp 6]:=by kernel_rfl
def K23:K:=(kSeq (kRegion K23r0 [3,6]) (kSeq (kSeq (kRegion K23r1 [7]) (kBlock 0 (kLoop K23l0))) (kSeq (kRegion K23r6 [6]) kRet)))
theorem enter23 (cl:CallF) (a0 a1 a2:AV) (s:St):enterA Try.prog X cl 23 [a0,a1,a2] s Try.f23=finA Try.prog Try.f23 (K23 cl ⟨23,none,Try.f23.ntmps,X 23⟩ (paramsEnv 0 [a0,a1,a2] .nil) [] s) :=
  enterA_eq (b:=Try.f23.body.getD .skip) (by kernel_rfl) (by kernel_rfl) (by kernel_rfl) (by kernel_rfl) (by kernel_rfl)
def K30r0:OpsF:=(oVal (.tmp 2) (kBox (tag 37) (.tmp 0)) (oVal (.tmp 4) (kMove (.con (.int .i64 0))) oNil))
def K30r1:OpsF:=(oVal (.tmp 5) (kMove (.con (.int .i64 0))) oNil)
def K30r2:OpsF:=(oVal (.tmp 6) (kMove (.tmp 5)) (oVal (.tmp 7) (kUn (fadA 2) (.tmp 2)) (oVal (.tmp 8) (kLoad none (.tmp 7)) (oVal (.tmp 9) (kUn lenSlA (.tmp 8)) (oVal (.tmp 10) (kInt aLss (.tmp 6) (.tmp 9)) oNil)))))
def K30r3:OpsF:=(oVal (.tmp 13) (kUn (fadA 2) (.tmp 2)) (oVal (.tmp 14) (kLoad none (.tmp 13)) (oVal (.tmp 15) (kMove (.tmp 5)) (oVal (.tmp 16) (kTwo (ixsA 1) (.tmp 14) (.tmp 15)) (oVal (.tmp 17) (kLoad none (.tmp 16)) (oVal (.tmp 18) (kMove (.tmp 1)) (oVal (.tmp 19) (kInt aEql (.tmp 17) (.tmp 18)) oNil)))))))
def K30r4:OpsF:=(oVal (.tmp 20) (kMove (.tmp 5)) (oVal (.tmp 4) (kMove (.tmp 20)) oNil))
def K30r5:OpsF:=(oVal (.tmp 11) (kMove (.tmp 5)) (oVal (.tmp 12) (kInt aAdd (.tmp 11) (.con (.int .i64 1))) (oVal (.tmp 5) (kMove (.tmp 12)) oNil)))
def K30l0:K:=(kSeq (kSeq (kRegion K30r2 [10]) (kCond (.tmp 10) kSkip (kExit 0))) (kSeq (kBlock 1 (kSeq (kRegion K30r3 [19]) (kCond (.tmp 19) (kSeq (kRegion K30r4 [4]) kRet) kSkip))) (kRegion K30r5 [5])))
def K30r6:OpsF:=(oVal (.tmp 21) (kUn (fadA 2) (.tmp 2)) (oVal (.tmp 22) (kLoad none (.tmp 21)) (oVal (.tmp 23) (kUn lenSlA (.tmp 22)) (oVal (.tmp 4) (kMove (.tmp 23)) oNil))))
theorem res30:Try.f30.results.toList=[.tmp 4]:=by kernel_rfl
def K30:K:=(kSeq (kRegion K30r0 [2,4]) (kSeq (kSeq (kRegion K30r1 [5]) (kBlock 0 (kLoop K30l0))) (kSeq (kRegion K30r6 [4]) kRet)))
theorem enter30 (cl:CallF) (a0 a1:AV) (s:St):enterA Try.prog X cl 30 [a0,a1] s Try.f30=finA Try.prog Try.f30 (K30 cl ⟨30,none,Try.f30.ntmps,X 30⟩ (paramsEnv 0 [a0,a1] .nil) [] s) :=
  enterA_eq (b:=Try.f30.body.getD .skip) (by kernel_rfl) (by kernel_rfl) (by kernel_rfl) (by kernel_rfl) (by kernel_rfl)
def K28r0:OpsF:=(oVal (.tmp 2) (kMove (.con .nilslice)) oNil)
def K28r1:OpsF:=(oVal (.tmp 3) (kBuildSlice [] 0 []) (oVal (.tmp 4) (kMove (.tmp 0)) (oVal (.tmp 5) (kTwo (appendA false 1 8 (tag 3)) (.tmp 3) (.tmp 4)) (oVal (.tmp 2) (kMove (.tmp 5)) oNil))))
theorem res28:Try.f28.results.toList=[.tmp 2]:=by kernel_rfl
def K28:K:=(kSeq (kRegion K28r0 [2]) (kSeq (kRegion K28r1 [2]) kRet))
theorem enter28 (cl:CallF) (a0:AV) (s:St):enterA Try.prog X cl 28 [a0] s Try.f28=finA Try.prog Try.f28 (K28 cl ⟨28,none,Try.f28.ntmps,X 28⟩ (paramsEnv 0 [a0] .nil) [] s) :=
  enterA_eq (b:=Try.f28.body.getD .skip) (by kernel_rfl) (by kernel_rfl) (by kernel_rfl) (by kernel_rfl) (by kernel_rfl)
end
end Go.Proofs.Ythbhjgbpjlnbcaa.code
set_option maxRecDepth 100000
namespace Go.Proofs.Ythbhjgbpjlnbcaa.code
open Go.Abs
noncomputable section
def K19r0:OpsF:=(oVal (.tmp 3) (kBox (tag 28) (.tmp 0)) (oVal (.tmp 6) (kMove (.con (.bool false))) oNil))
def K19r1:OpsF:=(oVal (.tmp 9) (kUn (fadA 1) (.tmp 3)) (oVal (.tmp 10) (kLoad none (.tmp 9)) (oVal (.tmp 11) (kMove (.tmp 1)) (oVal (.tmp 12) (kTwo (ixsA 4) (.tmp 10) (.tmp 11)) (oVal (.tmp 13) (kLoad (some 4) (.tmp 12)) (oVal (.tmp 7) (kAlloc [(.int .i64 0),(.int .i64 0),.nilslice,.nilslice] (tag 37)) (oVal .none (kStore 4 (.tmp 7) (.tmp 13)) oNil)))))))
def K19r2:OpsF:=(oVal (.tmp 14) (kLoad (some 4) (.tmp 7)) (oVal (.tmp 15) (kMove (.tmp 2)) (oCall (.tmp 16) (.con (.func 30 [] [])) [(.tmp 14),(.tmp 15)] (oVal (.tmp 8) (kMove (.tmp 16)) oNil))))
def K19r3s27:OpsF:=(oVal (.tmp 44) (kPick (.tmp 22) (.tmp 43) (.con (.bool false))) (oVal (.tmp 6) (kMove (.tmp 44)) oNil))
def K19r3s26:OpsF:=(oIf 22 true (oVal (.tmp 43) (kPick (.tmp 30) (.con (.bool true)) (.tmp 42)) K19r3s27) (oSkip (.tmp 43) K19r3s27))
def K19r3s25:OpsF:=(oIf 30 false (oVal (.tmp 42) (kInt aGeq (.tmp 35) (.tmp 41)) K19r3s26) (oSkip (.tmp 42) K19r3s26))
def K19r3s24:OpsF:=(oIf 30 false (oVal (.tmp 41) (kLoad none (.tmp 40)) K19r3s25) (oSkip (.tmp 41) K19r3s25))
def K19r3s23:OpsF:=(oIf 30 false (oVal (.tmp 40) (kUn (fadA 1) (.tmp 39)) K19r3s24) (oSkip (.tmp 40) K19r3s24))
def K19r3s22:OpsF:=(oIf 30 false (oVal (.tmp 39) (kTwo (ixsA 3) (.tmp 37) (.tmp 38)) K19r3s23) (oSkip (.tmp 39) K19r3s23))
def K19r3s21:OpsF:=(oIf 30 false (oVal (.tmp 38) (kMove (.tmp 2)) K19r3s22) (oSkip (.tmp 38) K19r3s22))
def K19r3s20:OpsF:=(oIf 30 false (oVal (.tmp 37) (kLoad none (.tmp 36)) K19r3s21) (oSkip (.tmp 37) K19r3s21))
def K19r3s19:OpsF:=(oIf 30 false (oVal (.tmp 36) (kUn (fadA 0) (.tmp 3)) K19r3s20) (oSkip (.tmp 36) K19r3s20))
def K19r3s18:OpsF:=(oIf 30 false (oVal (.tmp 35) (kLoad none (.tmp 34)) K19r3s19) (oSkip (.tmp 35) K19r3s19))
def K19r3s17:OpsF:=(oIf 30 false (oVal (.tmp 34) (kTwo (ixsA 1) (.tmp 32) (.tmp 33)) K19r3s18) (oSkip (.tmp 34) K19r3s18))
def K19r3s16:OpsF:=(oIf 30 false (oVal (.tmp 33) (kMove (.tmp 8)) K19r3s17) (oSkip (.tmp 33) K19r3s17))
def K19r3s15:OpsF:=(oIf 30 false (oVal (.tmp 32) (kLoad none (.tmp 31)) K19r3s16) (oSkip (.tmp 32) K19r3s16))
def K19r3s14:OpsF:=(oIf 30 false (oVal (.tmp 31) (kUn (fadA 3) (.tmp 7)) K19r3s15) (oSkip (.tmp 31) K19r3s15))
def K19r3s13:OpsF:=(oIf 22 true (oVal (.tmp 30) (kMove (.tmp 29)) K19r3s14) (oSkip (.tmp 30) K19r3s14))
def K19r3s12:OpsF:=(oIf 22 true (oVal (.tmp 29) (kInt aNeq (.tmp 28) (.con (.int .i64 3))) K19r3s13) (oSkip (.tmp 29) K19r3s13))
def K19r3s11:OpsF:=(oIf 22 true (oVal (.tmp 28) (kLoad none (.tmp 27)) K19r3s12) (oSkip (.tmp 28) K19r3s12))
def K19r3s10:OpsF:=(oIf 22 true (oVal (.tmp 27) (kUn (fadA 0) (.tmp 26)) K19r3s11) (oSkip (.tmp 27) K19r3s11))
def K19r3s9:OpsF:=(oIf 22 true (oVal (.tmp 26) (kTwo (ixsA 3) (.tmp 24) (.tmp 25)) K19r3s10) (oSkip (.tmp 26) K19r3s10))
def K19r3s8:OpsF:=(oIf 22 true (oVal (.tmp 25) (kMove (.tmp 2)) K19r3s9) (oSkip (.tmp 25) K19r3s9))
def K19r3s7:OpsF:=(oIf 22 true (oVal (.tmp 24) (kLoad none (.tmp 23)) K19r3s8) (oSkip (.tmp 24) K19r3s8))
def K19r3:OpsF:=(oEnd [] (oVal (.tmp 17) (kMove (.tmp 8)) (oVal (.tmp 18) (kUn (fadA 2) (.tmp 7)) (oVal (.tmp 19) (kLoad none (.tmp 18)) (oVal (.tmp 20) (kUn lenSlA (.tmp 19)) (oVal (.tmp 21) (kInt aLss (.tmp 17) (.tmp 20)) (oVal (.tmp 22) (kMove (.tmp 21)) (oIf 22 true (oVal (.tmp 23) (kUn (fadA 0) (.tmp 3)) K19r3s7) (oSkip (.tmp 23) K19r3s7)))))))))
theorem res19:Try.f19.results.toList=[.tmp 6]:=by kernel_rfl
def K19:K:=(kSeq (kRegion K19r0 [3,6]) (kSeq (kRegion K19r1 [7]) (kSeq (kRegion K19r2 [8]) (kSeq (kRegionD K19r3 [6]) kRet))))
theorem enter19 (cl:CallF) (a0 a1 a2:AV) (s:St):enterA Try.prog X cl 19 [a0,a1,a2] s Try.f19=finA Try.prog Try.f19 (K19 cl ⟨19,none,Try.f19.ntmps,X 19⟩ (paramsEnv 0 [a0,a1,a2] .nil) [] s) :=
  enterA_eq (b:=Try.f19.body.getD .skip) (by kernel_rfl) (by kernel_rfl) (by kernel_rfl) (by kernel_rfl) (by kernel_rfl)
end
end Go.Proofs.Ythbhjgbpjlnbcaa.code
set_option maxRecDepth 100000
namespace Go.Proofs.Ythbhjgbpjlnbcaa.code
open Go.Abs
noncomputable section
def K22r0:OpsF:=(oVal (.tmp 2) (kBox (tag 28) (.tmp 0)) (oVal (.tmp 4) (kMove (.con .nilslice)) oNil))
def K22r1:OpsF:=(oVal (.tmp 8) (kMove (.tmp 1)) (oVal (.tmp 9) (kUn lenSlA (.tmp 8)) (oVal (.tmp 5) (kMove (.tmp 9)) oNil)))
def K22r2:OpsF:=(oVal (.tmp 10) (kMove (.tmp 5)) (oVal (.tmp 11) (kUn (fadA 0) (.tmp 2)) (oVal (.tmp 12) (kLoad none (.tmp 11)) (oVal (.tmp 13) (kUn lenSlA (.tmp 12)) (oVal (.tmp 14) (kInt aEql (.tmp 10) (.tmp 13)) oNil)))))
def K22r3:OpsF:=(oVal (.tmp 15) (kMove (.tmp 1)) (oVal (.tmp 16) (kBuildSlice [.nilslice] 1 [(0,1,(.tmp 15))]) (oVal (.tmp 4) (kMove (.tmp 16)) oNil)))
def K22r4:OpsF:=(oVal (.tmp 6) (kMove (.con .nilslice)) oNil)
def K22r5:OpsF:=(oVal (.tmp 7) (kMove (.con (.int .i64 (-1)))) oNil)
def K22r6:OpsF:=(oVal (.tmp 17) (kMove (.tmp 7)) (oVal (.tmp 18) (kUn (fadA 1) (.tmp 2)) (oVal (.tmp 19) (kLoad none (.tmp 18)) (oVal (.tmp 20) (kUn lenSlA (.tmp 19)) (oVal (.tmp 21) (kInt aLss (.tmp 17) (.tmp 20)) oNil)))))
def K22r7s13:OpsF:=(oVal (.tmp 37) (kPick (.tmp 26) (.con (.bool true)) (.tmp 36)) oNil)
def K22r7s12:OpsF:=(oIf 26 false (oVal (.tmp 36) (kPick (.tmp 31) (.tmp 35) (.con (.bool false))) K22r7s13) (oSkip (.tmp 36) K22r7s13))
def K22r7s11:OpsF:=(oIf 31 true (oCall (.tmp 35) (.con (.func 19 [] [])) [(.tmp 32),(.tmp 33),(.tmp 34)] K22r7s12) (oSkip (.tmp 35) K22r7s12))
def K22r7s10:OpsF:=(oIf 31 true (oVal (.tmp 34) (kMove (.tmp 5)) K22r7s11) (oSkip (.tmp 34) K22r7s11))
def K22r7s9:OpsF:=(oIf 31 true (oVal (.tmp 33) (kMove (.tmp 7)) K22r7s10) (oSkip (.tmp 33) K22r7s10))
def K22r7s8:OpsF:=(oIf 31 true (oVal (.tmp 32) (kLoad (some 2) (.tmp 2)) K22r7s9) (oSkip (.tmp 32) K22r7s9))
def K22r7s7:OpsF:=(oIf 26 false (oVal (.tmp 31) (kMove (.tmp 30)) K22r7s8) (oSkip (.tmp 31) K22r7s8))
def K22r7s6:OpsF:=(oIf 26 false (oVal (.tmp 30) (kUn notA (.tmp 29)) K22r7s7) (oSkip (.tmp 30) K22r7s7))
def K22r7s5:OpsF:=(oIf 26 false (oCall (.tmp 29) (.con (.func 46 [] [])) [(.tmp 27),(.tmp 28)] K22r7s6) (oSkip (.tmp 29) K22r7s6))
def K22r7s4:OpsF:=(oIf 26 false (oVal (.tmp 28) (kMove (.tmp 7)) K22r7s5) (oSkip (.tmp 28) K22r7s5))
def K22r7:OpsF:=(oVal (.tmp 24) (kMove (.tmp 7)) (oVal (.tmp 25) (kInt aLss (.tmp 24) (.con (.int .i64 0))) (oVal (.tmp 26) (kMove (.tmp 25)) (oIf 26 false (oVal (.tmp 27) (kMove (.tmp 1)) K22r7s4) (oSkip (.tmp 27) K22r7s4)))))
def K22r8:OpsF:=(oEnd [(40,2),(42,2)] (oVal (.tmp 38) (kMove (.tmp 6)) (oVal (.tmp 39) (kLoad (some 2) (.tmp 2)) (oVal (.tmp 40) (kBuildSlice [] 0 []) (oVal (.tmp 41) (kMove (.tmp 1)) (oVal (.tmp 42) (kTwo (appendA false 1 8 (tag 3)) (.tmp 40) (.tmp 41)) (oVal (.tmp 43) (kMove (.tmp 7)) (oVal (.tmp 44) (kBuildSlice [(.int .i64 0)] 1 [(0,1,(.tmp 43))]) (oVal (.tmp 45) (kTwo (appendA false 1 8 (tag 3)) (.tmp 42) (.tmp 44)) (oCall (.tmp 46) (.con (.func 22 [] [])) [(.tmp 39),(.tmp 45)] (oVal (.tmp 47) (kTwo (appendA false 1 24 (tag 22)) (.tmp 38) (.tmp 46)) (oVal (.tmp 6) (kMove (.tmp 47)) oNil))))))))))))
def K22r9:OpsF:=(oVal (.tmp 22) (kMove (.tmp 7)) (oVal (.tmp 23) (kInt aAdd (.tmp 22) (.con (.int .i64 1))) (oVal (.tmp 7) (kMove (.tmp 23)) oNil)))
def K22l0:K:=(kSeq (kSeq (kRegion K22r6 [21]) (kCond (.tmp 21) kSkip (kExit 0))) (kSeq (kBlock 1 (kSeq (kRegion K22r7 [37]) (kCond (.tmp 37) (kRegionD K22r8 [6]) kSkip))) (kRegion K22r9 [7])))
def K22r10:OpsF:=(oVal (.tmp 48) (kMove (.tmp 6)) (oVal (.tmp 4) (kMove (.tmp 48)) oNil))
theorem res22:Try.f22.results.toList=[.tmp 4]:=by kernel_rfl
def K22:K:=(kSeq (kRegion K22r0 [2,4]) (kSeq (kRegion K22r1 [5]) (kSeq (kSeq (kRegion K22r2 [14]) (kCond (.tmp 14) (kSeq (kRegion K22r3 [4]) kRet) kSkip)) (kSeq (kRegion K22r4 [6]) (kSeq (kSeq (kRegion K22r5 [7]) (kBlock 0 (kLoop K22l0))) (kSeq (kRegion K22r10 [4]) kRet))))))
theorem enter22 (cl:CallF) (a0 a1:AV) (s:St):enterA Try.prog X cl 22 [a0,a1] s Try.f22=finA Try.prog Try.f22 (K22 cl ⟨22,none,Try.f22.ntmps,X 22⟩ (paramsEnv 0 [a0,a1] .nil) [] s) :=
  enterA_eq (b:=Try.f22.body.getD .skip) (by kernel_rfl) (by kernel_rfl) (by kernel_rfl) (by kernel_rfl) (by kernel_rfl)
def K46r0:OpsF:=(oVal (.tmp 4) (kMove (.con (.bool false))) oNil)
def K46r1:OpsF:=(oVal (.tmp 5) (kMove (.con (.int .i64 0))) oNil)
def K46r2:OpsF:=(oVal (.tmp 6) (kMove (.tmp 5)) (oVal (.tmp 7) (kMove (.tmp 0)) (oVal (.tmp 8) (kUn lenSlA (.tmp 7)) (oVal (.tmp 9) (kInt aLss (.tmp 6) (.tmp 8)) oNil))))
def K46r3:OpsF:=(oVal (.tmp 12) (kMove (.tmp 0)) (oVal (.tmp 13) (kMove (.tmp 5)) (oVal (.tmp 14) (kTwo (ixsA 1) (.tmp 12) (.tmp 13)) (oVal (.tmp 15) (kLoad none (.tmp 14)) (oVal (.tmp 16) (kMove (.tmp 1)) (oVal (.tmp 17) (kInt aEql (.tmp 15) (.tmp 16)) oNil))))))
def K46r4:OpsF:=(oVal (.tmp 4) (kMove (.con (.bool true))) oNil)
def K46r5:OpsF:=(oVal (.tmp 10) (kMove (.tmp 5)) (oVal (.tmp 11) (kInt aAdd (.tmp 10) (.con (.int .i64 1))) (oVal (.tmp 5) (kMove (.tmp 11)) oNil)))
def K46l0:K:=(kSeq (kSeq (kRegion K46r2 [9]) (kCond (.tmp 9) kSkip (kExit 0))) (kSeq (kBlock 1 (kSeq (kRegion K46r3 [17]) (kCond (.tmp 17) (kSeq (kRegion K46r4 [4]) kRet) kSkip))) (kRegion K46r5 [5])))
def K46r6:OpsF:=(oVal (.tmp 4) (kMove (.con (.bool false))) oNil)
theorem res46:Try.f46.results.toList=[.tmp 4]:=by kernel_rfl
def K46:K:=(kSeq (kRegion K46r0 [4]) (kSeq (kSeq (kRegion K46r1 [5]) (kBlock 0 (kLoop K46l0))) (kSeq (kRegion K46r6 [4]) kRet)))
theorem enter46 (cl:CallF) (a0 a1:AV) (s:St):enterA Try.prog X cl 46 [a0,a1] s Try.f46=finA Try.prog Try.f46 (K46 cl ⟨46,none,Try.f46.ntmps,X 46⟩ (paramsEnv 0 [a0,a1] .nil) [] s) :=
  enterA_eq (b:=Try.f46.body.getD .skip) (by kernel_rfl) (by kernel_rfl) (by kernel_rfl) (by kernel_rfl) (by kernel_rfl)
end
end Go.Proofs.Ythbhjgbpjlnbcaa.code
set_option maxRecDepth 100000
namespace Go.Proofs.Ythbhjgbpjlnbcaa.code
open Go.Abs
noncomputable section
def K9r2:OpsF:=(oVal (.tmp 26) (kMove (.tmp 3)) (oCall (.tmp 27) (.con (.func 12 [] [])) [(.tmp 26),(.con (.int .i64 4)),(.con (.int .i64 4))] (oVal (.tmp 4) (kAlloc [.nilslice,.nilslice] (tag 28)) (oVal .none (kStore 2 (.tmp 4) (.tmp 27)) oNil))))
def K9r3:OpsF:=(oVal (.tmp 28) (kLoad (some 2) (.tmp 4)) (oCall (.tmp 29) (.con (.func 22 [] [])) [(.tmp 28),(.con .nilslice)] (oVal (.tmp 5) (kMove (.tmp 29)) oNil)))
def K9r4:OpsF:=(oVal (.tmp 30) (kMove (.tmp 5)) (oVal (.tmp 31) (kMove (.tmp 3)) (oVal (.tmp 32) (kMove (.tmp 5)) (oVal (.tmp 33) (kUn lenSlA (.tmp 32)) (oCall (.tmp 34) (.con (.func 15 [] [])) [(.tmp 31),(.tmp 33)] (oVal (.tmp 35) (kTwo (ixsA 1) (.tmp 30) (.tmp 34)) (oVal (.tmp 36) (kLoad none (.tmp 35)) (oVal (.tmp 6) (kMove (.tmp 36)) oNil))))))))
def K9r5:OpsF:=(oVal (.tmp 38) (kLoad (some 2) (.tmp 4)) (oVal (.tmp 39) (kMove (.tmp 6)) (oCall (.tmp 40) (.con (.func 20 [] [])) [(.tmp 38),(.tmp 39)] (oVal (.tmp 37) (kMove (.tmp 40)) (oVal (.tmp 41) (kUn (extA 0) (.tmp 37)) (oVal (.tmp 42) (kUn (extA 1) (.tmp 37)) (oVal (.tmp 7) (kMove (.tmp 41)) (oVal (.tmp 8) (kMove (.tmp 42)) oNil))))))))
def K9r6:OpsF:=(oVal (.tmp 43) (kMove (.tmp 8)) (oVal (.tmp 44) (kInt aNeq (.tmp 43) (.con (.int .i64 0))) oNil))
def K9r7:OpsF:=(oVal (.tmp 2) (kMove (.con (.bool false))) oNil)
def K9r8:OpsF:=(oVal (.tmp 9) (kMove (.con (.int .i64 0))) oNil)
def K9r9:OpsF:=(oVal (.tmp 10) (kMove (.con (.int .i64 0))) oNil)
def K9r10:OpsF:=(oVal (.tmp 45) (kMove (.tmp 10)) (oVal (.tmp 46) (kUn (fadA 1) (.tmp 4)) (oVal (.tmp 47) (kLoad none (.tmp 46)) (oVal (.tmp 48) (kUn lenSlA (.tmp 47)) (oVal (.tmp 49) (kInt aLss (.tmp 45) (.tmp 48)) oNil)))))
def K9r11:OpsF:=(oVal (.tmp 11) (kMove (.con (.int .i64 0))) oNil)
def K9r12:OpsF:=(oVal (.tmp 52) (kMove (.tmp 11)) (oVal (.tmp 53) (kUn (fadA 0) (.tmp 4)) (oVal (.tmp 54) (kLoad none (.tmp 53)) (oVal (.tmp 55) (kUn lenSlA (.tmp 54)) (oVal (.tmp 56) (kInt aLss (.tmp 52) (.tmp 55)) oNil)))))
def K9r13:OpsF:=(oVal (.tmp 60) (kLoad (some 2) (.tmp 4)) (oVal (.tmp 61) (kMove (.tmp 11)) (oCall (.tmp 62) (.con (.func 29 [] [])) [(.tmp 60),(.tmp 61)] (oVal (.tmp 59) (kMove (.tmp 62)) (oVal (.tmp 63) (kUn (extA 0) (.tmp 59)) (oVal (.tmp 64) (kUn (extA 1) (.tmp 59)) (oVal (.tmp 12) (kMove (.tmp 63)) (oVal (.tmp 13) (kMove (.tmp 64)) oNil))))))))
def K9r14:OpsF:=(oVal (.tmp 65) (kMove (.tmp 13)) (oVal (.tmp 66) (kInt aNeq (.tmp 65) (.con (.int .i64 0))) oNil))
def K9r15:OpsF:=(oVal (.tmp 2) (kMove (.con (.bool false))) oNil)
def K9r16:OpsF:=(oVal (.tmp 14) (kMove (.con (.bool false))) oNil)
def K9r17:OpsF:=(oVal (.tmp 15) (kMove (.con (.int .i64 0))) oNil)
def K9r18s14:OpsF:=(oVal (.tmp 81) (kPick (.tmp 71) (.tmp 80) (.con (.bool false))) oNil)
def K9r18s13:OpsF:=(oIf 71 true (oVal (.tmp 80) (kInt aNeq (.tmp 75) (.tmp 79)) K9r18s14) (oSkip (.tmp 80) K9r18s14))
def K9r18s12:OpsF:=(oIf 71 true (oVal (.tmp 79) (kLoad none (.tmp 78)) K9r18s13) (oSkip (.tmp 79) K9r18s13))
def K9r18s11:OpsF:=(oIf 71 true (oVal (.tmp 78) (kTwo (ixsA 1) (.tmp 76) (.tmp 77)) K9r18s12) (oSkip (.tmp 78) K9r18s12))
def K9r18s10:OpsF:=(oIf 71 true (oVal (.tmp 77) (kMove (.tmp 11)) K9r18s11) (oSkip (.tmp 77) K9r18s11))
def K9r18s9:OpsF:=(oIf 71 true (oVal (.tmp 76) (kMove (.tmp 6)) K9r18s10) (oSkip (.tmp 76) K9r18s10))
def K9r18s8:OpsF:=(oIf 71 true (oVal (.tmp 75) (kLoad none (.tmp 74)) K9r18s9) (oSkip (.tmp 75) K9r18s9))
def K9r18s7:OpsF:=(oIf 71 true (oVal (.tmp 74) (kTwo (ixsA 1) (.tmp 72) (.tmp 73)) K9r18s8) (oSkip (.tmp 74) K9r18s8))
def K9r18s6:OpsF:=(oIf 71 true (oVal (.tmp 73) (kMove (.tmp 15)) K9r18s7) (oSkip (.tmp 73) K9r18s7))
def K9r18:OpsF:=(oEnd [] (oVal (.tmp 67) (kMove (.tmp 15)) (oVal (.tmp 68) (kMove (.tmp 12)) (oVal (.tmp 69) (kUn lenSlA (.tmp 68)) (oVal (.tmp 70) (kInt aLss (.tmp 67) (.tmp 69)) (oVal (.tmp 71) (kMove (.tmp 70)) (oIf 71 true (oVal (.tmp 72) (kMove (.tmp 12)) K9r18s6) (oSkip (.tmp 72) K9r18s6))))))))
def K9r19s8:OpsF:=(oVal (.tmp 92) (kPick (.tmp 85) (.con (.bool true)) (.tmp 91)) (oVal (.tmp 14) (kMove (.tmp 92)) oNil))
def K9r19s7:OpsF:=(oIf 85 false (oVal (.tmp 91) (kInt aEql (.tmp 89) (.tmp 90)) K9r19s8) (oSkip (.tmp 91) K9r19s8))
def K9r19s6:OpsF:=(oIf 85 false (oVal (.tmp 90) (kMove (.tmp 10)) K9r19s7) (oSkip (.tmp 90) K9r19s7))
def K9r19s5:OpsF:=(oIf 85 false (oVal (.tmp 89) (kLoad none (.tmp 88)) K9r19s6) (oSkip (.tmp 89) K9r19s6))
def K9r19s4:OpsF:=(oIf 85 false (oVal (.tmp 88) (kTwo (ixsA 1) (.tmp 86) (.tmp 87)) K9r19s5) (oSkip (.tmp 88) K9r19s5))
def K9r19s3:OpsF:=(oIf 85 false (oVal (.tmp 87) (kMove (.tmp 15)) K9r19s4) (oSkip (.tmp 87) K9r19s4))
def K9r19:OpsF:=(oVal (.tmp 84) (kMove (.tmp 14)) (oVal (.tmp 85) (kMove (.tmp 84)) (oIf 85 false (oVal (.tmp 86) (kMove (.tmp 12)) K9r19s3) (oSkip (.tmp 86) K9r19s3))))
def K9r20:OpsF:=(oVal (.tmp 82) (kMove (.tmp 15)) (oVal (.tmp 83) (kInt aAdd (.tmp 82) (.con (.int .i64 1))) (oVal (.tmp 15) (kMove (.tmp 83)) oNil)))
def K9l0:K:=(kSeq (kSeq (kRegionD K9r18 [81]) (kCond (.tmp 81) kSkip (kExit 4))) (kSeq (kBlock 5 (kRegion K9r19 [14])) (kRegion K9r20 [15])))
def K9r21s15:OpsF:=(oVal (.tmp 108) (kPick (.tmp 95) (.con (.bool true)) (.tmp 107)) oNil)
def K9r21s14:OpsF:=(oIf 95 false (oVal (.tmp 107) (kInt aGeq (.tmp 102) (.tmp 106)) K9r21s15) (oSkip (.tmp 107) K9r21s15))
def K9r21s13:OpsF:=(oIf 95 false (oCall (.tmp 106) (.con (.func 23 [] [])) [(.tmp 103),(.tmp 104),(.tmp 105)] K9r21s14) (oSkip (.tmp 106) K9r21s14))
def K9r21s12:OpsF:=(oIf 95 false (oVal (.tmp 105) (kMove (.tmp 10)) K9r21s13) (oSkip (.tmp 105) K9r21s13))
def K9r21s11:OpsF:=(oIf 95 false (oVal (.tmp 104) (kMove (.tmp 6)) K9r21s12) (oSkip (.tmp 104) K9r21s12))
def K9r21s10:OpsF:=(oIf 95 false (oVal (.tmp 103) (kLoad (some 2) (.tmp 4)) K9r21s11) (oSkip (.tmp 103) K9r21s11))
def K9r21s9:OpsF:=(oIf 95 false (oCallT (some [4]) (.tmp 102) (.con (.func 30 [] [])) [(.tmp 100),(.tmp 101)] K9r21s10) (oSkip (.tmp 102) K9r21s10))
def K9r21s8:OpsF:=(oIf 95 false (oVal (.tmp 101) (kMove (.tmp 11)) K9r21s9) (oSkip (.tmp 101) K9r21s9))
def K9r21s7:OpsF:=(oIf 95 false (oVal (.tmp 100) (kLoad (some 4) (.tmp 99)) K9r21s8) (oSkip (.tmp 100) K9r21s8))
def K9r21s6:OpsF:=(oIf 95 false (oVal (.tmp 99) (kTwo (ixsA 4) (.tmp 97) (.tmp 98)) K9r21s7) (oSkip (.tmp 99) K9r21s7))
def K9r21s5:OpsF:=(oIf 95 false (oVal (.tmp 98) (kMove (.tmp 10)) K9r21s6) (oSkip (.tmp 98) K9r21s6))
def K9r21s4:OpsF:=(oIf 95 false (oVal (.tmp 97) (kLoad none (.tmp 96)) K9r21s5) (oSkip (.tmp 97) K9r21s5))
def K9r21:OpsF:=(oEnd [] (oVal (.tmp 93) (kMove (.tmp 14)) (oVal (.tmp 94) (kUn notA (.tmp 93)) (oVal (.tmp 95) (kMove (.tmp 94)) (oIf 95 false (oVal (.tmp 96) (kUn (fadA 1) (.tmp 4)) K9r21s4) (oSkip (.tmp 96) K9r21s4))))))
def K9r22s13:OpsF:=(oVal (.tmp 122) (kPick (.tmp 113) (.con (.bool true)) (.tmp 121)) oNil)
def K9r22s12:OpsF:=(oIf 113 false (oVal (.tmp 121) (kEql (.row [(0,none,.int),(1,none,.int)]) true (.tmp 117) (.tmp 120)) K9r22s13) (oSkip (.tmp 121) K9r22s13))
def K9r22s11:OpsF:=(oIf 113 false (oVal (.tmp 120) (kBuild [(.int .i64 0),(.int .i64 0)] [(0,1,(.tmp 118)),(1,1,(.tmp 119))]) K9r22s12) (oSkip (.tmp 120) K9r22s12))
def K9r22s10:OpsF:=(oIf 113 false (oVal (.tmp 119) (kMove (.tmp 11)) K9r22s11) (oSkip (.tmp 119) K9r22s11))
def K9r22s9:OpsF:=(oIf 113 false (oVal (.tmp 118) (kMove (.tmp 10)) K9r22s10) (oSkip (.tmp 118) K9r22s10))
def K9r22s8:OpsF:=(oIf 113 false (oVal (.tmp 117) (kLoad (some 2) (.tmp 116)) K9r22s9) (oSkip (.tmp 117) K9r22s9))
def K9r22s7:OpsF:=(oIf 113 false (oVal (.tmp 116) (kTwo (ixsA 2) (.tmp 114) (.tmp 115)) K9r22s8) (oSkip (.tmp 116) K9r22s8))
def K9r22s6:OpsF:=(oIf 113 false (oVal (.tmp 115) (kMove (.tmp 9)) K9r22s7) (oSkip (.tmp 115) K9r22s7))
def K9r22:OpsF:=(oVal (.tmp 109) (kMove (.tmp 9)) (oVal (.tmp 110) (kMove (.tmp 7)) (oVal (.tmp 111) (kUn lenSlA (.tmp 110)) (oVal (.tmp 112) (kInt aGeq (.tmp 109) (.tmp 111)) (oVal (.tmp 113) (kMove (.tmp 112)) (oIf 113 false (oVal (.tmp 114) (kMove (.tmp 7)) K9r22s6) (oSkip (.tmp 114) K9r22s6)))))))
def K9r23:OpsF:=(oVal (.tmp 2) (kMove (.con (.bool false))) oNil)
def K9r24:OpsF:=(oVal (.tmp 123) (kMove (.tmp 9)) (oVal (.tmp 124) (kInt aAdd (.tmp 123) (.con (.int .i64 1))) (oVal (.tmp 9) (kMove (.tmp 124)) oNil)))
def K9r25:OpsF:=(oVal (.tmp 57) (kMove (.tmp 11)) (oVal (.tmp 58) (kInt aAdd (.tmp 57) (.con (.int .i64 1))) (oVal (.tmp 11) (kMove (.tmp 58)) oNil)))
def K9l1:K:=(kSeq (kSeq (kRegion K9r12 [56]) (kCond (.tmp 56) kSkip (kExit 2))) (kSeq (kBlock 3 (kSeq (kRegion K9r13 [12,13]) (kSeq (kSeq (kRegion K9r14 [66]) (kCond (.tmp 66) (kSeq (kRegion K9r15 [2]) kRet) kSkip)) (kSeq (kRegion K9r16 [14]) (kSeq (kSeq (kRegion K9r17 [15]) (kBlock 4 (kLoop K9l0))) (kSeq (kSeq (kRegionD K9r21 [108]) (kCond (.tmp 108) (kExit 3) kSkip)) (kSeq (kSeq (kRegion K9r22 [122]) (kCond (.tmp 122) (kSeq (kRegion K9r23 [2]) kRet) kSkip)) (kRegion K9r24 [9])))))))) (kRegion K9r25 [11])))
def K9r26:OpsF:=(oVal (.tmp 50) (kMove (.tmp 10)) (oVal (.tmp 51) (kInt aAdd (.tmp 50) (.con (.int .i64 1))) (oVal (.tmp 10) (kMove (.tmp 51)) oNil)))
def K9l2:K:=(kSeq (kSeq (kRegion K9r10 [49]) (kCond (.tmp 49) kSkip (kExit 0))) (kSeq (kBlock 1 (kSeq (kRegion K9r11 [11]) (kBlock 2 (kLoop K9l1)))) (kRegion K9r26 [10])))
def K9r27:OpsF:=(oVal (.tmp 126) (kLoad (some 2) (.tmp 4)) (oCall (.tmp 127) (.con (.func 18 [] [])) [(.tmp 126)] (oVal (.tmp 125) (kMove (.tmp 127)) (oVal (.tmp 128) (kUn (extA 0) (.tmp 125)) (oVal (.tmp 129) (kUn (extA 1) (.tmp 125)) (oVal (.tmp 16) (kMove (.tmp 128)) (oVal (.tmp 17) (kMove (.tmp 129)) oNil)))))))
def K9r28s15:OpsF:=(oVal (.tmp 145) (kPick (.tmp 138) (.con (.bool true)) (.tmp 144)) oNil)
def K9r28s14:OpsF:=(oIf 138 false (oVal (.tmp 144) (kInt aNeq (.tmp 140) (.tmp 143)) K9r28s15) (oSkip (.tmp 144) K9r28s15))
def K9r28s13:OpsF:=(oIf 138 false (oVal (.tmp 143) (kUn lenSlA (.tmp 142)) K9r28s14) (oSkip (.tmp 143) K9r28s14))
def K9r28s12:OpsF:=(oIf 138 false (oVal (.tmp 142) (kLoad none (.tmp 141)) K9r28s13) (oSkip (.tmp 142) K9r28s13))
def K9r28s11:OpsF:=(oIf 138 false (oVal (.tmp 141) (kUn (fadA 0) (.tmp 4)) K9r28s12) (oSkip (.tmp 141) K9r28s12))
def K9r28s10:OpsF:=(oIf 138 false (oVal (.tmp 140) (kUn lenSlA (.tmp 139)) K9r28s11) (oSkip (.tmp 140) K9r28s11))
def K9r28s7:OpsF:=(oVal (.tmp 137) (kPick (.tmp 134) (.con (.bool true)) (.tmp 136)) (oVal (.tmp 138) (kMove (.tmp 137)) (oIf 138 false (oVal (.tmp 139) (kMove (.tmp 16)) K9r28s10) (oSkip (.tmp 139) K9r28s10))))
def K9r28s6:OpsF:=(oIf 134 false (oVal (.tmp 136) (kInt aNeq (.tmp 135) (.con (.int .i64 0))) K9r28s7) (oSkip (.tmp 136) K9r28s7))
def K9r28:OpsF:=(oVal (.tmp 130) (kMove (.tmp 9)) (oVal (.tmp 131) (kMove (.tmp 7)) (oVal (.tmp 132) (kUn lenSlA (.tmp 131)) (oVal (.tmp 133) (kInt aNeq (.tmp 130) (.tmp 132)) (oVal (.tmp 134) (kMove (.tmp 133)) (oIf 134 false (oVal (.tmp 135) (kMove (.tmp 17)) K9r28s6) (oSkip (.tmp 135) K9r28s6)))))))
def K9r29:OpsF:=(oVal (.tmp 2) (kMove (.con (.bool false))) oNil)
def K9r30:OpsF:=(oVal (.tmp 18) (kMove (.con (.int .i64 0))) oNil)
def K9r31:OpsF:=(oVal (.tmp 146) (kMove (.tmp 18)) (oVal (.tmp 147) (kMove (.tmp 16)) (oVal (.tmp 148) (kUn lenSlA (.tmp 147)) (oVal (.tmp 149) (kInt aLss (.tmp 146) (.tmp 148)) oNil))))
def K9r32:OpsF:=(oVal (.tmp 152) (kMove (.tmp 16)) (oVal (.tmp 153) (kMove (.tmp 18)) (oVal (.tmp 154) (kTwo (ixsA 1) (.tmp 152) (.tmp 153)) (oVal (.tmp 155) (kLoad none (.tmp 154)) (oVal (.tmp 156) (kInt aLss (.tmp 155) (.con (.int .i64 0))) oNil)))))
def K9r33:OpsF:=(oVal (.tmp 157) (kMove (.tmp 16)) (oCall (.tmp 158) (.con (.func 28 [] [])) [(.tmp 157)] (oVal (.tmp 19) (kMove (.tmp 158)) oNil)))
def K9r34:OpsF:=(oVal (.tmp 159) (kMove (.tmp 19)) (oVal (.tmp 160) (kMove (.tmp 18)) (oVal (.tmp 161) (kTwo (ixsA 1) (.tmp 159) (.tmp 160)) (oVal .none (kStore 1 (.tmp 161) (.con (.int .i64 (-1)))) oNil))))
def K9r35:OpsF:=(oVal (.tmp 163) (kLoad (some 2) (.tmp 4)) (oVal (.tmp 164) (kMove (.tmp 19)) (oCall (.tmp 165) (.con (.func 20 [] [])) [(.tmp 163),(.tmp 164)] (oVal (.tmp 162) (kMove (.tmp 165)) (oVal (.tmp 166) (kUn (extA 0) (.tmp 162)) (oVal (.tmp 167) (kUn (extA 1) (.tmp 162)) (oVal (.tmp 20) (kMove (.tmp 166)) (oVal (.tmp 21) (kMove (.tmp 167)) oNil))))))))
def K9r36:OpsF:=(oVal (.tmp 22) (kMove (.con (.bool false))) oNil)
def K9r37:OpsF:=(oVal (.tmp 23) (kMove (.con (.int .i64 0))) oNil)
def K9r38:OpsF:=(oVal (.tmp 168) (kMove (.tmp 23)) (oVal (.tmp 169) (kMove (.tmp 20)) (oVal (.tmp 170) (kUn lenSlA (.tmp 169)) (oVal (.tmp 171) (kInt aLss (.tmp 168) (.tmp 170)) oNil))))
def K9r39s13:OpsF:=(oVal (.tmp 187) (kPick (.tmp 175) (.con (.bool true)) (.tmp 186)) (oVal (.tmp 22) (kMove (.tmp 187)) oNil))
def K9r39s12:OpsF:=(oIf 175 false (oVal (.tmp 186) (kEql (.row [(0,none,.int),(1,none,.int)]) false (.tmp 179) (.tmp 185)) K9r39s13) (oSkip (.tmp 186) K9r39s13))
def K9r39s11:OpsF:=(oIf 175 false (oVal (.tmp 185) (kBuild [(.int .i64 0),(.int .i64 0)] [(0,1,(.tmp 183)),(1,1,(.tmp 184))]) K9r39s12) (oSkip (.tmp 185) K9r39s12))
def K9r39s10:OpsF:=(oIf 175 false (oVal (.tmp 184) (kMove (.tmp 18)) K9r39s11) (oSkip (.tmp 184) K9r39s11))
def K9r39s9:OpsF:=(oIf 175 false (oVal (.tmp 183) (kLoad none (.tmp 182)) K9r39s10) (oSkip (.tmp 183) K9r39s10))
def K9r39s8:OpsF:=(oIf 175 false (oVal (.tmp 182) (kTwo (ixsA 1) (.tmp 180) (.tmp 181)) K9r39s9) (oSkip (.tmp 182) K9r39s9))
def K9r39s7:OpsF:=(oIf 175 false (oVal (.tmp 181) (kMove (.tmp 18)) K9r39s8) (oSkip (.tmp 181) K9r39s8))
def K9r39s6:OpsF:=(oIf 175 false (oVal (.tmp 180) (kMove (.tmp 16)) K9r39s7) (oSkip (.tmp 180) K9r39s7))
def K9r39s5:OpsF:=(oIf 175 false (oVal (.tmp 179) (kLoad (some 2) (.tmp 178)) K9r39s6) (oSkip (.tmp 179) K9r39s6))
def K9r39s4:OpsF:=(oIf 175 false (oVal (.tmp 178) (kTwo (ixsA 2) (.tmp 176) (.tmp 177)) K9r39s5) (oSkip (.tmp 178) K9r39s5))
def K9r39s3:OpsF:=(oIf 175 false (oVal (.tmp 177) (kMove (.tmp 23)) K9r39s4) (oSkip (.tmp 177) K9r39s4))
def K9r39:OpsF:=(oEnd [] (oVal (.tmp 174) (kMove (.tmp 22)) (oVal (.tmp 175) (kMove (.tmp 174)) (oIf 175 false (oVal (.tmp 176) (kMove (.tmp 20)) K9r39s3) (oSkip (.tmp 176) K9r39s3)))))
def K9r40:OpsF:=(oVal (.tmp 172) (kMove (.tmp 23)) (oVal (.tmp 173) (kInt aAdd (.tmp 172) (.con (.int .i64 1))) (oVal (.tmp 23) (kMove (.tmp 173)) oNil)))
def K9l3:K:=(kSeq (kSeq (kRegion K9r38 [171]) (kCond (.tmp 171) kSkip (kExit 8))) (kSeq (kBlock 9 (kRegionD K9r39 [22])) (kRegion K9r40 [23])))
def K9r41s5:OpsF:=(oVal (.tmp 193) (kPick (.tmp 190) (.con (.bool true)) (.tmp 192)) oNil)
def K9r41s4:OpsF:=(oIf 190 false (oVal (.tmp 192) (kUn notA (.tmp 191)) K9r41s5) (oSkip (.tmp 192) K9r41s5))
def K9r41:OpsF:=(oVal (.tmp 188) (kMove (.tmp 21)) (oVal (.tmp 189) (kInt aNeq (.tmp 188) (.con (.int .i64 0))) (oVal (.tmp 190) (kMove (.tmp 189)) (oIf 190 false (oVal (.tmp 191) (kMove (.tmp 22)) K9r41s4) (oSkip (.tmp 191) K9r41s4)))))
def K9r42:OpsF:=(oVal (.tmp 2) (kMove (.con (.bool false))) oNil)
def K9r43:OpsF:=(oVal (.tmp 150) (kMove (.tmp 18)) (oVal (.tmp 151) (kInt aAdd (.tmp 150) (.con (.int .i64 1))) (oVal (.tmp 18) (kMove (.tmp 151)) oNil)))
def K9l4:K:=(kSeq (kSeq (kRegion K9r31 [149]) (kCond (.tmp 149) kSkip (kExit 6))) (kSeq (kBlock 7 (kSeq (kSeq (kRegion K9r32 [156]) (kCond (.tmp 156) (kExit 7) kSkip)) (kSeq (kRegion K9r33 [19]) (kSeq (kRegion K9r34 []) (kSeq (kRegion K9r35 [20,21]) (kSeq (kRegion K9r36 [22]) (kSeq (kSeq (kRegion K9r37 [23]) (kBlock 8 (kLoop K9l3))) (kSeq (kRegion K9r41 [193]) (kCond (.tmp 193) (kSeq (kRegion K9r42 [2]) kRet) kSkip))))))))) (kRegion K9r43 [18])))
def K9r44:OpsF:=(oCall (.tmp 194) (.con (.func 14 [] [])) [] (oVal (.tmp 2) (kMove (.tmp 194)) oNil))
theorem res9:Try.f9.results.toList=[.tmp 2]:=by kernel_rfl
end
end Go.Proofs.Ythbhjgbpjlnbcaa.code
