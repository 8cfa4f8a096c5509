/- The code of functions as the interpreter has it, region by region. -/
import Derived.Test.YtfekafjfidohdaaAbsTab
import Derived.Test.YtfekafjfidohdaaAbsWalk
import Derived.KernelRfl
set_option maxRecDepth 100000
namespace Go.Proofs.Ytfekafjfidohdaa.code
open Go.Abs
noncomputable section
def K31r0:OpsF:=(oVal (.tmp 2) (kMove (.con (.int .i64 0))) oNil)
def K31r1:OpsF:=(oVal (.tmp 3) (kMove (.con (.int .i64 0))) oNil)
def K31r2:OpsF:=(oVal (.tmp 6) (kMove (.tmp 0)) (oVal (.tmp 7) (kUn lenSlA (.tmp 6)) (oVal (.tmp 8) (kMove (.con (.int .i64 0))) oNil)))
def K31r3:OpsF:=(oVal (.tmp 9) (kInt aLss (.tmp 8) (.tmp 7)) oNil)
def K31r4:OpsF:=(oVal (.tmp 10) (kTwo (ixsA 1) (.tmp 6) (.tmp 8)) (oVal (.tmp 11) (kLoad none (.tmp 10)) (oVal (.tmp 5) (kMove (.tmp 11)) oNil)))
def K31r5:OpsF:=(oVal (.tmp 12) (kMove (.tmp 5)) (oVal (.tmp 13) (kMove (.tmp 3)) (oVal (.tmp 14) (kInt aNeq (.tmp 12) (.tmp 13)) oNil)))
def K31r6:OpsF:=(oVal (.tmp 15) (kMove (.tmp 5)) (oVal (.tmp 2) (kMove (.tmp 15)) oNil))
def K31r7:OpsF:=(oVal (.tmp 16) (kInt aAdd (.tmp 8) (.con (.int .i64 1))) (oVal (.tmp 8) (kMove (.tmp 16)) oNil))
def K31l0:K:=(kSeq (kRegion K31r3 [9]) (kSeq (kCond (.tmp 9) kSkip (kExit 0)) (kSeq (kBlock 1 (kSeq (kRegion K31r4 [5]) (kSeq (kRegion K31r5 [14]) (kCond (.tmp 14) (kSeq (kRegion K31r6 [2]) kRet) kSkip)))) (kRegion K31r7 [8]))))
def K31r8:OpsF:=(oVal (.tmp 17) (kMove (.tmp 3)) (oVal (.tmp 2) (kMove (.tmp 17)) oNil))
theorem res31:Try.f31.results.toList=[.tmp 2]:=by kernel_rfl
def K31:K:=(kSeq (kRegion K31r0 [2]) (kSeq (kRegion K31r1 [3]) (kSeq (kSeq (kRegion K31r2 [6,7,8]) (kBlock 0 (kLoop K31l0))) (kSeq (kRegion K31r8 [2]) kRet))))
theorem enter31 (cl:CallF) (a0:AV) (s:St):enterA Try.prog X cl 31 [a0] s Try.f31=finA Try.prog Try.f31 (K31 cl ⟨31,none,Try.f31.ntmps,X 31⟩ (paramsEnv 0 [a0] .nil) [] s) :=
  enterA_eq (b:=Try.f31.body.getD .skip) (by kernel_rfl) (by kernel_rfl) (by kernel_rfl) (by kernel_rfl) (by kernel_rfl)
def K61r0:OpsF:=(oVal (.tmp 6) (kMove (.con (.int .i64 0))) oNil)
def K61r1:OpsF:=(oVal (.tmp 8) (kMove (.tmp 0)) (oVal (.tmp 9) (kMove (.tmp 1)) (oVal (.tmp 10) (kInt aLss (.tmp 8) (.tmp 9)) (oVal (.tmp 7) (kMove (.tmp 10)) oNil))))
def K61r2:OpsF:=(oVal (.tmp 6) (kMove (.con (.int .i64 7))) oNil)
def K61r3:OpsF:=(oVal (.tmp 12) (kMove (.tmp 0)) (oVal (.tmp 13) (kMove (.tmp 2)) (oVal (.tmp 14) (kGtr (.tmp 12) (.tmp 13)) (oVal (.tmp 11) (kMove (.tmp 14)) oNil))))
def K61r4:OpsF:=(oVal (.tmp 6) (kMove (.con (.int .i64 6))) oNil)
def K61r5:OpsF:=(oVal (.tmp 6) (kMove (.con (.int .i64 0))) oNil)
theorem res61:Try.f61.results.toList=[.tmp 6]:=by kernel_rfl
def K61:K:=(kSeq (kRegion K61r0 [6]) (kSeq (kBlock 0 (kSeq (kRegion K61r1 [7]) (kCond (.tmp 7) (kSeq (kRegion K61r2 [6]) kRet) (kSeq (kRegion K61r3 [11]) (kCond (.tmp 11) (kSeq (kRegion K61r4 [6]) kRet) kSkip))))) (kSeq (kRegion K61r5 [6]) kRet)))
theorem enter61 (cl:CallF) (a0 a1 a2:AV) (s:St):enterA Try.prog X cl 61 [a0,a1,a2] s Try.f61=finA Try.prog Try.f61 (K61 cl ⟨61,none,Try.f61.ntmps,X 61⟩ (paramsEnv 0 [a0,a1,a2] .nil) [] s) :=
  enterA_eq (b:=Try.f61.body.getD .skip) (by kernel_rfl) (by kernel_rfl) (by kernel_rfl) (by kernel_rfl) (by kernel_rfl)
def K32r0:OpsF:=(oVal (.tmp 4) (kMove (.con (.int .i64 0))) oNil)
def K32r1s6:OpsF:=(oVal (.tmp 11) (kPick (.tmp 7) (.con (.bool true)) (.tmp 10)) oNil)
def K32r1s5:OpsF:=(oIf 7 false (oVal (.tmp 10) (kInt aGeq (.tmp 8) (.tmp 9)) K32r1s6) (oSkip (.tmp 10) K32r1s6))
def K32r1s4:OpsF:=(oIf 7 false (oVal (.tmp 9) (kMove (.tmp 1)) K32r1s5) (oSkip (.tmp 9) K32r1s5))
def K32r1:OpsF:=(oVal (.tmp 5) (kMove (.tmp 0)) (oVal (.tmp 6) (kInt aLss (.tmp 5) (.con (.int .i64 0))) (oVal (.tmp 7) (kMove (.tmp 6)) (oIf 7 false (oVal (.tmp 8) (kMove (.tmp 0)) K32r1s4) (oSkip (.tmp 8) K32r1s4)))))
def K32r2:OpsF:=(oVal (.tmp 4) (kMove (.con (.int .i64 3))) oNil)
def K32r3:OpsF:=(oVal (.tmp 4) (kMove (.con (.int .i64 0))) oNil)
theorem res32:Try.f32.results.toList=[.tmp 4]:=by kernel_rfl
def K32:K:=(kSeq (kRegion K32r0 [4]) (kSeq (kSeq (kRegion K32r1 [11]) (kCond (.tmp 11) (kSeq (kRegion K32r2 [4]) kRet) kSkip)) (kSeq (kRegion K32r3 [4]) kRet)))
theorem enter32 (cl:CallF) (a0 a1:AV) (s:St):enterA Try.prog X cl 32 [a0,a1] s Try.f32=finA Try.prog Try.f32 (K32 cl ⟨32,none,Try.f32.ntmps,X 32⟩ (paramsEnv 0 [a0,a1] .nil) [] s) :=
  enterA_eq (b:=Try.f32.body.getD .skip) (by kernel_rfl) (by kernel_rfl) (by kernel_rfl) (by kernel_rfl) (by kernel_rfl)
def K74r0:OpsF:=(oVal (.tmp 3) (kBox (tag 43) (.tmp 0)) (oVal (.tmp 6) (kMove (.con (.int .i64 0))) oNil))
def K74r1:OpsF:=(oEnd [] (oVal (.tmp 8) (kUn (fadA 0) (.tmp 3)) (oVal (.tmp 9) (kLoad none (.tmp 8)) (oVal (.tmp 10) (kMove (.tmp 1)) (oVal (.tmp 11) (kMove (.tmp 2)) (oCallT (some [13]) (.tmp 12) (.con (.func 35 [] [])) [(.tmp 9),(.tmp 10),(.tmp 11)] (oVal (.tmp 13) (kUn (fadA 1) (.tmp 3)) (oVal (.tmp 14) (kLoad none (.tmp 13)) (oVal (.tmp 15) (kMove (.tmp 1)) (oVal (.tmp 16) (kMove (.tmp 2)) (oCall (.tmp 17) (.con (.func 35 [] [])) [(.tmp 14),(.tmp 15),(.tmp 16)] (oVal (.tmp 18) (kBuildSlice [(.int .i64 0),(.int .i64 0)] 2 [(0,1,(.tmp 12)),(1,1,(.tmp 17))]) (oCall (.tmp 19) (.con (.func 31 [] [])) [(.tmp 18)] (oVal (.tmp 7) (kMove (.tmp 19)) oNil))))))))))))))
def K74r2:OpsF:=(oVal (.tmp 20) (kMove (.tmp 7)) (oVal (.tmp 21) (kInt aNeq (.tmp 20) (.con (.int .i64 0))) oNil))
def K74r3:OpsF:=(oVal (.tmp 22) (kMove (.tmp 7)) (oVal (.tmp 6) (kMove (.tmp 22)) oNil))
def K74r4:OpsF:=(oVal (.tmp 23) (kUn (fadA 0) (.tmp 3)) (oVal (.tmp 24) (kLoad none (.tmp 23)) (oVal (.tmp 25) (kUn (fadA 1) (.tmp 3)) (oVal (.tmp 26) (kLoad none (.tmp 25)) (oVal (.tmp 27) (kGtr (.tmp 24) (.tmp 26)) oNil)))))
def K74r5:OpsF:=(oVal (.tmp 6) (kMove (.con (.int .i64 5))) oNil)
def K74r6:OpsF:=(oVal (.tmp 6) (kMove (.con (.int .i64 0))) oNil)
theorem res74:Try.f74.results.toList=[.tmp 6]:=by kernel_rfl
def K74:K:=(kSeq (kRegion K74r0 [3,6]) (kSeq (kSeq (kRegionD K74r1 [7]) (kSeq (kRegion K74r2 [21]) (kCond (.tmp 21) (kSeq (kRegion K74r3 [6]) kRet) kSkip))) (kSeq (kSeq (kRegion K74r4 [27]) (kCond (.tmp 27) (kSeq (kRegion K74r5 [6]) kRet) kSkip)) (kSeq (kRegion K74r6 [6]) kRet))))
theorem enter74 (cl:CallF) (a0 a1 a2:AV) (s:St):enterA Try.prog X cl 74 [a0,a1,a2] s Try.f74=finA Try.prog Try.f74 (K74 cl ⟨74,none,Try.f74.ntmps,X 74⟩ (paramsEnv 0 [a0,a1,a2] .nil) [] s) :=
  enterA_eq (b:=Try.f74.body.getD .skip) (by kernel_rfl) (by kernel_rfl) (by kernel_rfl) (by kernel_rfl) (by kernel_rfl)
def K35r0:OpsF:=(oVal (.tmp 6) (kMove (.con (.int .i64 0))) oNil)
def K35r1s7:OpsF:=(oVal (.tmp 14) (kPick (.tmp 10) (.con (.bool true)) (.tmp 13)) oNil)
def K35r1s6:OpsF:=(oIf 10 false (oVal (.tmp 13) (kGtr (.tmp 11) (.tmp 12)) K35r1s7) (oSkip (.tmp 13) K35r1s7))
def K35r1s5:OpsF:=(oIf 10 false (oVal (.tmp 12) (kMove (.tmp 2)) K35r1s6) (oSkip (.tmp 12) K35r1s6))
def K35r1:OpsF:=(oVal (.tmp 7) (kMove (.tmp 0)) (oVal (.tmp 8) (kMove (.tmp 1)) (oVal (.tmp 9) (kInt aLss (.tmp 7) (.tmp 8)) (oVal (.tmp 10) (kMove (.tmp 9)) (oIf 10 false (oVal (.tmp 11) (kMove (.tmp 0)) K35r1s5) (oSkip (.tmp 11) K35r1s5))))))
def K35r2:OpsF:=(oVal (.tmp 6) (kMove (.con (.int .i64 1))) oNil)
def K35r3:OpsF:=(oVal (.tmp 6) (kMove (.con (.int .i64 0))) oNil)
theorem res35:Try.f35.results.toList=[.tmp 6]:=by kernel_rfl
def K35:K:=(kSeq (kRegion K35r0 [6]) (kSeq (kSeq (kRegion K35r1 [14]) (kCond (.tmp 14) (kSeq (kRegion K35r2 [6]) kRet) kSkip)) (kSeq (kRegion K35r3 [6]) kRet)))
theorem enter35 (cl:CallF) (a0 a1 a2:AV) (s:St):enterA Try.prog X cl 35 [a0,a1,a2] s Try.f35=finA Try.prog Try.f35 (K35 cl ⟨35,none,Try.f35.ntmps,X 35⟩ (paramsEnv 0 [a0,a1,a2] .nil) [] s) :=
  enterA_eq (b:=Try.f35.body.getD .skip) (by kernel_rfl) (by kernel_rfl) (by kernel_rfl) (by kernel_rfl) (by kernel_rfl)
def K27r0:OpsF:=(oVal (.tmp 1) (kBox (tag 30) (.tmp 0)) (oVal (.tmp 2) (kMove (.con (.int .i64 0))) oNil))
def K27r1:OpsF:=(oEnd [] (oVal (.tmp 3) (kLoad (some 5) (.tmp 1)) (oCallT (some [1,1,9,1]) (.tmp 4) (.con (.func 46 [] [])) [(.tmp 3)] (oVal (.tmp 5) (kLoad (some 5) (.tmp 1)) (oCallT (some [1,9,1]) (.tmp 6) (.con (.func 47 [] [])) [(.tmp 5)] (oVal (.tmp 7) (kLoad (some 5) (.tmp 1)) (oCallT (some [9,1]) (.tmp 8) (.con (.func 48 [] [])) [(.tmp 7)] (oVal (.tmp 9) (kUn (fadA 4) (.tmp 1)) (oVal (.tmp 10) (kLoad none (.tmp 9)) (oCallT (some [1]) (.tmp 11) (.con (.func 35 [] [])) [(.tmp 10),(.con (.int .i64 0)),(.con (.int .i64 8))] (oVal (.tmp 12) (kLoad (some 5) (.tmp 1)) (oCall (.tmp 13) (.con (.func 49 [] [])) [(.tmp 12)] (oVal (.tmp 14) (kBuildSlice [(.int .i64 0),(.int .i64 0),(.int .i64 0),(.int .i64 0),(.int .i64 0)] 5 [(0,1,(.tmp 4)),(1,1,(.tmp 6)),(2,1,(.tmp 8)),(3,1,(.tmp 11)),(4,1,(.tmp 13))]) (oCall (.tmp 15) (.con (.func 31 [] [])) [(.tmp 14)] (oVal (.tmp 2) (kMove (.tmp 15)) oNil)))))))))))))))
theorem res27:Try.f27.results.toList=[.tmp 2]:=by kernel_rfl
def K27:K:=(kSeq (kRegion K27r0 [1,2]) (kSeq (kRegionD K27r1 [2]) kRet))
theorem enter27 (cl:CallF) (a0:AV) (s:St):enterA Try.prog X cl 27 [a0] s Try.f27=finA Try.prog Try.f27 (K27 cl ⟨27,none,Try.f27.ntmps,X 27⟩ (paramsEnv 0 [a0] .nil) [] s) :=
  enterA_eq (b:=Try.f27.body.getD .skip) (by kernel_rfl) (by kernel_rfl) (by kernel_rfl) (by kernel_rfl) (by kernel_rfl)
def K46r0:OpsF:=(oVal (.tmp 1) (kBox (tag 30) (.tmp 0)) (oVal (.tmp 2) (kMove (.con (.int .i64 0))) oNil))
def K46r1:OpsF:=(oVal (.tmp 7) (kUn (fadA 0) (.tmp 1)) (oVal (.tmp 8) (kLoad none (.tmp 7)) (oVal (.tmp 9) (kUn lenSlA (.tmp 8)) (oCall (.tmp 10) (.con (.func 61 [] [])) [(.tmp 9),(.con (.int .i64 1)),(.con (.int .i64 5))] (oVal (.tmp 3) (kMove (.tmp 10)) oNil)))))
def K46r2:OpsF:=(oVal (.tmp 11) (kMove (.tmp 3)) (oVal (.tmp 12) (kInt aNeq (.tmp 11) (.con (.int .i64 0))) oNil))
def K46r3:OpsF:=(oVal (.tmp 13) (kMove (.tmp 3)) (oVal (.tmp 2) (kMove (.tmp 13)) oNil))
def K46r4:OpsF:=(oVal (.tmp 14) (kUn (fadA 0) (.tmp 1)) (oVal (.tmp 15) (kLoad none (.tmp 14)) (oVal (.tmp 16) (kUn lenSlA (.tmp 15)) (oVal (.tmp 17) (kMove (.con (.int .i64 0))) oNil))))
def K46r5:OpsF:=(oVal (.tmp 18) (kInt aLss (.tmp 17) (.tmp 16)) oNil)
def K46r6:OpsF:=(oVal (.tmp 19) (kTwo (ixsA 3) (.tmp 15) (.tmp 17)) (oVal (.tmp 20) (kLoad (some 3) (.tmp 19)) (oVal (.tmp 5) (kAlloc [(.int .i64 0),(.int .i64 0),(.int .i64 0)] (tag 52)) (oVal .none (kStore 3 (.tmp 5) (.tmp 20)) oNil))))
def K46r7:OpsF:=(oEnd [] (oVal (.tmp 21) (kUn (fadA 0) (.tmp 5)) (oVal (.tmp 22) (kLoad none (.tmp 21)) (oCallT (some [24]) (.tmp 23) (.con (.func 35 [] [])) [(.tmp 22),(.con (.int .i64 1)),(.con (.int .i64 1000000))] (oVal (.tmp 24) (kUn (fadA 1) (.tmp 5)) (oVal (.tmp 25) (kLoad (some 2) (.tmp 24)) (oCall (.tmp 26) (.con (.func 60 [] [])) [(.tmp 25),(.con (.int .i64 10000))] (oVal (.tmp 27) (kBuildSlice [(.int .i64 0),(.int .i64 0)] 2 [(0,1,(.tmp 23)),(1,1,(.tmp 26))]) (oCall (.tmp 28) (.con (.func 31 [] [])) [(.tmp 27)] (oVal (.tmp 6) (kMove (.tmp 28)) oNil))))))))))
def K46r8:OpsF:=(oVal (.tmp 29) (kMove (.tmp 6)) (oVal (.tmp 30) (kInt aNeq (.tmp 29) (.con (.int .i64 0))) oNil))
def K46r9:OpsF:=(oVal (.tmp 31) (kMove (.tmp 6)) (oVal (.tmp 2) (kMove (.tmp 31)) oNil))
def K46r10:OpsF:=(oVal (.tmp 32) (kInt aAdd (.tmp 17) (.con (.int .i64 1))) (oVal (.tmp 17) (kMove (.tmp 32)) oNil))
def K46l0:K:=(kSeq (kRegion K46r5 [18]) (kSeq (kCond (.tmp 18) kSkip (kExit 0)) (kSeq (kBlock 1 (kSeq (kRegion K46r6 [5]) (kSeq (kRegionD K46r7 [6]) (kSeq (kRegion K46r8 [30]) (kCond (.tmp 30) (kSeq (kRegion K46r9 [2]) kRet) kSkip))))) (kRegion K46r10 [17]))))
def K46r11:OpsF:=(oVal (.tmp 2) (kMove (.con (.int .i64 0))) oNil)
theorem res46:Try.f46.results.toList=[.tmp 2]:=by kernel_rfl
def K46:K:=(kSeq (kRegion K46r0 [1,2]) (kSeq (kSeq (kRegion K46r1 [3]) (kSeq (kRegion K46r2 [12]) (kCond (.tmp 12) (kSeq (kRegion K46r3 [2]) kRet) kSkip))) (kSeq (kSeq (kRegion K46r4 [15,16,17]) (kBlock 0 (kLoop K46l0))) (kSeq (kRegion K46r11 [2]) kRet))))
theorem enter46 (cl:CallF) (a0:AV) (s:St):enterA Try.prog X cl 46 [a0] s Try.f46=finA Try.prog Try.f46 (K46 cl ⟨46,none,Try.f46.ntmps,X 46⟩ (paramsEnv 0 [a0] .nil) [] s) :=
  enterA_eq (b:=Try.f46.body.getD .skip) (by kernel_rfl) (by kernel_rfl) (by kernel_rfl) (by kernel_rfl) (by kernel_rfl)
def K47r0:OpsF:=(oVal (.tmp 1) (kBox (tag 30) (.tmp 0)) (oVal (.tmp 2) (kMove (.con (.int .i64 0))) oNil))
def K47r1:OpsF:=(oVal (.tmp 8) (kUn (fadA 1) (.tmp 1)) (oVal (.tmp 9) (kLoad none (.tmp 8)) (oVal (.tmp 10) (kUn lenSlA (.tmp 9)) (oCall (.tmp 11) (.con (.func 61 [] [])) [(.tmp 10),(.con (.int .i64 0)),(.con (.int .i64 6))] (oVal (.tmp 3) (kMove (.tmp 11)) oNil)))))
def K47r2:OpsF:=(oVal (.tmp 12) (kMove (.tmp 3)) (oVal (.tmp 13) (kInt aNeq (.tmp 12) (.con (.int .i64 0))) oNil))
def K47r3:OpsF:=(oVal (.tmp 14) (kMove (.tmp 3)) (oVal (.tmp 2) (kMove (.tmp 14)) oNil))
def K47r4:OpsF:=(oVal (.tmp 15) (kUn (fadA 1) (.tmp 1)) (oVal (.tmp 16) (kLoad none (.tmp 15)) (oVal (.tmp 17) (kUn lenSlA (.tmp 16)) (oVal (.tmp 18) (kMove (.con (.int .i64 0))) oNil))))
def K47r5:OpsF:=(oVal (.tmp 19) (kInt aLss (.tmp 18) (.tmp 17)) oNil)
def K47r6:OpsF:=(oVal (.tmp 20) (kTwo (ixsA 4) (.tmp 16) (.tmp 18)) (oVal (.tmp 21) (kLoad (some 4) (.tmp 20)) (oVal (.tmp 5) (kAlloc [(.int .i64 0),(.int .i64 0),(.int .i64 0),(.int .i64 0)] (tag 56)) (oVal .none (kStore 4 (.tmp 5) (.tmp 21)) oNil))))
def K47r7:OpsF:=(oEnd [] (oVal (.tmp 22) (kUn (fadA 0) (.tmp 5)) (oVal (.tmp 23) (kLoad none (.tmp 22)) (oVal (.tmp 24) (kUn (fadA 0) (.tmp 1)) (oVal (.tmp 25) (kLoad none (.tmp 24)) (oVal (.tmp 26) (kUn lenSlA (.tmp 25)) (oCallT (some [28,30,31]) (.tmp 27) (.con (.func 32 [] [])) [(.tmp 23),(.tmp 26)] (oVal (.tmp 28) (kUn (fadA 1) (.tmp 5)) (oVal (.tmp 29) (kLoad none (.tmp 28)) (oVal (.tmp 30) (kUn (fadA 0) (.tmp 1)) (oVal (.tmp 31) (kLoad none (.tmp 30)) (oVal (.tmp 32) (kUn lenSlA (.tmp 31)) (oCall (.tmp 33) (.con (.func 32 [] [])) [(.tmp 29),(.tmp 32)] (oVal (.tmp 34) (kBuildSlice [(.int .i64 0),(.int .i64 0)] 2 [(0,1,(.tmp 27)),(1,1,(.tmp 33))]) (oCall (.tmp 35) (.con (.func 31 [] [])) [(.tmp 34)] (oVal (.tmp 6) (kMove (.tmp 35)) oNil))))))))))))))))
def K47r8:OpsF:=(oVal (.tmp 36) (kMove (.tmp 6)) (oVal (.tmp 37) (kInt aNeq (.tmp 36) (.con (.int .i64 0))) oNil))
def K47r9:OpsF:=(oVal (.tmp 38) (kMove (.tmp 6)) (oVal (.tmp 2) (kMove (.tmp 38)) oNil))
def K47r10:OpsF:=(oVal (.tmp 39) (kUn (fadA 0) (.tmp 5)) (oVal (.tmp 40) (kLoad none (.tmp 39)) (oVal (.tmp 41) (kUn (fadA 1) (.tmp 5)) (oVal (.tmp 42) (kLoad none (.tmp 41)) (oVal (.tmp 43) (kInt aEql (.tmp 40) (.tmp 42)) oNil)))))
def K47r11:OpsF:=(oVal (.tmp 2) (kMove (.con (.int .i64 2))) oNil)
def K47r12:OpsF:=(oVal (.tmp 44) (kUn (fadA 2) (.tmp 5)) (oVal (.tmp 45) (kLoad (some 2) (.tmp 44)) (oCall (.tmp 46) (.con (.func 60 [] [])) [(.tmp 45),(.con (.int .i64 20000))] (oVal (.tmp 7) (kMove (.tmp 46)) oNil))))
def K47r13:OpsF:=(oVal (.tmp 47) (kMove (.tmp 7)) (oVal (.tmp 48) (kInt aNeq (.tmp 47) (.con (.int .i64 0))) oNil))
def K47r14:OpsF:=(oVal (.tmp 49) (kMove (.tmp 7)) (oVal (.tmp 2) (kMove (.tmp 49)) oNil))
def K47r15:OpsF:=(oVal (.tmp 50) (kInt aAdd (.tmp 18) (.con (.int .i64 1))) (oVal (.tmp 18) (kMove (.tmp 50)) oNil))
def K47l0:K:=(kSeq (kRegion K47r5 [19]) (kSeq (kCond (.tmp 19) kSkip (kExit 0)) (kSeq (kBlock 1 (kSeq (kRegion K47r6 [5]) (kSeq (kSeq (kRegionD K47r7 [6]) (kSeq (kRegion K47r8 [37]) (kCond (.tmp 37) (kSeq (kRegion K47r9 [2]) kRet) kSkip))) (kSeq (kSeq (kRegion K47r10 [43]) (kCond (.tmp 43) (kSeq (kRegion K47r11 [2]) kRet) kSkip)) (kSeq (kRegion K47r12 [7]) (kSeq (kRegion K47r13 [48]) (kCond (.tmp 48) (kSeq (kRegion K47r14 [2]) kRet) kSkip))))))) (kRegion K47r15 [18]))))
def K47r16:OpsF:=(oVal (.tmp 2) (kMove (.con (.int .i64 0))) oNil)
theorem res47:Try.f47.results.toList=[.tmp 2]:=by kernel_rfl
def K47:K:=(kSeq (kRegion K47r0 [1,2]) (kSeq (kSeq (kRegion K47r1 [3]) (kSeq (kRegion K47r2 [13]) (kCond (.tmp 13) (kSeq (kRegion K47r3 [2]) kRet) kSkip))) (kSeq (kSeq (kRegion K47r4 [16,17,18]) (kBlock 0 (kLoop K47l0))) (kSeq (kRegion K47r16 [2]) kRet))))
theorem enter47 (cl:CallF) (a0:AV) (s:St):enterA Try.prog X cl 47 [a0] s Try.f47=finA Try.prog Try.f47 (K47 cl ⟨47,none,Try.f47.ntmps,X 47⟩ (paramsEnv 0 [a0] .nil) [] s) :=
  enterA_eq (b:=Try.f47.body.getD .skip) (by kernel_rfl) (by kernel_rfl) (by kernel_rfl) (by kernel_rfl) (by kernel_rfl)
def K48r0:OpsF:=(oVal (.tmp 1) (kBox (tag 30) (.tmp 0)) (oVal (.tmp 2) (kMove (.con (.int .i64 0))) oNil))
def K48r1:OpsF:=(oVal (.tmp 7) (kUn (fadA 2) (.tmp 1)) (oVal (.tmp 8) (kLoad none (.tmp 7)) (oVal (.tmp 9) (kUn lenSlA (.tmp 8)) (oCall (.tmp 10) (.con (.func 61 [] [])) [(.tmp 9),(.con (.int .i64 1)),(.con (.int .i64 3))] (oVal (.tmp 3) (kMove (.tmp 10)) oNil)))))
def K48r2:OpsF:=(oVal (.tmp 11) (kMove (.tmp 3)) (oVal (.tmp 12) (kInt aNeq (.tmp 11) (.con (.int .i64 0))) oNil))
def K48r3:OpsF:=(oVal (.tmp 13) (kMove (.tmp 3)) (oVal (.tmp 2) (kMove (.tmp 13)) oNil))
def K48r4:OpsF:=(oVal (.tmp 14) (kUn (fadA 2) (.tmp 1)) (oVal (.tmp 15) (kLoad none (.tmp 14)) (oVal (.tmp 16) (kUn lenSlA (.tmp 15)) (oVal (.tmp 17) (kMove (.con (.int .i64 0))) oNil))))
def K48r5:OpsF:=(oVal (.tmp 18) (kInt aLss (.tmp 17) (.tmp 16)) oNil)
def K48r6:OpsF:=(oVal (.tmp 19) (kTwo (ixsA 4) (.tmp 15) (.tmp 17)) (oVal (.tmp 20) (kLoad (some 4) (.tmp 19)) (oVal (.tmp 5) (kAlloc [(.int .i64 0),(.int .i64 0),(.int .i64 0),(.int .i64 0)] (tag 71)) (oVal .none (kStore 4 (.tmp 5) (.tmp 20)) oNil))))
def K48r7:OpsF:=(oEnd [] (oVal (.tmp 21) (kUn (fadA 0) (.tmp 5)) (oVal (.tmp 22) (kLoad (some 2) (.tmp 21)) (oCallT (some [24]) (.tmp 23) (.con (.func 60 [] [])) [(.tmp 22),(.con (.int .i64 10000))] (oVal (.tmp 24) (kUn (fadA 2) (.tmp 5)) (oVal (.tmp 25) (kLoad (some 2) (.tmp 24)) (oCall (.tmp 26) (.con (.func 60 [] [])) [(.tmp 25),(.con (.int .i64 10000))] (oVal (.tmp 27) (kBuildSlice [(.int .i64 0),(.int .i64 0)] 2 [(0,1,(.tmp 23)),(1,1,(.tmp 26))]) (oCall (.tmp 28) (.con (.func 31 [] [])) [(.tmp 27)] (oVal (.tmp 6) (kMove (.tmp 28)) oNil))))))))))
def K48r8:OpsF:=(oVal (.tmp 29) (kMove (.tmp 6)) (oVal (.tmp 30) (kInt aNeq (.tmp 29) (.con (.int .i64 0))) oNil))
def K48r9:OpsF:=(oVal (.tmp 31) (kMove (.tmp 6)) (oVal (.tmp 2) (kMove (.tmp 31)) oNil))
def K48r10:OpsF:=(oVal (.tmp 32) (kInt aAdd (.tmp 17) (.con (.int .i64 1))) (oVal (.tmp 17) (kMove (.tmp 32)) oNil))
def K48l0:K:=(kSeq (kRegion K48r5 [18]) (kSeq (kCond (.tmp 18) kSkip (kExit 0)) (kSeq (kBlock 1 (kSeq (kRegion K48r6 [5]) (kSeq (kRegionD K48r7 [6]) (kSeq (kRegion K48r8 [30]) (kCond (.tmp 30) (kSeq (kRegion K48r9 [2]) kRet) kSkip))))) (kRegion K48r10 [17]))))
def K48r11:OpsF:=(oVal (.tmp 2) (kMove (.con (.int .i64 0))) oNil)
theorem res48:Try.f48.results.toList=[.tmp 2]:=by kernel_rfl
def K48:K:=(kSeq (kRegion K48r0 [1,2]) (kSeq (kSeq (kRegion K48r1 [3]) (kSeq (kRegion K48r2 [12]) (kCond (.tmp 12) (kSeq (kRegion K48r3 [2]) kRet) kSkip))) (kSeq (kSeq (kRegion K48r4 [15,16,17]) (kBlock 0 (kLoop K48l0))) (kSeq (kRegion K48r11 [2]) kRet))))
theorem enter48 (cl:CallF) (a0:AV) (s:St):enterA Try.prog X cl 48 [a0] s Try.f48=finA Try.prog Try.f48 (K48 cl ⟨48,none,Try.f48.ntmps,X 48⟩ (paramsEnv 0 [a0] .nil) [] s) :=
  enterA_eq (b:=Try.f48.body.getD .skip) (by kernel_rfl) (by kernel_rfl) (by kernel_rfl) (by kernel_rfl) (by kernel_rfl)
def K49r0:OpsF:=(oVal (.tmp 1) (kBox (tag 30) (.tmp 0)) (oVal (.tmp 2) (kMove (.con (.int .i64 0))) oNil))
def K49r1:OpsF:=(oVal (.tmp 7) (kUn (fadA 3) (.tmp 1)) (oVal (.tmp 8) (kLoad none (.tmp 7)) (oVal (.tmp 9) (kUn lenSlA (.tmp 8)) (oCall (.tmp 10) (.con (.func 61 [] [])) [(.tmp 9),(.con (.int .i64 0)),(.con (.int .i64 6))] (oVal (.tmp 3) (kMove (.tmp 10)) oNil)))))
def K49r2:OpsF:=(oVal (.tmp 11) (kMove (.tmp 3)) (oVal (.tmp 12) (kInt aNeq (.tmp 11) (.con (.int .i64 0))) oNil))
def K49r3:OpsF:=(oVal (.tmp 13) (kMove (.tmp 3)) (oVal (.tmp 2) (kMove (.tmp 13)) oNil))
def K49r4:OpsF:=(oVal (.tmp 14) (kUn (fadA 3) (.tmp 1)) (oVal (.tmp 15) (kLoad none (.tmp 14)) (oVal (.tmp 16) (kUn lenSlA (.tmp 15)) (oVal (.tmp 17) (kMove (.con (.int .i64 0))) oNil))))
def K49r5:OpsF:=(oVal (.tmp 18) (kInt aLss (.tmp 17) (.tmp 16)) oNil)
def K49r6:OpsF:=(oVal (.tmp 19) (kTwo (ixsA 4) (.tmp 15) (.tmp 17)) (oVal (.tmp 20) (kLoad (some 4) (.tmp 19)) (oVal (.tmp 5) (kAlloc [(.int .i64 0),(.int .i64 0),(.int .i64 0),(.int .i64 0)] (tag 58)) (oVal .none (kStore 4 (.tmp 5) (.tmp 20)) oNil))))
def K49r7:OpsF:=(oEnd [] (oVal (.tmp 21) (kUn (fadA 0) (.tmp 5)) (oVal (.tmp 22) (kLoad none (.tmp 21)) (oVal (.tmp 23) (kUn (fadA 2) (.tmp 1)) (oVal (.tmp 24) (kLoad none (.tmp 23)) (oVal (.tmp 25) (kUn lenSlA (.tmp 24)) (oCallT (some [27,29,30,33,35,38]) (.tmp 26) (.con (.func 32 [] [])) [(.tmp 22),(.tmp 25)] (oVal (.tmp 27) (kUn (fadA 2) (.tmp 5)) (oVal (.tmp 28) (kLoad none (.tmp 27)) (oVal (.tmp 29) (kUn (fadA 0) (.tmp 1)) (oVal (.tmp 30) (kLoad none (.tmp 29)) (oVal (.tmp 31) (kUn lenSlA (.tmp 30)) (oCallT (some [33,35,38]) (.tmp 32) (.con (.func 32 [] [])) [(.tmp 28),(.tmp 31)] (oVal (.tmp 33) (kUn (fadA 1) (.tmp 5)) (oVal (.tmp 34) (kLoad none (.tmp 33)) (oVal (.tmp 35) (kUn (fadA 4) (.tmp 1)) (oVal (.tmp 36) (kLoad none (.tmp 35)) (oCallT (some [38]) (.tmp 37) (.con (.func 35 [] [])) [(.tmp 34),(.con (.int .i64 0)),(.tmp 36)] (oVal (.tmp 38) (kUn (fadA 3) (.tmp 5)) (oVal (.tmp 39) (kLoad none (.tmp 38)) (oCall (.tmp 40) (.con (.func 35 [] [])) [(.tmp 39),(.con (.int .i64 0)),(.con (.int .i64 2000000))] (oVal (.tmp 41) (kBuildSlice [(.int .i64 0),(.int .i64 0),(.int .i64 0),(.int .i64 0)] 4 [(0,1,(.tmp 26)),(1,1,(.tmp 32)),(2,1,(.tmp 37)),(3,1,(.tmp 40))]) (oCall (.tmp 42) (.con (.func 31 [] [])) [(.tmp 41)] (oVal (.tmp 6) (kMove (.tmp 42)) oNil))))))))))))))))))))))))
def K49r8:OpsF:=(oVal (.tmp 43) (kMove (.tmp 6)) (oVal (.tmp 44) (kInt aNeq (.tmp 43) (.con (.int .i64 0))) oNil))
def K49r9:OpsF:=(oVal (.tmp 45) (kMove (.tmp 6)) (oVal (.tmp 2) (kMove (.tmp 45)) oNil))
def K49r10:OpsF:=(oVal (.tmp 46) (kInt aAdd (.tmp 17) (.con (.int .i64 1))) (oVal (.tmp 17) (kMove (.tmp 46)) oNil))
def K49l0:K:=(kSeq (kRegion K49r5 [18]) (kSeq (kCond (.tmp 18) kSkip (kExit 0)) (kSeq (kBlock 1 (kSeq (kRegion K49r6 [5]) (kSeq (kRegionD K49r7 [6]) (kSeq (kRegion K49r8 [44]) (kCond (.tmp 44) (kSeq (kRegion K49r9 [2]) kRet) kSkip))))) (kRegion K49r10 [17]))))
def K49r11:OpsF:=(oVal (.tmp 2) (kMove (.con (.int .i64 0))) oNil)
theorem res49:Try.f49.results.toList=[.tmp 2]:=by kernel_rfl
def K49:K:=(kSeq (kRegion K49r0 [1,2]) (kSeq (kSeq (kRegion K49r1 [3]) (kSeq (kRegion K49r2 [12]) (kCond (.tmp 12) (kSeq (kRegion K49r3 [2]) kRet) kSkip))) (kSeq (kSeq (kRegion K49r4 [15,16,17]) (kBlock 0 (kLoop K49l0))) (kSeq (kRegion K49r11 [2]) kRet))))
theorem enter49 (cl:CallF) (a0:AV) (s:St):enterA Try.prog X cl 49 [a0] s Try.f49=finA Try.prog Try.f49 (K49 cl ⟨49,none,Try.f49.ntmps,X 49⟩ (paramsEnv 0 [a0] .nil) [] s) :=
  enterA_eq (b:=Try.f49.body.getD .skip) (by kernel_rfl) (by kernel_rfl) (by kernel_rfl) (by kernel_rfl) (by kernel_rfl)
def K60r0:OpsF:=(oVal (.tmp 2) (kBox (tag 43) (.tmp 0)) (oVal (.tmp 4) (kMove (.con (.int .i64 0))) oNil))
def K60r1:OpsF:=(oVal (.tmp 5) (kLoad (some 2) (.tmp 2)) (oVal (.tmp 6) (kMove (.tmp 1)) (oVal (.tmp 7) (kUn negA (.tmp 6)) (oVal (.tmp 8) (kMove (.tmp 1)) (oCall (.tmp 9) (.con (.func 74 [] [])) [(.tmp 5),(.tmp 7),(.tmp 8)] (oVal (.tmp 4) (kMove (.tmp 9)) oNil))))))
theorem res60:Try.f60.results.toList=[.tmp 4]:=by kernel_rfl
def K60:K:=(kSeq (kRegion K60r0 [2,4]) (kSeq (kRegion K60r1 [4]) kRet))
theorem enter60 (cl:CallF) (a0 a1:AV) (s:St):enterA Try.prog X cl 60 [a0,a1] s Try.f60=finA Try.prog Try.f60 (K60 cl ⟨60,none,Try.f60.ntmps,X 60⟩ (paramsEnv 0 [a0,a1] .nil) [] s) :=
  enterA_eq (b:=Try.f60.body.getD .skip) (by kernel_rfl) (by kernel_rfl) (by kernel_rfl) (by kernel_rfl) (by kernel_rfl)
end
end Go.Proofs.Ytfekafjfidohdaa.code
set_option maxRecDepth 100000
namespace Go.Proofs.Ytfekafjfidohdaa.code
open Go.Abs
noncomputable section
def K28r0:OpsF:=(oVal (.tmp 1) (kBox (tag 30) (.tmp 0)) (oVal (.tmp 2) (kAlloc [.nilslice] (tag 77)) (oVal (.tmp 3) (kAlloc [(.bool false)] (tag 4)) oNil)))
def K28r1:OpsF:=(oVal (.tmp 6) (kLoad (some 5) (.tmp 1)) (oCall (.tmp 7) (.con (.func 50 [] [])) [(.tmp 6)] (oVal (.tmp 4) (kAlloc [.nilslice] (tag 77)) (oVal .none (kStore 1 (.tmp 4) (.tmp 7)) oNil))))
def K28r2:OpsF:=(oVal (.tmp 8) (kLoad (some 5) (.tmp 1)) (oCall (.tmp 9) (.con (.func 51 [] [])) [(.tmp 8)] oNil))
def K28r3:OpsF:=(oVal (.tmp 17) (kLoad none (.tmp 4)) (oVal .none (kStore 1 (.tmp 2) (.tmp 17)) (oVal .none (kStore 1 (.tmp 3) (.con (.bool true))) oNil)))
theorem res28:Try.f28.results.toList=[.cell 2 77,.cell 3 4]:=by kernel_rfl
def K28:K:=(kSeq (kRegion K28r0 [1,2,3]) (kSeq (kRegion K28r1 [4]) (kSeq (kSeq (kRegion K28r2 [9]) (kBlock 0 (kRange (.tmp 9) [10] (rangeAt Try.f28 0).1 (rangeAt Try.f28 0).2))) (kSeq (kRegion K28r3 []) kRet))))
theorem enter28 (cl:CallF) (a0:AV) (s:St):enterA Try.prog X cl 28 [a0] s Try.f28=finA Try.prog Try.f28 (K28 cl ⟨28,none,Try.f28.ntmps,X 28⟩ (paramsEnv 0 [a0] .nil) [] s) :=
  enterA_eq (b:=Try.f28.body.getD .skip) (by kernel_rfl) (by kernel_rfl) (by kernel_rfl) (by kernel_rfl) (by kernel_rfl)
def K28a0r0:OpsF:=(oVal (.tmp 5) (kAlloc [(.int .i64 0),(.int .i64 0),(.int .i64 0),(.int .i64 0)] (tag 109)) (oVal .none (kStore 4 (.tmp 5) (.tmp 10)) oNil))
def K28a0:K:=(kRegion K28a0r0 [5])
theorem code28a0:codeK Try.prog (X 28) Try.f28.ntmps (rangeAt Try.f28 0).1=some K28a0:=by kernel_rfl
def K28b0r0:OpsF:=(oVal (.tmp 11) (kLoad none (.tmp 4)) (oVal (.tmp 12) (kLoad (some 4) (.tmp 5)) (oCall (.tmp 13) (.con (.func 52 [] [])) [(.tmp 11),(.tmp 12)] oNil)))
def K28b0r1:OpsF:=(oVal .none (kStore 1 (.tmp 2) (.con .nilslice)) (oVal .none (kStore 1 (.tmp 3) (.con (.bool false))) oNil))
def K28b0r2:OpsF:=(oVal (.tmp 14) (kLoad none (.tmp 4)) (oVal (.tmp 15) (kLoad (some 4) (.tmp 5)) (oCall (.tmp 16) (.con (.func 53 [] [])) [(.tmp 14),(.tmp 15)] (oVal .none (kStore 1 (.tmp 4) (.tmp 16)) oNil))))
def K28b0:K:=(kBlock 1 (kSeq (kSeq (kRegion K28b0r0 [13]) (kCond (.tmp 13) (kSeq (kRegion K28b0r1 []) kRet) kSkip)) (kRegion K28b0r2 [])))
theorem code28b0:codeK Try.prog (X 28) Try.f28.ntmps (rangeAt Try.f28 0).2=some K28b0:=by kernel_rfl
def K50r0:OpsF:=(oVal (.tmp 1) (kBox (tag 30) (.tmp 0)) (oVal (.tmp 2) (kMove (.con .nilslice)) oNil))
def K50r1:OpsF:=(oVal (.tmp 8) (kBuild [(.int .i64 0),(.int .i64 0)] []) (oVal (.tmp 9) (kBuildSlice [(.int .i64 0),(.int .i64 0)] 1 [(0,2,(.tmp 8))]) (oVal (.tmp 10) (kBuildSlice [.nilslice] 1 [(0,1,(.tmp 9))]) (oVal (.tmp 3) (kAlloc [.nilslice] (tag 77)) (oVal .none (kStore 1 (.tmp 3) (.tmp 10)) oNil)))))
def K50r2:OpsF:=(oVal (.tmp 11) (kLoad (some 5) (.tmp 1)) (oCall (.tmp 12) (.con (.func 62 [] [])) [(.tmp 11)] oNil))
def K50r3:OpsF:=(oVal (.tmp 55) (kLoad none (.tmp 3)) (oVal (.tmp 2) (kMove (.tmp 55)) oNil))
theorem res50:Try.f50.results.toList=[.tmp 2]:=by kernel_rfl
def K50:K:=(kSeq (kRegion K50r0 [1,2]) (kSeq (kRegion K50r1 [3]) (kSeq (kSeq (kRegion K50r2 [12]) (kBlock 0 (kRange (.tmp 12) [13] (rangeAt Try.f50 0).1 (rangeAt Try.f50 0).2))) (kSeq (kRegion K50r3 [2]) kRet))))
theorem enter50 (cl:CallF) (a0:AV) (s:St):enterA Try.prog X cl 50 [a0] s Try.f50=finA Try.prog Try.f50 (K50 cl ⟨50,none,Try.f50.ntmps,X 50⟩ (paramsEnv 0 [a0] .nil) [] s) :=
  enterA_eq (b:=Try.f50.body.getD .skip) (by kernel_rfl) (by kernel_rfl) (by kernel_rfl) (by kernel_rfl) (by kernel_rfl)
def K50a0r0:OpsF:=(oVal (.tmp 4) (kAlloc [(.int .i64 0),(.int .i64 0),(.int .i64 0),(.int .i64 0)] (tag 109)) (oVal .none (kStore 4 (.tmp 4) (.tmp 13)) oNil))
def K50a0:K:=(kRegion K50a0r0 [4])
theorem code50a0:codeK Try.prog (X 50) Try.f50.ntmps (rangeAt Try.f50 0).1=some K50a0:=by kernel_rfl
def K50b0r0:OpsF:=(oVal (.tmp 14) (kUn (fadA 0) (.tmp 4)) (oVal (.tmp 15) (kLoad none (.tmp 14)) (oVal (.tmp 16) (kInt aAdd (.tmp 15) (.con (.int .i64 1))) (oVal (.tmp 17) (kMake [(.int .i64 0),(.int .i64 0)] 16 (.tmp 16) (.tmp 16)) (oVal (.tmp 5) (kMove (.tmp 17)) oNil)))))
def K50b0r1:OpsF:=(oVal (.tmp 18) (kLoad none (.tmp 3)) (oVal (.tmp 19) (kUn lenSlA (.tmp 18)) (oVal (.tmp 20) (kMove (.con (.int .i64 0))) oNil)))
def K50b0r2:OpsF:=(oVal (.tmp 21) (kInt aLss (.tmp 20) (.tmp 19)) oNil)
def K50b0r3:OpsF:=(oVal (.tmp 22) (kMove (.tmp 20)) (oVal (.tmp 23) (kTwo (ixsA 1) (.tmp 18) (.tmp 20)) (oVal (.tmp 24) (kLoad none (.tmp 23)) (oVal (.tmp 6) (kMove (.tmp 22)) (oVal (.tmp 7) (kMove (.tmp 24)) oNil)))))
def K50b0r4:OpsF:=(oEnd [] (oVal (.tmp 25) (kMove (.tmp 5)) (oVal (.tmp 26) (kMove (.tmp 6)) (oVal (.tmp 27) (kUn (fadA 2) (.tmp 4)) (oVal (.tmp 28) (kLoad (some 2) (.tmp 27)) (oVal (.tmp 29) (kLoad none (.tmp 3)) (oVal (.tmp 30) (kUn (fadA 1) (.tmp 4)) (oVal (.tmp 31) (kLoad none (.tmp 30)) (oVal (.tmp 32) (kTwo (ixsA 1) (.tmp 29) (.tmp 31)) (oVal (.tmp 33) (kLoad none (.tmp 32)) (oVal (.tmp 34) (kMove (.tmp 6)) (oVal (.tmp 35) (kTwo (ixsA 2) (.tmp 33) (.tmp 34)) (oVal (.tmp 36) (kLoad (some 2) (.tmp 35)) (oCall (.tmp 37) (.con (.func 63 [] [])) [(.tmp 28),(.tmp 36)] (oVal (.tmp 38) (kTwo (ixsA 2) (.tmp 25) (.tmp 26)) (oVal .none (kStore 2 (.tmp 38) (.tmp 37)) oNil))))))))))))))))
def K50b0r5:OpsF:=(oEnd [(41,3)] (oVal (.tmp 39) (kLoad none (.tmp 3)) (oVal (.tmp 40) (kMove (.tmp 6)) (oVal (.tmp 41) (kMove (.tmp 7)) (oVal (.tmp 42) (kMove (.tmp 5)) (oVal (.tmp 43) (kMove (.tmp 6)) (oVal (.tmp 44) (kTwo (ixsA 2) (.tmp 42) (.tmp 43)) (oVal (.tmp 45) (kLoad (some 2) (.tmp 44)) (oCallT (some [3]) (.tmp 46) (.con (.func 64 [] [])) [(.tmp 45)] (oVal (.tmp 47) (kBuildSlice [(.int .i64 0),(.int .i64 0)] 1 [(0,2,(.tmp 46))]) (oVal (.tmp 48) (kTwo (appendA false 2 16 (tag 81)) (.tmp 41) (.tmp 47)) (oVal (.tmp 49) (kTwo (ixsA 1) (.tmp 39) (.tmp 40)) (oVal .none (kStore 1 (.tmp 49) (.tmp 48)) oNil)))))))))))))
def K50b0r6:OpsF:=(oVal (.tmp 50) (kInt aAdd (.tmp 20) (.con (.int .i64 1))) (oVal (.tmp 20) (kMove (.tmp 50)) oNil))
def K50b0l0:K:=(kSeq (kRegion K50b0r2 [21]) (kSeq (kCond (.tmp 21) kSkip (kExit 2)) (kSeq (kBlock 3 (kSeq (kRegion K50b0r3 [6,7]) (kSeq (kRegionD K50b0r4 []) (kRegionD K50b0r5 [])))) (kRegion K50b0r6 [20]))))
def K50b0r7:OpsF:=(oVal (.tmp 51) (kLoad none (.tmp 3)) (oVal (.tmp 52) (kMove (.tmp 5)) (oVal (.tmp 53) (kBuildSlice [.nilslice] 1 [(0,1,(.tmp 52))]) (oVal (.tmp 54) (kTwo (appendA false 1 24 (tag 82)) (.tmp 51) (.tmp 53)) (oVal .none (kStore 1 (.tmp 3) (.tmp 54)) oNil)))))
def K50b0:K:=(kBlock 1 (kSeq (kRegion K50b0r0 [5]) (kSeq (kSeq (kRegion K50b0r1 [18,19,20]) (kBlock 2 (kLoop K50b0l0))) (kRegion K50b0r7 []))))
theorem code50b0:codeK Try.prog (X 50) Try.f50.ntmps (rangeAt Try.f50 0).2=some K50b0:=by kernel_rfl
def K62r0:OpsF:=(oVal (.tmp 1) (kBox (tag 30) (.tmp 0)) (oVal (.tmp 2) (kMove (.con .nilfunc)) oNil))
def K62r1:OpsF:=(oVal (.tmp 3) (kFunc 75 [] [(.tmp 1)]) (oVal (.tmp 2) (kMove (.tmp 3)) oNil))
theorem res62:Try.f62.results.toList=[.tmp 2]:=by kernel_rfl
def K62:K:=(kSeq (kRegion K62r0 [1,2]) (kSeq (kRegion K62r1 [2]) kRet))
theorem enter62 (cl:CallF) (a0:AV) (s:St):enterA Try.prog X cl 62 [a0] s Try.f62=finA Try.prog Try.f62 (K62 cl ⟨62,none,Try.f62.ntmps,X 62⟩ (paramsEnv 0 [a0] .nil) [] s) :=
  enterA_eq (b:=Try.f62.body.getD .skip) (by kernel_rfl) (by kernel_rfl) (by kernel_rfl) (by kernel_rfl) (by kernel_rfl)
def K75r0:OpsF:=(oVal (.tmp 8) (kUn (fadA 0) (.tmp 1)) (oVal (.tmp 9) (kLoad none (.tmp 8)) (oVal (.tmp 10) (kUn lenSlA (.tmp 9)) (oVal (.tmp 11) (kMove (.con (.int .i64 0))) oNil))))
def K75r1:OpsF:=(oVal (.tmp 12) (kInt aLss (.tmp 11) (.tmp 10)) oNil)
def K75r2:OpsF:=(oVal (.tmp 13) (kMove (.tmp 11)) (oVal (.tmp 14) (kTwo (ixsA 3) (.tmp 9) (.tmp 11)) (oVal (.tmp 15) (kLoad (some 3) (.tmp 14)) (oVal (.tmp 4) (kAlloc [(.int .i64 0),(.int .i64 0),(.int .i64 0)] (tag 52)) (oVal (.tmp 3) (kMove (.tmp 13)) (oVal .none (kStore 3 (.tmp 4) (.tmp 15)) oNil))))))
def K75r3:OpsF:=(oEnd [] (oVal (.tmp 16) (kMove (.tmp 0)) (oVal (.tmp 17) (kMove (.tmp 3)) (oCallT (some [19]) (.tmp 18) (.con (.func 29 [] [])) [(.tmp 17)] (oVal (.tmp 19) (kUn (fadA 1) (.tmp 4)) (oVal (.tmp 20) (kLoad (some 2) (.tmp 19)) (oCall (.tmp 21) (.con (.func 66 [] [])) [(.tmp 20)] (oVal (.tmp 22) (kBuild [(.int .i64 0),(.int .i64 0),(.int .i64 0),(.int .i64 0)] [(0,1,(.tmp 18)),(1,1,(.con (.int .i64 0))),(2,2,(.tmp 21))]) (oCall (.tmp 23) (.tmp 16) [(.tmp 22)] (oVal (.tmp 24) (kUn notA (.tmp 23)) oNil))))))))))
def K75r4:OpsF:=(oVal (.tmp 25) (kInt aAdd (.tmp 11) (.con (.int .i64 1))) (oVal (.tmp 11) (kMove (.tmp 25)) oNil))
def K75l0:K:=(kSeq (kRegion K75r1 [12]) (kSeq (kCond (.tmp 12) kSkip (kExit 0)) (kSeq (kBlock 1 (kSeq (kRegion K75r2 [4,3]) (kSeq (kRegionD K75r3 [24]) (kCond (.tmp 24) kRet kSkip)))) (kRegion K75r4 [11]))))
def K75r5:OpsF:=(oVal (.tmp 26) (kUn (fadA 2) (.tmp 1)) (oVal (.tmp 27) (kLoad none (.tmp 26)) (oVal (.tmp 28) (kUn lenSlA (.tmp 27)) (oVal (.tmp 29) (kMove (.con (.int .i64 0))) oNil))))
def K75r6:OpsF:=(oVal (.tmp 30) (kInt aLss (.tmp 29) (.tmp 28)) oNil)
def K75r7:OpsF:=(oVal (.tmp 31) (kMove (.tmp 29)) (oVal (.tmp 32) (kTwo (ixsA 4) (.tmp 27) (.tmp 29)) (oVal (.tmp 33) (kLoad (some 4) (.tmp 32)) (oVal (.tmp 6) (kAlloc [(.int .i64 0),(.int .i64 0),(.int .i64 0),(.int .i64 0)] (tag 71)) (oVal (.tmp 5) (kMove (.tmp 31)) (oVal .none (kStore 4 (.tmp 6) (.tmp 33)) oNil))))))
def K75r8:OpsF:=(oEnd [] (oVal (.tmp 34) (kMove (.tmp 0)) (oVal (.tmp 35) (kLoad (some 5) (.tmp 1)) (oVal (.tmp 36) (kMove (.tmp 5)) (oCallT (some [38]) (.tmp 37) (.con (.func 33 [] [])) [(.tmp 35),(.tmp 36),(.con (.int .i64 0))] (oVal (.tmp 38) (kUn (fadA 0) (.tmp 6)) (oVal (.tmp 39) (kLoad (some 2) (.tmp 38)) (oCall (.tmp 40) (.con (.func 66 [] [])) [(.tmp 39)] (oCall (.tmp 41) (.con (.func 64 [] [])) [(.tmp 40)] (oVal (.tmp 42) (kBuild [(.int .i64 0),(.int .i64 0),(.int .i64 0),(.int .i64 0)] [(0,1,(.tmp 37)),(1,1,(.con (.int .i64 0))),(2,2,(.tmp 41))]) (oCall (.tmp 43) (.tmp 34) [(.tmp 42)] (oVal (.tmp 44) (kUn notA (.tmp 43)) oNil))))))))))))
def K75r9:OpsF:=(oVal (.tmp 45) (kUn (fadA 4) (.tmp 1)) (oVal (.tmp 46) (kLoad none (.tmp 45)) (oVal (.tmp 47) (kMove (.con (.int .i64 0))) oNil)))
def K75r10:OpsF:=(oVal (.tmp 48) (kInt aLss (.tmp 47) (.tmp 46)) oNil)
def K75r11:OpsF:=(oVal (.tmp 49) (kMove (.tmp 47)) (oVal (.tmp 7) (kMove (.tmp 49)) oNil))
def K75r12:OpsF:=(oEnd [] (oVal (.tmp 50) (kMove (.tmp 0)) (oVal (.tmp 51) (kLoad (some 5) (.tmp 1)) (oVal (.tmp 52) (kMove (.tmp 5)) (oVal (.tmp 53) (kMove (.tmp 7)) (oVal (.tmp 54) (kInt aAdd (.tmp 53) (.con (.int .i64 1))) (oCallT (some [1,60]) (.tmp 55) (.con (.func 33 [] [])) [(.tmp 51),(.tmp 52),(.tmp 54)] (oVal (.tmp 56) (kLoad (some 5) (.tmp 1)) (oVal (.tmp 57) (kMove (.tmp 5)) (oVal (.tmp 58) (kMove (.tmp 7)) (oCallT (some [60]) (.tmp 59) (.con (.func 33 [] [])) [(.tmp 56),(.tmp 57),(.tmp 58)] (oVal (.tmp 60) (kUn (fadA 2) (.tmp 6)) (oVal (.tmp 61) (kLoad (some 2) (.tmp 60)) (oCall (.tmp 62) (.con (.func 66 [] [])) [(.tmp 61)] (oCall (.tmp 63) (.con (.func 64 [] [])) [(.tmp 62)] (oVal (.tmp 64) (kBuild [(.int .i64 0),(.int .i64 0),(.int .i64 0),(.int .i64 0)] [(0,1,(.tmp 55)),(1,1,(.tmp 59)),(2,2,(.tmp 63))]) (oCall (.tmp 65) (.tmp 50) [(.tmp 64)] (oVal (.tmp 66) (kUn notA (.tmp 65)) oNil))))))))))))))))))
def K75r13:OpsF:=(oVal (.tmp 67) (kInt aAdd (.tmp 47) (.con (.int .i64 1))) (oVal (.tmp 47) (kMove (.tmp 67)) oNil))
def K75l1:K:=(kSeq (kRegion K75r10 [48]) (kSeq (kCond (.tmp 48) kSkip (kExit 4)) (kSeq (kBlock 5 (kSeq (kRegion K75r11 [7]) (kSeq (kRegionD K75r12 [66]) (kCond (.tmp 66) kRet kSkip)))) (kRegion K75r13 [47]))))
def K75r14:OpsF:=(oVal (.tmp 68) (kInt aAdd (.tmp 29) (.con (.int .i64 1))) (oVal (.tmp 29) (kMove (.tmp 68)) oNil))
def K75l2:K:=(kSeq (kRegion K75r6 [30]) (kSeq (kCond (.tmp 30) kSkip (kExit 2)) (kSeq (kBlock 3 (kSeq (kRegion K75r7 [6,5]) (kSeq (kSeq (kRegionD K75r8 [44]) (kCond (.tmp 44) kRet kSkip)) (kSeq (kRegion K75r9 [46,47]) (kBlock 4 (kLoop K75l1)))))) (kRegion K75r14 [29]))))
theorem res75:Try.f75.results.toList=[]:=by kernel_rfl
def K75:K:=(kSeq (kSeq (kRegion K75r0 [9,10,11]) (kBlock 0 (kLoop K75l0))) (kSeq (kRegion K75r5 [27,28,29]) (kBlock 2 (kLoop K75l2))))
theorem enter75 (cl:CallF) (a0 a1:AV) (s:St):enterA Try.prog X cl 75 [a0,a1] s Try.f75=finA Try.prog Try.f75 (K75 cl ⟨75,none,Try.f75.ntmps,X 75⟩ (paramsEnv 0 [a0,a1] .nil) [] s) :=
  enterA_eq (b:=Try.f75.body.getD .skip) (by kernel_rfl) (by kernel_rfl) (by kernel_rfl) (by kernel_rfl) (by kernel_rfl)
def K51r0:OpsF:=(oVal (.tmp 1) (kBox (tag 30) (.tmp 0)) (oVal (.tmp 2) (kMove (.con .nilfunc)) oNil))
def K51r1:OpsF:=(oVal (.tmp 3) (kFunc 65 [] [(.tmp 1)]) (oVal (.tmp 2) (kMove (.tmp 3)) oNil))
theorem res51:Try.f51.results.toList=[.tmp 2]:=by kernel_rfl
def K51:K:=(kSeq (kRegion K51r0 [1,2]) (kSeq (kRegion K51r1 [2]) kRet))
theorem enter51 (cl:CallF) (a0:AV) (s:St):enterA Try.prog X cl 51 [a0] s Try.f51=finA Try.prog Try.f51 (K51 cl ⟨51,none,Try.f51.ntmps,X 51⟩ (paramsEnv 0 [a0] .nil) [] s) :=
  enterA_eq (b:=Try.f51.body.getD .skip) (by kernel_rfl) (by kernel_rfl) (by kernel_rfl) (by kernel_rfl) (by kernel_rfl)
def K65r0:OpsF:=(oVal (.tmp 8) (kUn (fadA 1) (.tmp 1)) (oVal (.tmp 9) (kLoad none (.tmp 8)) (oVal (.tmp 10) (kUn lenSlA (.tmp 9)) (oVal (.tmp 11) (kMove (.con (.int .i64 0))) oNil))))
def K65r1:OpsF:=(oVal (.tmp 12) (kInt aLss (.tmp 11) (.tmp 10)) oNil)
def K65r2:OpsF:=(oVal (.tmp 13) (kTwo (ixsA 4) (.tmp 9) (.tmp 11)) (oVal (.tmp 14) (kLoad (some 4) (.tmp 13)) (oVal (.tmp 4) (kAlloc [(.int .i64 0),(.int .i64 0),(.int .i64 0),(.int .i64 0)] (tag 56)) (oVal .none (kStore 4 (.tmp 4) (.tmp 14)) oNil))))
def K65r3:OpsF:=(oEnd [] (oVal (.tmp 15) (kMove (.tmp 0)) (oVal (.tmp 16) (kUn (fadA 0) (.tmp 4)) (oVal (.tmp 17) (kLoad none (.tmp 16)) (oCallT (some [19,22]) (.tmp 18) (.con (.func 29 [] [])) [(.tmp 17)] (oVal (.tmp 19) (kUn (fadA 1) (.tmp 4)) (oVal (.tmp 20) (kLoad none (.tmp 19)) (oCallT (some [22]) (.tmp 21) (.con (.func 29 [] [])) [(.tmp 20)] (oVal (.tmp 22) (kUn (fadA 2) (.tmp 4)) (oVal (.tmp 23) (kLoad (some 2) (.tmp 22)) (oCall (.tmp 24) (.con (.func 66 [] [])) [(.tmp 23)] (oVal (.tmp 25) (kBuild [(.int .i64 0),(.int .i64 0),(.int .i64 0),(.int .i64 0)] [(0,1,(.tmp 18)),(1,1,(.tmp 21)),(2,2,(.tmp 24))]) (oCall (.tmp 26) (.tmp 15) [(.tmp 25)] (oVal (.tmp 27) (kUn notA (.tmp 26)) oNil))))))))))))))
def K65r4:OpsF:=(oVal (.tmp 28) (kInt aAdd (.tmp 11) (.con (.int .i64 1))) (oVal (.tmp 11) (kMove (.tmp 28)) oNil))
def K65l0:K:=(kSeq (kRegion K65r1 [12]) (kSeq (kCond (.tmp 12) kSkip (kExit 0)) (kSeq (kBlock 1 (kSeq (kRegion K65r2 [4]) (kSeq (kRegionD K65r3 [27]) (kCond (.tmp 27) kRet kSkip)))) (kRegion K65r4 [11]))))
def K65r5:OpsF:=(oVal (.tmp 29) (kUn (fadA 3) (.tmp 1)) (oVal (.tmp 30) (kLoad none (.tmp 29)) (oVal (.tmp 31) (kUn lenSlA (.tmp 30)) (oVal (.tmp 32) (kMove (.con (.int .i64 0))) oNil))))
def K65r6:OpsF:=(oVal (.tmp 33) (kInt aLss (.tmp 32) (.tmp 31)) oNil)
def K65r7:OpsF:=(oVal (.tmp 34) (kTwo (ixsA 4) (.tmp 30) (.tmp 32)) (oVal (.tmp 35) (kLoad (some 4) (.tmp 34)) (oVal (.tmp 6) (kAlloc [(.int .i64 0),(.int .i64 0),(.int .i64 0),(.int .i64 0)] (tag 58)) (oVal .none (kStore 4 (.tmp 6) (.tmp 35)) oNil))))
def K65r8:OpsF:=(oEnd [] (oVal (.tmp 36) (kUn (fadA 3) (.tmp 6)) (oVal (.tmp 37) (kLoad none (.tmp 36)) (oVal (.tmp 38) (kUn (fadA 0) (.tmp 1)) (oVal (.tmp 39) (kLoad none (.tmp 38)) (oVal (.tmp 40) (kUn (fadA 2) (.tmp 6)) (oVal (.tmp 41) (kLoad none (.tmp 40)) (oVal (.tmp 42) (kTwo (ixsA 3) (.tmp 39) (.tmp 41)) (oVal (.tmp 43) (kUn (fadA 0) (.tmp 42)) (oVal (.tmp 44) (kLoad none (.tmp 43)) (oVal (.tmp 45) (kInt aSub (.tmp 37) (.tmp 44)) (oVal (.tmp 7) (kMove (.tmp 45)) oNil))))))))))))
def K65r9:OpsF:=(oEnd [] (oVal (.tmp 46) (kMove (.tmp 0)) (oVal (.tmp 47) (kUn (fadA 2) (.tmp 6)) (oVal (.tmp 48) (kLoad none (.tmp 47)) (oCallT (some [1,51,53]) (.tmp 49) (.con (.func 29 [] [])) [(.tmp 48)] (oVal (.tmp 50) (kLoad (some 5) (.tmp 1)) (oVal (.tmp 51) (kUn (fadA 0) (.tmp 6)) (oVal (.tmp 52) (kLoad none (.tmp 51)) (oVal (.tmp 53) (kUn (fadA 1) (.tmp 6)) (oVal (.tmp 54) (kLoad none (.tmp 53)) (oCall (.tmp 55) (.con (.func 33 [] [])) [(.tmp 50),(.tmp 52),(.tmp 54)] (oVal (.tmp 56) (kMove (.tmp 7)) (oVal (.tmp 57) (kMove (.tmp 7)) (oVal (.tmp 58) (kBuild [(.int .i64 0),(.int .i64 0)] [(0,1,(.tmp 56)),(1,1,(.tmp 57))]) (oVal (.tmp 59) (kBuild [(.int .i64 0),(.int .i64 0),(.int .i64 0),(.int .i64 0)] [(0,1,(.tmp 49)),(1,1,(.tmp 55)),(2,2,(.tmp 58))]) (oCall (.tmp 60) (.tmp 46) [(.tmp 59)] (oVal (.tmp 61) (kUn notA (.tmp 60)) oNil)))))))))))))))))
def K65r10:OpsF:=(oVal (.tmp 62) (kInt aAdd (.tmp 32) (.con (.int .i64 1))) (oVal (.tmp 32) (kMove (.tmp 62)) oNil))
def K65l1:K:=(kSeq (kRegion K65r6 [33]) (kSeq (kCond (.tmp 33) kSkip (kExit 2)) (kSeq (kBlock 3 (kSeq (kRegion K65r7 [6]) (kSeq (kRegionD K65r8 [7]) (kSeq (kRegionD K65r9 [61]) (kCond (.tmp 61) kRet kSkip))))) (kRegion K65r10 [32]))))
theorem res65:Try.f65.results.toList=[]:=by kernel_rfl
def K65:K:=(kSeq (kSeq (kRegion K65r0 [9,10,11]) (kBlock 0 (kLoop K65l0))) (kSeq (kRegion K65r5 [30,31,32]) (kBlock 2 (kLoop K65l1))))
theorem enter65 (cl:CallF) (a0 a1:AV) (s:St):enterA Try.prog X cl 65 [a0,a1] s Try.f65=finA Try.prog Try.f65 (K65 cl ⟨65,none,Try.f65.ntmps,X 65⟩ (paramsEnv 0 [a0,a1] .nil) [] s) :=
  enterA_eq (b:=Try.f65.body.getD .skip) (by kernel_rfl) (by kernel_rfl) (by kernel_rfl) (by kernel_rfl) (by kernel_rfl)
def K52r0:OpsF:=(oVal (.tmp 3) (kBox (tag 109) (.tmp 1)) (oVal (.tmp 4) (kMove (.con (.bool false))) oNil))
def K52r1:OpsF:=(oEnd [] (oVal (.tmp 6) (kMove (.tmp 0)) (oVal (.tmp 7) (kUn (fadA 0) (.tmp 3)) (oVal (.tmp 8) (kLoad none (.tmp 7)) (oVal (.tmp 9) (kTwo (ixsA 1) (.tmp 6) (.tmp 8)) (oVal (.tmp 10) (kLoad none (.tmp 9)) (oVal (.tmp 11) (kUn (fadA 1) (.tmp 3)) (oVal (.tmp 12) (kLoad none (.tmp 11)) (oVal (.tmp 13) (kTwo (ixsA 2) (.tmp 10) (.tmp 12)) (oVal (.tmp 14) (kLoad (some 2) (.tmp 13)) (oVal (.tmp 15) (kUn (fadA 2) (.tmp 3)) (oVal (.tmp 16) (kLoad (some 2) (.tmp 15)) (oCall (.tmp 17) (.con (.func 67 [] [])) [(.tmp 14),(.tmp 16)] (oVal (.tmp 5) (kAlloc [(.int .i64 0),(.int .i64 0)] (tag 81)) (oVal .none (kStore 2 (.tmp 5) (.tmp 17)) oNil)))))))))))))))
def K52r2:OpsF:=(oVal (.tmp 18) (kTwo (ixaA 2 1) (.tmp 5) (.con (.int .i64 0))) (oVal (.tmp 19) (kLoad none (.tmp 18)) (oVal (.tmp 20) (kTwo (ixaA 2 1) (.tmp 5) (.con (.int .i64 1))) (oVal (.tmp 21) (kLoad none (.tmp 20)) (oVal (.tmp 22) (kGtr (.tmp 19) (.tmp 21)) (oVal (.tmp 4) (kMove (.tmp 22)) oNil))))))
theorem res52:Try.f52.results.toList=[.tmp 4]:=by kernel_rfl
def K52:K:=(kSeq (kRegion K52r0 [3,4]) (kSeq (kRegionD K52r1 [5]) (kSeq (kRegion K52r2 [4]) kRet)))
theorem enter52 (cl:CallF) (a0 a1:AV) (s:St):enterA Try.prog X cl 52 [a0,a1] s Try.f52=finA Try.prog Try.f52 (K52 cl ⟨52,none,Try.f52.ntmps,X 52⟩ (paramsEnv 0 [a0,a1] .nil) [] s) :=
  enterA_eq (b:=Try.f52.body.getD .skip) (by kernel_rfl) (by kernel_rfl) (by kernel_rfl) (by kernel_rfl) (by kernel_rfl)
def K53r0:OpsF:=(oVal (.tmp 3) (kBox (tag 109) (.tmp 1)) (oVal (.tmp 4) (kMove (.con .nilslice)) oNil))
def K53r1:OpsF:=(oEnd [] (oVal (.tmp 13) (kMove (.tmp 0)) (oVal (.tmp 14) (kUn (fadA 0) (.tmp 3)) (oVal (.tmp 15) (kLoad none (.tmp 14)) (oVal (.tmp 16) (kTwo (ixsA 1) (.tmp 13) (.tmp 15)) (oVal (.tmp 17) (kLoad none (.tmp 16)) (oVal (.tmp 18) (kUn (fadA 1) (.tmp 3)) (oVal (.tmp 19) (kLoad none (.tmp 18)) (oVal (.tmp 20) (kTwo (ixsA 2) (.tmp 17) (.tmp 19)) (oVal (.tmp 21) (kLoad (some 2) (.tmp 20)) (oVal (.tmp 22) (kUn (fadA 2) (.tmp 3)) (oVal (.tmp 23) (kLoad (some 2) (.tmp 22)) (oCall (.tmp 24) (.con (.func 67 [] [])) [(.tmp 21),(.tmp 23)] (oVal (.tmp 5) (kAlloc [(.int .i64 0),(.int .i64 0)] (tag 81)) (oVal .none (kStore 2 (.tmp 5) (.tmp 24)) oNil)))))))))))))))
def K53r2:OpsF:=(oVal (.tmp 25) (kMove (.tmp 0)) (oVal (.tmp 26) (kUn lenSlA (.tmp 25)) (oVal (.tmp 27) (kMake [.nilslice] 24 (.tmp 26) (.tmp 26)) (oVal (.tmp 6) (kMove (.tmp 27)) oNil))))
def K53r3:OpsF:=(oVal (.tmp 28) (kMove (.tmp 0)) (oVal (.tmp 29) (kUn lenSlA (.tmp 28)) (oVal (.tmp 30) (kMove (.con (.int .i64 0))) oNil)))
def K53r4:OpsF:=(oVal (.tmp 31) (kInt aLss (.tmp 30) (.tmp 29)) oNil)
def K53r5:OpsF:=(oVal (.tmp 32) (kMove (.tmp 30)) (oVal (.tmp 33) (kTwo (ixsA 1) (.tmp 28) (.tmp 30)) (oVal (.tmp 34) (kLoad none (.tmp 33)) (oVal (.tmp 7) (kMove (.tmp 32)) (oVal (.tmp 8) (kMove (.tmp 34)) oNil)))))
def K53r6:OpsF:=(oVal (.tmp 35) (kMove (.tmp 6)) (oVal (.tmp 36) (kMove (.tmp 7)) (oVal (.tmp 37) (kMove (.tmp 8)) (oVal (.tmp 38) (kUn lenSlA (.tmp 37)) (oVal (.tmp 39) (kMake [(.int .i64 0),(.int .i64 0)] 16 (.tmp 38) (.tmp 38)) (oVal (.tmp 40) (kTwo (ixsA 1) (.tmp 35) (.tmp 36)) (oVal .none (kStore 1 (.tmp 40) (.tmp 39)) oNil)))))))
def K53r7:OpsF:=(oEnd [] (oVal (.tmp 41) (kMove (.tmp 8)) (oVal (.tmp 42) (kUn (fadA 0) (.tmp 3)) (oVal (.tmp 43) (kLoad none (.tmp 42)) (oVal (.tmp 44) (kTwo (ixsA 2) (.tmp 41) (.tmp 43)) (oVal (.tmp 45) (kLoad (some 2) (.tmp 44)) (oVal (.tmp 46) (kLoad (some 2) (.tmp 5)) (oCallT (some [49,51,5]) (.tmp 47) (.con (.func 63 [] [])) [(.tmp 45),(.tmp 46)] (oVal (.tmp 48) (kMove (.tmp 8)) (oVal (.tmp 49) (kUn (fadA 1) (.tmp 3)) (oVal (.tmp 50) (kLoad none (.tmp 49)) (oVal (.tmp 51) (kTwo (ixsA 2) (.tmp 48) (.tmp 50)) (oVal (.tmp 52) (kLoad (some 2) (.tmp 51)) (oVal (.tmp 53) (kLoad (some 2) (.tmp 5)) (oCallT (some [49,51]) (.tmp 54) (.con (.func 64 [] [])) [(.tmp 53)] (oCall (.tmp 55) (.con (.func 63 [] [])) [(.tmp 52),(.tmp 54)] (oVal (.tmp 9) (kAlloc [(.int .i64 0),(.int .i64 0)] (tag 81)) (oVal (.tmp 10) (kAlloc [(.int .i64 0),(.int .i64 0)] (tag 81)) (oVal .none (kStore 2 (.tmp 9) (.tmp 47)) (oVal .none (kStore 2 (.tmp 10) (.tmp 55)) oNil))))))))))))))))))))
def K53r8:OpsF:=(oVal (.tmp 56) (kMove (.tmp 8)) (oVal (.tmp 57) (kUn lenSlA (.tmp 56)) (oVal (.tmp 58) (kMove (.con (.int .i64 0))) oNil)))
def K53r9:OpsF:=(oVal (.tmp 59) (kInt aLss (.tmp 58) (.tmp 57)) oNil)
def K53r10:OpsF:=(oVal (.tmp 60) (kMove (.tmp 58)) (oVal (.tmp 61) (kTwo (ixsA 2) (.tmp 56) (.tmp 58)) (oVal (.tmp 62) (kLoad (some 2) (.tmp 61)) (oVal (.tmp 12) (kAlloc [(.int .i64 0),(.int .i64 0)] (tag 81)) (oVal (.tmp 11) (kMove (.tmp 60)) (oVal .none (kStore 2 (.tmp 12) (.tmp 62)) oNil))))))
def K53r11:OpsF:=(oEnd [] (oVal (.tmp 63) (kMove (.tmp 6)) (oVal (.tmp 64) (kMove (.tmp 7)) (oVal (.tmp 65) (kTwo (ixsA 1) (.tmp 63) (.tmp 64)) (oVal (.tmp 66) (kLoad none (.tmp 65)) (oVal (.tmp 67) (kMove (.tmp 11)) (oVal (.tmp 68) (kLoad (some 2) (.tmp 12)) (oVal (.tmp 69) (kLoad (some 2) (.tmp 9)) (oVal (.tmp 70) (kMove (.tmp 0)) (oVal (.tmp 71) (kUn (fadA 1) (.tmp 3)) (oVal (.tmp 72) (kLoad none (.tmp 71)) (oVal (.tmp 73) (kTwo (ixsA 1) (.tmp 70) (.tmp 72)) (oVal (.tmp 74) (kLoad none (.tmp 73)) (oVal (.tmp 75) (kMove (.tmp 11)) (oVal (.tmp 76) (kTwo (ixsA 2) (.tmp 74) (.tmp 75)) (oVal (.tmp 77) (kLoad (some 2) (.tmp 76)) (oCallT (some [65,12,10,82,84,87]) (.tmp 78) (.con (.func 63 [] [])) [(.tmp 69),(.tmp 77)] (oCallT (some [65,10,82,84,87]) (.tmp 79) (.con (.func 67 [] [])) [(.tmp 68),(.tmp 78)] (oVal (.tmp 80) (kLoad (some 2) (.tmp 10)) (oVal (.tmp 81) (kMove (.tmp 0)) (oVal (.tmp 82) (kUn (fadA 0) (.tmp 3)) (oVal (.tmp 83) (kLoad none (.tmp 82)) (oVal (.tmp 84) (kTwo (ixsA 1) (.tmp 81) (.tmp 83)) (oVal (.tmp 85) (kLoad none (.tmp 84)) (oVal (.tmp 86) (kMove (.tmp 11)) (oVal (.tmp 87) (kTwo (ixsA 2) (.tmp 85) (.tmp 86)) (oVal (.tmp 88) (kLoad (some 2) (.tmp 87)) (oCallT (some [65]) (.tmp 89) (.con (.func 63 [] [])) [(.tmp 80),(.tmp 88)] (oCallT (some [65]) (.tmp 90) (.con (.func 67 [] [])) [(.tmp 79),(.tmp 89)] (oVal (.tmp 91) (kTwo (ixsA 2) (.tmp 66) (.tmp 67)) (oVal .none (kStore 2 (.tmp 91) (.tmp 90)) oNil)))))))))))))))))))))))))))))))
def K53r12:OpsF:=(oVal (.tmp 92) (kInt aAdd (.tmp 58) (.con (.int .i64 1))) (oVal (.tmp 58) (kMove (.tmp 92)) oNil))
def K53l0:K:=(kSeq (kRegion K53r9 [59]) (kSeq (kCond (.tmp 59) kSkip (kExit 2)) (kSeq (kBlock 3 (kSeq (kRegion K53r10 [12,11]) (kRegionD K53r11 []))) (kRegion K53r12 [58]))))
def K53r13:OpsF:=(oVal (.tmp 93) (kInt aAdd (.tmp 30) (.con (.int .i64 1))) (oVal (.tmp 30) (kMove (.tmp 93)) oNil))
def K53l1:K:=(kSeq (kRegion K53r4 [31]) (kSeq (kCond (.tmp 31) kSkip (kExit 0)) (kSeq (kBlock 1 (kSeq (kRegion K53r5 [7,8]) (kSeq (kRegion K53r6 []) (kSeq (kRegionD K53r7 [9,10]) (kSeq (kRegion K53r8 [56,57,58]) (kBlock 2 (kLoop K53l0))))))) (kRegion K53r13 [30]))))
def K53r14:OpsF:=(oVal (.tmp 94) (kMove (.tmp 6)) (oVal (.tmp 4) (kMove (.tmp 94)) oNil))
theorem res53:Try.f53.results.toList=[.tmp 4]:=by kernel_rfl
def K53:K:=(kSeq (kRegion K53r0 [3,4]) (kSeq (kRegionD K53r1 [5]) (kSeq (kRegion K53r2 [6]) (kSeq (kSeq (kRegion K53r3 [28,29,30]) (kBlock 0 (kLoop K53l1))) (kSeq (kRegion K53r14 [4]) kRet)))))
theorem enter53 (cl:CallF) (a0 a1:AV) (s:St):enterA Try.prog X cl 53 [a0,a1] s Try.f53=finA Try.prog Try.f53 (K53 cl ⟨53,none,Try.f53.ntmps,X 53⟩ (paramsEnv 0 [a0,a1] .nil) [] s) :=
  enterA_eq (b:=Try.f53.body.getD .skip) (by kernel_rfl) (by kernel_rfl) (by kernel_rfl) (by kernel_rfl) (by kernel_rfl)
def K63r0:OpsF:=(oVal (.tmp 2) (kBox (tag 81) (.tmp 0)) (oVal (.tmp 3) (kBox (tag 81) (.tmp 1)) (oVal (.tmp 4) (kAlloc [(.int .i64 0),(.int .i64 0)] (tag 81)) oNil)))
def K63r1:OpsF:=(oVal (.tmp 5) (kTwo (ixaA 2 1) (.tmp 2) (.con (.int .i64 0))) (oVal (.tmp 6) (kLoad none (.tmp 5)) (oVal (.tmp 7) (kTwo (ixaA 2 1) (.tmp 3) (.con (.int .i64 0))) (oVal (.tmp 8) (kLoad none (.tmp 7)) (oVal (.tmp 9) (kInt aAdd (.tmp 6) (.tmp 8)) (oVal (.tmp 10) (kTwo (ixaA 2 1) (.tmp 2) (.con (.int .i64 1))) (oVal (.tmp 11) (kLoad none (.tmp 10)) (oVal (.tmp 12) (kTwo (ixaA 2 1) (.tmp 3) (.con (.int .i64 1))) (oVal (.tmp 13) (kLoad none (.tmp 12)) (oVal (.tmp 14) (kInt aAdd (.tmp 11) (.tmp 13)) (oVal (.tmp 15) (kBuild [(.int .i64 0),(.int .i64 0)] [(0,1,(.tmp 9)),(1,1,(.tmp 14))]) (oVal .none (kStore 2 (.tmp 4) (.tmp 15)) oNil))))))))))))
theorem res63:Try.f63.results.toList=[.cell 4 81]:=by kernel_rfl
def K63:K:=(kSeq (kRegion K63r0 [2,3,4]) (kSeq (kRegion K63r1 []) kRet))
theorem enter63 (cl:CallF) (a0 a1:AV) (s:St):enterA Try.prog X cl 63 [a0,a1] s Try.f63=finA Try.prog Try.f63 (K63 cl ⟨63,none,Try.f63.ntmps,X 63⟩ (paramsEnv 0 [a0,a1] .nil) [] s) :=
  enterA_eq (b:=Try.f63.body.getD .skip) (by kernel_rfl) (by kernel_rfl) (by kernel_rfl) (by kernel_rfl) (by kernel_rfl)
def K64r0:OpsF:=(oVal (.tmp 1) (kBox (tag 81) (.tmp 0)) (oVal (.tmp 2) (kAlloc [(.int .i64 0),(.int .i64 0)] (tag 81)) oNil))
def K64r1:OpsF:=(oVal (.tmp 3) (kTwo (ixaA 2 1) (.tmp 1) (.con (.int .i64 1))) (oVal (.tmp 4) (kLoad none (.tmp 3)) (oVal (.tmp 5) (kUn negA (.tmp 4)) (oVal (.tmp 6) (kTwo (ixaA 2 1) (.tmp 1) (.con (.int .i64 0))) (oVal (.tmp 7) (kLoad none (.tmp 6)) (oVal (.tmp 8) (kUn negA (.tmp 7)) (oVal (.tmp 9) (kBuild [(.int .i64 0),(.int .i64 0)] [(0,1,(.tmp 5)),(1,1,(.tmp 8))]) (oVal .none (kStore 2 (.tmp 2) (.tmp 9)) oNil))))))))
theorem res64:Try.f64.results.toList=[.cell 2 81]:=by kernel_rfl
def K64:K:=(kSeq (kRegion K64r0 [1,2]) (kSeq (kRegion K64r1 []) kRet))
theorem enter64 (cl:CallF) (a0:AV) (s:St):enterA Try.prog X cl 64 [a0] s Try.f64=finA Try.prog Try.f64 (K64 cl ⟨64,none,Try.f64.ntmps,X 64⟩ (paramsEnv 0 [a0] .nil) [] s) :=
  enterA_eq (b:=Try.f64.body.getD .skip) (by kernel_rfl) (by kernel_rfl) (by kernel_rfl) (by kernel_rfl) (by kernel_rfl)
def K67r0:OpsF:=(oVal (.tmp 2) (kBox (tag 81) (.tmp 0)) (oVal (.tmp 3) (kBox (tag 81) (.tmp 1)) (oVal (.tmp 4) (kAlloc [(.int .i64 0),(.int .i64 0)] (tag 81)) oNil)))
def K67r1:OpsF:=(oVal (.tmp 5) (kTwo (ixaA 2 1) (.tmp 2) (.con (.int .i64 0))) (oVal (.tmp 6) (kLoad none (.tmp 5)) (oVal (.tmp 7) (kTwo (ixaA 2 1) (.tmp 3) (.con (.int .i64 0))) (oVal (.tmp 8) (kLoad none (.tmp 7)) (oVal (.tmp 9) (kFold maxA (.tmp 6) [(.tmp 8)]) (oVal (.tmp 10) (kTwo (ixaA 2 1) (.tmp 2) (.con (.int .i64 1))) (oVal (.tmp 11) (kLoad none (.tmp 10)) (oVal (.tmp 12) (kTwo (ixaA 2 1) (.tmp 3) (.con (.int .i64 1))) (oVal (.tmp 13) (kLoad none (.tmp 12)) (oVal (.tmp 14) (kFold minA (.tmp 11) [(.tmp 13)]) (oVal (.tmp 15) (kBuild [(.int .i64 0),(.int .i64 0)] [(0,1,(.tmp 9)),(1,1,(.tmp 14))]) (oVal .none (kStore 2 (.tmp 4) (.tmp 15)) oNil))))))))))))
theorem res67:Try.f67.results.toList=[.cell 4 81]:=by kernel_rfl
def K67:K:=(kSeq (kRegion K67r0 [2,3,4]) (kSeq (kRegion K67r1 []) kRet))
theorem enter67 (cl:CallF) (a0 a1:AV) (s:St):enterA Try.prog X cl 67 [a0,a1] s Try.f67=finA Try.prog Try.f67 (K67 cl ⟨67,none,Try.f67.ntmps,X 67⟩ (paramsEnv 0 [a0,a1] .nil) [] s) :=
  enterA_eq (b:=Try.f67.body.getD .skip) (by kernel_rfl) (by kernel_rfl) (by kernel_rfl) (by kernel_rfl) (by kernel_rfl)
def K66r0:OpsF:=(oVal (.tmp 1) (kBox (tag 43) (.tmp 0)) (oVal (.tmp 2) (kAlloc [(.int .i64 0),(.int .i64 0)] (tag 81)) oNil))
def K66r1:OpsF:=(oVal (.tmp 3) (kUn (fadA 0) (.tmp 1)) (oVal (.tmp 4) (kLoad none (.tmp 3)) (oVal (.tmp 5) (kUn (fadA 1) (.tmp 1)) (oVal (.tmp 6) (kLoad none (.tmp 5)) (oVal (.tmp 7) (kBuild [(.int .i64 0),(.int .i64 0)] [(0,1,(.tmp 4)),(1,1,(.tmp 6))]) (oVal .none (kStore 2 (.tmp 2) (.tmp 7)) oNil))))))
theorem res66:Try.f66.results.toList=[.cell 2 81]:=by kernel_rfl
def K66:K:=(kSeq (kRegion K66r0 [1,2]) (kSeq (kRegion K66r1 []) kRet))
theorem enter66 (cl:CallF) (a0:AV) (s:St):enterA Try.prog X cl 66 [a0] s Try.f66=finA Try.prog Try.f66 (K66 cl ⟨66,none,Try.f66.ntmps,X 66⟩ (paramsEnv 0 [a0] .nil) [] s) :=
  enterA_eq (b:=Try.f66.body.getD .skip) (by kernel_rfl) (by kernel_rfl) (by kernel_rfl) (by kernel_rfl) (by kernel_rfl)
def K30r0:OpsF:=(oVal (.tmp 1) (kBox (tag 81) (.tmp 0)) (oVal (.tmp 2) (kAlloc [(.int .i64 0),(.int .i64 0)] (tag 43)) oNil))
def K30r1:OpsF:=(oVal (.tmp 3) (kTwo (ixaA 2 1) (.tmp 1) (.con (.int .i64 0))) (oVal (.tmp 4) (kLoad none (.tmp 3)) (oVal (.tmp 5) (kTwo (ixaA 2 1) (.tmp 1) (.con (.int .i64 1))) (oVal (.tmp 6) (kLoad none (.tmp 5)) (oVal (.tmp 7) (kBuild [(.int .i64 0),(.int .i64 0)] [(0,1,(.tmp 4)),(1,1,(.tmp 6))]) (oVal .none (kStore 2 (.tmp 2) (.tmp 7)) oNil))))))
theorem res30:Try.f30.results.toList=[.cell 2 43]:=by kernel_rfl
def K30:K:=(kSeq (kRegion K30r0 [1,2]) (kSeq (kRegion K30r1 []) kRet))
theorem enter30 (cl:CallF) (a0:AV) (s:St):enterA Try.prog X cl 30 [a0] s Try.f30=finA Try.prog Try.f30 (K30 cl ⟨30,none,Try.f30.ntmps,X 30⟩ (paramsEnv 0 [a0] .nil) [] s) :=
  enterA_eq (b:=Try.f30.body.getD .skip) (by kernel_rfl) (by kernel_rfl) (by kernel_rfl) (by kernel_rfl) (by kernel_rfl)
def K29r0:OpsF:=(oVal (.tmp 2) (kMove (.con (.int .i64 0))) oNil)
def K29r1:OpsF:=(oVal (.tmp 3) (kMove (.tmp 0)) (oVal (.tmp 4) (kInt aAdd (.con (.int .i64 1)) (.tmp 3)) (oVal (.tmp 2) (kMove (.tmp 4)) oNil)))
theorem res29:Try.f29.results.toList=[.tmp 2]:=by kernel_rfl
def K29:K:=(kSeq (kRegion K29r0 [2]) (kSeq (kRegion K29r1 [2]) kRet))
theorem enter29 (cl:CallF) (a0:AV) (s:St):enterA Try.prog X cl 29 [a0] s Try.f29=finA Try.prog Try.f29 (K29 cl ⟨29,none,Try.f29.ntmps,X 29⟩ (paramsEnv 0 [a0] .nil) [] s) :=
  enterA_eq (b:=Try.f29.body.getD .skip) (by kernel_rfl) (by kernel_rfl) (by kernel_rfl) (by kernel_rfl) (by kernel_rfl)
def K33r0:OpsF:=(oVal (.tmp 3) (kBox (tag 30) (.tmp 0)) (oVal (.tmp 6) (kMove (.con (.int .i64 0))) oNil))
def K33r1:OpsF:=(oVal (.tmp 7) (kUn (fadA 0) (.tmp 3)) (oVal (.tmp 8) (kLoad none (.tmp 7)) (oVal (.tmp 9) (kUn lenSlA (.tmp 8)) (oVal (.tmp 10) (kInt aAdd (.con (.int .i64 1)) (.tmp 9)) (oVal (.tmp 11) (kMove (.tmp 1)) (oVal (.tmp 12) (kUn (fadA 4) (.tmp 3)) (oVal (.tmp 13) (kLoad none (.tmp 12)) (oVal (.tmp 14) (kInt aAdd (.tmp 13) (.con (.int .i64 1))) (oVal (.tmp 15) (kInt aMul (.tmp 11) (.tmp 14)) (oVal (.tmp 16) (kInt aAdd (.tmp 10) (.tmp 15)) (oVal (.tmp 17) (kMove (.tmp 2)) (oVal (.tmp 18) (kInt aAdd (.tmp 16) (.tmp 17)) (oVal (.tmp 6) (kMove (.tmp 18)) oNil)))))))))))))
theorem res33:Try.f33.results.toList=[.tmp 6]:=by kernel_rfl
def K33:K:=(kSeq (kRegion K33r0 [3,6]) (kSeq (kRegion K33r1 [6]) kRet))
theorem enter33 (cl:CallF) (a0 a1 a2:AV) (s:St):enterA Try.prog X cl 33 [a0,a1,a2] s Try.f33=finA Try.prog Try.f33 (K33 cl ⟨33,none,Try.f33.ntmps,X 33⟩ (paramsEnv 0 [a0,a1,a2] .nil) [] s) :=
  enterA_eq (b:=Try.f33.body.getD .skip) (by kernel_rfl) (by kernel_rfl) (by kernel_rfl) (by kernel_rfl) (by kernel_rfl)
end
end Go.Proofs.Ytfekafjfidohdaa.code
set_option maxRecDepth 100000
namespace Go.Proofs.Ytfekafjfidohdaa.code
open Go.Abs
noncomputable section
def K9r0:OpsF:=(oVal (.tmp 1) (kBox (tag 30) (.tmp 0)) (oVal (.tmp 2) (kMove (.con .nilslice)) (oVal (.tmp 3) (kMove (.con (.int .i64 0))) oNil)))
def K9r1:OpsF:=(oVal (.tmp 9) (kLoad (some 5) (.tmp 1)) (oCall (.tmp 10) (.con (.func 27 [] [])) [(.tmp 9)] (oVal (.tmp 4) (kMove (.tmp 10)) oNil)))
def K9r2:OpsF:=(oVal (.tmp 11) (kMove (.tmp 4)) (oVal (.tmp 12) (kInt aNeq (.tmp 11) (.con (.int .i64 0))) oNil))
def K9r3:OpsF:=(oVal (.tmp 13) (kMove (.tmp 4)) (oVal (.tmp 2) (kMove (.con .nilslice)) (oVal (.tmp 3) (kMove (.tmp 13)) oNil)))
def K9r4:OpsF:=(oVal (.tmp 15) (kLoad (some 5) (.tmp 1)) (oCall (.tmp 16) (.con (.func 28 [] [])) [(.tmp 15)] (oVal (.tmp 14) (kMove (.tmp 16)) (oVal (.tmp 17) (kUn (extA 0) (.tmp 14)) (oVal (.tmp 18) (kUn (extA 1) (.tmp 14)) (oVal (.tmp 5) (kMove (.tmp 17)) (oVal (.tmp 6) (kMove (.tmp 18)) oNil)))))))
def K9r5:OpsF:=(oVal (.tmp 19) (kMove (.tmp 6)) (oVal (.tmp 20) (kUn notA (.tmp 19)) oNil))
def K9r6:OpsF:=(oVal (.tmp 2) (kMove (.con .nilslice)) (oVal (.tmp 3) (kMove (.con (.int .i64 9))) oNil))
def K9r7:OpsF:=(oVal (.tmp 21) (kUn (fadA 0) (.tmp 1)) (oVal (.tmp 22) (kLoad none (.tmp 21)) (oVal (.tmp 23) (kUn lenSlA (.tmp 22)) (oVal (.tmp 24) (kMake [(.int .i64 0),(.int .i64 0)] 16 (.tmp 23) (.tmp 23)) (oVal (.tmp 7) (kMove (.tmp 24)) oNil)))))
def K9r8:OpsF:=(oVal (.tmp 25) (kMove (.tmp 7)) (oVal (.tmp 26) (kUn lenSlA (.tmp 25)) (oVal (.tmp 27) (kMove (.con (.int .i64 0))) oNil)))
def K9r9:OpsF:=(oVal (.tmp 28) (kInt aLss (.tmp 27) (.tmp 26)) oNil)
def K9r10:OpsF:=(oVal (.tmp 29) (kMove (.tmp 27)) (oVal (.tmp 8) (kMove (.tmp 29)) oNil))
def K9r11:OpsF:=(oVal (.tmp 30) (kMove (.tmp 7)) (oVal (.tmp 31) (kMove (.tmp 8)) (oVal (.tmp 32) (kMove (.tmp 5)) (oVal (.tmp 33) (kMove (.tmp 8)) (oCall (.tmp 34) (.con (.func 29 [] [])) [(.tmp 33)] (oVal (.tmp 35) (kTwo (ixsA 1) (.tmp 32) (.tmp 34)) (oVal (.tmp 36) (kLoad none (.tmp 35)) (oVal (.tmp 37) (kTwo (ixsA 2) (.tmp 36) (.con (.int .i64 0))) (oVal (.tmp 38) (kLoad (some 2) (.tmp 37)) (oCall (.tmp 39) (.con (.func 30 [] [])) [(.tmp 38)] (oVal (.tmp 40) (kTwo (ixsA 2) (.tmp 30) (.tmp 31)) (oVal .none (kStore 2 (.tmp 40) (.tmp 39)) oNil))))))))))))
def K9r12:OpsF:=(oVal (.tmp 41) (kInt aAdd (.tmp 27) (.con (.int .i64 1))) (oVal (.tmp 27) (kMove (.tmp 41)) oNil))
def K9l0:K:=(kSeq (kRegion K9r9 [28]) (kSeq (kCond (.tmp 28) kSkip (kExit 0)) (kSeq (kBlock 1 (kSeq (kRegion K9r10 [8]) (kRegion K9r11 []))) (kRegion K9r12 [27]))))
def K9r13:OpsF:=(oVal (.tmp 42) (kMove (.tmp 7)) (oVal (.tmp 2) (kMove (.tmp 42)) (oVal (.tmp 3) (kMove (.con (.int .i64 0))) oNil)))
theorem res9:Try.f9.results.toList=[.tmp 2,.tmp 3]:=by kernel_rfl
def K9:K:=(kSeq (kRegion K9r0 [1,2,3]) (kSeq (kSeq (kRegion K9r1 [4]) (kSeq (kRegion K9r2 [12]) (kCond (.tmp 12) (kSeq (kRegion K9r3 [2,3]) kRet) kSkip))) (kSeq (kRegion K9r4 [5,6]) (kSeq (kSeq (kRegion K9r5 [20]) (kCond (.tmp 20) (kSeq (kRegion K9r6 [2,3]) kRet) kSkip)) (kSeq (kRegion K9r7 [7]) (kSeq (kSeq (kRegion K9r8 [26,27]) (kBlock 0 (kLoop K9l0))) (kSeq (kRegion K9r13 [2,3]) kRet)))))))
theorem enter9 (cl:CallF) (a0:AV) (s:St):enterA Try.prog X cl 9 [a0] s Try.f9=finA Try.prog Try.f9 (K9 cl ⟨9,none,Try.f9.ntmps,X 9⟩ (paramsEnv 0 [a0] .nil) [] s) :=
  enterA_eq (b:=Try.f9.body.getD .skip) (by kernel_rfl) (by kernel_rfl) (by kernel_rfl) (by kernel_rfl) (by kernel_rfl)
def K10r0:OpsF:=(oVal (.tmp 2) (kBox (tag 30) (.tmp 0)) (oVal (.tmp 4) (kMove (.con .nilslice)) (oVal (.tmp 5) (kMove (.con (.int .i64 0))) oNil)))
def K10r1:OpsF:=(oEnd [] (oVal (.tmp 11) (kLoad (some 5) (.tmp 2)) (oCallT (some [14,15]) (.tmp 12) (.con (.func 27 [] [])) [(.tmp 11)] (oVal (.tmp 13) (kMove (.tmp 1)) (oVal (.tmp 14) (kUn (fadA 2) (.tmp 2)) (oVal (.tmp 15) (kLoad none (.tmp 14)) (oVal (.tmp 16) (kUn lenSlA (.tmp 15)) (oCall (.tmp 17) (.con (.func 32 [] [])) [(.tmp 13),(.tmp 16)] (oVal (.tmp 18) (kBuildSlice [(.int .i64 0),(.int .i64 0)] 2 [(0,1,(.tmp 12)),(1,1,(.tmp 17))]) (oCall (.tmp 19) (.con (.func 31 [] [])) [(.tmp 18)] (oVal (.tmp 6) (kMove (.tmp 19)) oNil)))))))))))
def K10r2:OpsF:=(oVal (.tmp 20) (kMove (.tmp 6)) (oVal (.tmp 21) (kInt aNeq (.tmp 20) (.con (.int .i64 0))) oNil))
def K10r3:OpsF:=(oVal (.tmp 22) (kMove (.tmp 6)) (oVal (.tmp 4) (kMove (.con .nilslice)) (oVal (.tmp 5) (kMove (.tmp 22)) oNil)))
def K10r4:OpsF:=(oVal (.tmp 24) (kLoad (some 5) (.tmp 2)) (oCall (.tmp 25) (.con (.func 28 [] [])) [(.tmp 24)] (oVal (.tmp 23) (kMove (.tmp 25)) (oVal (.tmp 26) (kUn (extA 0) (.tmp 23)) (oVal (.tmp 27) (kUn (extA 1) (.tmp 23)) (oVal (.tmp 7) (kMove (.tmp 26)) (oVal (.tmp 8) (kMove (.tmp 27)) oNil)))))))
def K10r5:OpsF:=(oVal (.tmp 28) (kMove (.tmp 8)) (oVal (.tmp 29) (kUn notA (.tmp 28)) oNil))
def K10r6:OpsF:=(oVal (.tmp 4) (kMove (.con .nilslice)) (oVal (.tmp 5) (kMove (.con (.int .i64 9))) oNil))
def K10r7:OpsF:=(oVal (.tmp 30) (kUn (fadA 4) (.tmp 2)) (oVal (.tmp 31) (kLoad none (.tmp 30)) (oVal (.tmp 32) (kInt aAdd (.tmp 31) (.con (.int .i64 1))) (oVal (.tmp 33) (kMake [(.int .i64 0),(.int .i64 0)] 16 (.tmp 32) (.tmp 32)) (oVal (.tmp 9) (kMove (.tmp 33)) oNil)))))
def K10r8:OpsF:=(oVal (.tmp 34) (kMove (.tmp 9)) (oVal (.tmp 35) (kUn lenSlA (.tmp 34)) (oVal (.tmp 36) (kMove (.con (.int .i64 0))) oNil)))
def K10r9:OpsF:=(oVal (.tmp 37) (kInt aLss (.tmp 36) (.tmp 35)) oNil)
def K10r10:OpsF:=(oVal (.tmp 38) (kMove (.tmp 36)) (oVal (.tmp 10) (kMove (.tmp 38)) oNil))
def K10r11:OpsF:=(oEnd [] (oVal (.tmp 39) (kMove (.tmp 9)) (oVal (.tmp 40) (kMove (.tmp 10)) (oVal (.tmp 41) (kMove (.tmp 7)) (oVal (.tmp 42) (kTwo (ixsA 1) (.tmp 41) (.con (.int .i64 0))) (oVal (.tmp 43) (kLoad none (.tmp 42)) (oVal (.tmp 44) (kLoad (some 5) (.tmp 2)) (oVal (.tmp 45) (kMove (.tmp 1)) (oVal (.tmp 46) (kMove (.tmp 10)) (oCallT (some [42]) (.tmp 47) (.con (.func 33 [] [])) [(.tmp 44),(.tmp 45),(.tmp 46)] (oVal (.tmp 48) (kTwo (ixsA 2) (.tmp 43) (.tmp 47)) (oVal (.tmp 49) (kLoad (some 2) (.tmp 48)) (oCall (.tmp 50) (.con (.func 30 [] [])) [(.tmp 49)] (oVal (.tmp 51) (kTwo (ixsA 2) (.tmp 39) (.tmp 40)) (oVal .none (kStore 2 (.tmp 51) (.tmp 50)) oNil)))))))))))))))
def K10r12:OpsF:=(oVal (.tmp 52) (kInt aAdd (.tmp 36) (.con (.int .i64 1))) (oVal (.tmp 36) (kMove (.tmp 52)) oNil))
def K10l0:K:=(kSeq (kRegion K10r9 [37]) (kSeq (kCond (.tmp 37) kSkip (kExit 0)) (kSeq (kBlock 1 (kSeq (kRegion K10r10 [10]) (kRegionD K10r11 []))) (kRegion K10r12 [36]))))
def K10r13:OpsF:=(oVal (.tmp 53) (kMove (.tmp 9)) (oVal (.tmp 4) (kMove (.tmp 53)) (oVal (.tmp 5) (kMove (.con (.int .i64 0))) oNil)))
theorem res10:Try.f10.results.toList=[.tmp 4,.tmp 5]:=by kernel_rfl
def K10:K:=(kSeq (kRegion K10r0 [2,4,5]) (kSeq (kSeq (kRegionD K10r1 [6]) (kSeq (kRegion K10r2 [21]) (kCond (.tmp 21) (kSeq (kRegion K10r3 [4,5]) kRet) kSkip))) (kSeq (kRegion K10r4 [7,8]) (kSeq (kSeq (kRegion K10r5 [29]) (kCond (.tmp 29) (kSeq (kRegion K10r6 [4,5]) kRet) kSkip)) (kSeq (kRegion K10r7 [9]) (kSeq (kSeq (kRegion K10r8 [35,36]) (kBlock 0 (kLoop K10l0))) (kSeq (kRegion K10r13 [4,5]) kRet)))))))
theorem enter10 (cl:CallF) (a0 a1:AV) (s:St):enterA Try.prog X cl 10 [a0,a1] s Try.f10=finA Try.prog Try.f10 (K10 cl ⟨10,none,Try.f10.ntmps,X 10⟩ (paramsEnv 0 [a0,a1] .nil) [] s) :=
  enterA_eq (b:=Try.f10.body.getD .skip) (by kernel_rfl) (by kernel_rfl) (by kernel_rfl) (by kernel_rfl) (by kernel_rfl)
end
end Go.Proofs.Ytfekafjfidohdaa.code
set_option maxRecDepth 100000
namespace Go.Proofs.Ytfekafjfidohdaa.code
open Go.Abs
noncomputable section
def K19r0:OpsF:=(oVal (.tmp 2) (kMove (.con (.int .u64 0))) oNil)
def K19r1:OpsF:=(oVal (.tmp 4) (kMove (.tmp 0)) (oVal (.tmp 5) (kMove (.tmp 0)) (oVal (.tmp 6) (kUn nilA (.tmp 5)) (oVal (.tmp 7) (kUn (fadA 0) (.tmp 6)) (oVal (.tmp 8) (kLoad none (.tmp 7)) (oVal (.tmp 9) (kInt aAdd (.tmp 8) (.con (.int .u64 11562461410679940143))) (oVal (.tmp 10) (kUn nilA (.tmp 4)) (oVal (.tmp 11) (kUn (fadA 0) (.tmp 10)) (oVal .none (kStore 1 (.tmp 11) (.tmp 9)) oNil)))))))))
def K19r2:OpsF:=(oVal (.tmp 12) (kMove (.tmp 0)) (oVal (.tmp 13) (kUn nilA (.tmp 12)) (oVal (.tmp 14) (kUn (fadA 0) (.tmp 13)) (oVal (.tmp 15) (kLoad none (.tmp 14)) (oVal (.tmp 3) (kMove (.tmp 15)) oNil)))))
def K19r3:OpsF:=(oVal (.tmp 16) (kMove (.tmp 3)) (oVal (.tmp 17) (kMove (.tmp 3)) (oVal (.tmp 18) (kShr (.tmp 17) (.con (.int .u64 30))) (oVal (.tmp 19) (kInt aXor (.tmp 16) (.tmp 18)) (oVal (.tmp 20) (kInt aMul (.tmp 19) (.con (.int .u64 13787848793156543929))) (oVal (.tmp 3) (kMove (.tmp 20)) oNil))))))
def K19r4:OpsF:=(oVal (.tmp 21) (kMove (.tmp 3)) (oVal (.tmp 22) (kMove (.tmp 3)) (oVal (.tmp 23) (kShr (.tmp 22) (.con (.int .u64 27))) (oVal (.tmp 24) (kInt aXor (.tmp 21) (.tmp 23)) (oVal (.tmp 25) (kInt aMul (.tmp 24) (.con (.int .u64 10723151780598845931))) (oVal (.tmp 3) (kMove (.tmp 25)) oNil))))))
def K19r5:OpsF:=(oVal (.tmp 26) (kMove (.tmp 3)) (oVal (.tmp 27) (kMove (.tmp 3)) (oVal (.tmp 28) (kShr (.tmp 27) (.con (.int .u64 31))) (oVal (.tmp 29) (kInt aXor (.tmp 26) (.tmp 28)) (oVal (.tmp 2) (kMove (.tmp 29)) oNil)))))
theorem res19:Try.f19.results.toList=[.tmp 2]:=by kernel_rfl
def K19:K:=(kSeq (kRegion K19r0 [2]) (kSeq (kRegion K19r1 []) (kSeq (kRegion K19r2 [3]) (kSeq (kRegion K19r3 [3]) (kSeq (kRegion K19r4 [3]) (kSeq (kRegion K19r5 [2]) kRet))))))
theorem enter19 (cl:CallF) (a0:AV) (s:St):enterA Try.prog X cl 19 [a0] s Try.f19=finA Try.prog Try.f19 (K19 cl ⟨19,none,Try.f19.ntmps,X 19⟩ (paramsEnv 0 [a0] .nil) [] s) :=
  enterA_eq (b:=Try.f19.body.getD .skip) (by kernel_rfl) (by kernel_rfl) (by kernel_rfl) (by kernel_rfl) (by kernel_rfl)
def K8r0:OpsF:=(oVal (.tmp 4) (kMove (.con (.int .i64 0))) oNil)
def K8r1:OpsF:=(oVal (.tmp 5) (kMove (.tmp 1)) (oVal (.tmp 6) (kInt aLss (.tmp 5) (.con (.int .i64 2))) oNil))
def K8r2:OpsF:=(oVal (.tmp 4) (kMove (.con (.int .i64 0))) oNil)
def K8r3:OpsF:=(oVal (.tmp 7) (kMove (.tmp 0)) (oCall (.tmp 8) (.con (.func 19 [] [])) [(.tmp 7)] (oVal (.tmp 9) (kShr (.tmp 8) (.con (.int .u64 2))) (oVal (.tmp 10) (kMove (.tmp 1)) (oVal (.tmp 11) (kUn (cviA .u64) (.tmp 10)) (oVal (.tmp 12) (kInt aRem (.tmp 9) (.tmp 11)) (oVal (.tmp 13) (kUn (cviA .i64) (.tmp 12)) (oVal (.tmp 4) (kMove (.tmp 13)) oNil))))))))
theorem res8:Try.f8.results.toList=[.tmp 4]:=by kernel_rfl
def K8:K:=(kSeq (kRegion K8r0 [4]) (kSeq (kSeq (kRegion K8r1 [6]) (kCond (.tmp 6) (kSeq (kRegion K8r2 [4]) kRet) kSkip)) (kSeq (kRegion K8r3 [4]) kRet)))
theorem enter8 (cl:CallF) (a0 a1:AV) (s:St):enterA Try.prog X cl 8 [a0,a1] s Try.f8=finA Try.prog Try.f8 (K8 cl ⟨8,none,Try.f8.ntmps,X 8⟩ (paramsEnv 0 [a0,a1] .nil) [] s) :=
  enterA_eq (b:=Try.f8.body.getD .skip) (by kernel_rfl) (by kernel_rfl) (by kernel_rfl) (by kernel_rfl) (by kernel_rfl)
def K20r0:OpsF:=(oVal (.tmp 6) (kMove (.con (.int .i64 0))) oNil)
def K20r1:OpsF:=(oVal (.tmp 7) (kMove (.tmp 1)) (oVal (.tmp 8) (kMove (.tmp 0)) (oVal (.tmp 9) (kMove (.tmp 2)) (oVal (.tmp 10) (kMove (.tmp 1)) (oVal (.tmp 11) (kInt aSub (.tmp 9) (.tmp 10)) (oVal (.tmp 12) (kInt aAdd (.tmp 11) (.con (.int .i64 1))) (oCall (.tmp 13) (.con (.func 8 [] [])) [(.tmp 8),(.tmp 12)] (oVal (.tmp 14) (kInt aAdd (.tmp 7) (.tmp 13)) (oVal (.tmp 6) (kMove (.tmp 14)) oNil)))))))))
theorem res20:Try.f20.results.toList=[.tmp 6]:=by kernel_rfl
def K20:K:=(kSeq (kRegion K20r0 [6]) (kSeq (kRegion K20r1 [6]) kRet))
theorem enter20 (cl:CallF) (a0 a1 a2:AV) (s:St):enterA Try.prog X cl 20 [a0,a1,a2] s Try.f20=finA Try.prog Try.f20 (K20 cl ⟨20,none,Try.f20.ntmps,X 20⟩ (paramsEnv 0 [a0,a1,a2] .nil) [] s) :=
  enterA_eq (b:=Try.f20.body.getD .skip) (by kernel_rfl) (by kernel_rfl) (by kernel_rfl) (by kernel_rfl) (by kernel_rfl)
def K23r0:OpsF:=(oVal (.tmp 4) (kMove (.con (.bool false))) oNil)
def K23r1:OpsF:=(oVal (.tmp 5) (kMove (.tmp 0)) (oVal (.tmp 6) (kMove (.tmp 1)) (oCall (.tmp 7) (.con (.func 8 [] [])) [(.tmp 5),(.tmp 6)] (oVal (.tmp 8) (kInt aEql (.tmp 7) (.con (.int .i64 0))) (oVal (.tmp 4) (kMove (.tmp 8)) oNil)))))
theorem res23:Try.f23.results.toList=[.tmp 4]:=by kernel_rfl
def K23:K:=(kSeq (kRegion K23r0 [4]) (kSeq (kRegion K23r1 [4]) kRet))
theorem enter23 (cl:CallF) (a0 a1:AV) (s:St):enterA Try.prog X cl 23 [a0,a1] s Try.f23=finA Try.prog Try.f23 (K23 cl ⟨23,none,Try.f23.ntmps,X 23⟩ (paramsEnv 0 [a0,a1] .nil) [] s) :=
  enterA_eq (b:=Try.f23.body.getD .skip) (by kernel_rfl) (by kernel_rfl) (by kernel_rfl) (by kernel_rfl) (by kernel_rfl)
def K22r0:OpsF:=(oVal (.tmp 4) (kMove (.con (.int .i64 0))) oNil)
def K22r1:OpsF:=(oVal (.tmp 5) (kMove (.tmp 1)) (oVal (.tmp 6) (kUn lenSlA (.tmp 5)) (oVal (.tmp 7) (kInt aEql (.tmp 6) (.con (.int .i64 0))) oNil)))
def K22r2:OpsF:=(oVal (.tmp 4) (kMove (.con (.int .i64 0))) oNil)
def K22r3:OpsF:=(oVal (.tmp 8) (kMove (.tmp 1)) (oVal (.tmp 9) (kMove (.tmp 0)) (oVal (.tmp 10) (kMove (.tmp 1)) (oVal (.tmp 11) (kUn lenSlA (.tmp 10)) (oCall (.tmp 12) (.con (.func 8 [] [])) [(.tmp 9),(.tmp 11)] (oVal (.tmp 13) (kTwo (ixsA 1) (.tmp 8) (.tmp 12)) (oVal (.tmp 14) (kLoad none (.tmp 13)) (oVal (.tmp 4) (kMove (.tmp 14)) oNil))))))))
theorem res22:Try.f22.results.toList=[.tmp 4]:=by kernel_rfl
def K22:K:=(kSeq (kRegion K22r0 [4]) (kSeq (kSeq (kRegion K22r1 [7]) (kCond (.tmp 7) (kSeq (kRegion K22r2 [4]) kRet) kSkip)) (kSeq (kRegion K22r3 [4]) kRet)))
theorem enter22 (cl:CallF) (a0 a1:AV) (s:St):enterA Try.prog X cl 22 [a0,a1] s Try.f22=finA Try.prog Try.f22 (K22 cl ⟨22,none,Try.f22.ntmps,X 22⟩ (paramsEnv 0 [a0,a1] .nil) [] s) :=
  enterA_eq (b:=Try.f22.body.getD .skip) (by kernel_rfl) (by kernel_rfl) (by kernel_rfl) (by kernel_rfl) (by kernel_rfl)
def K21r0:OpsF:=(oVal (.tmp 6) (kAlloc [(.int .i64 0),(.int .i64 0)] (tag 43)) oNil)
def K21r1:OpsF:=(oVal (.tmp 9) (kMove (.tmp 0)) (oVal (.tmp 10) (kMove (.tmp 1)) (oVal (.tmp 11) (kMove (.tmp 2)) (oCall (.tmp 12) (.con (.func 20 [] [])) [(.tmp 9),(.tmp 10),(.tmp 11)] (oVal (.tmp 7) (kMove (.tmp 12)) oNil)))))
def K21r2:OpsF:=(oVal (.tmp 13) (kMove (.tmp 0)) (oVal (.tmp 14) (kMove (.tmp 7)) (oVal (.tmp 15) (kMove (.tmp 2)) (oVal (.tmp 16) (kMove (.tmp 7)) (oVal (.tmp 17) (kInt aAdd (.tmp 16) (.con (.int .i64 4))) (oVal (.tmp 18) (kFold minA (.tmp 15) [(.tmp 17)]) (oVal (.tmp 19) (kMove (.tmp 2)) (oVal (.tmp 20) (kBuildSlice [(.int .i64 0),(.int .i64 0),(.int .i64 0)] 3 [(0,1,(.tmp 14)),(1,1,(.tmp 18)),(2,1,(.tmp 19))]) (oCall (.tmp 21) (.con (.func 22 [] [])) [(.tmp 13),(.tmp 20)] (oVal (.tmp 8) (kMove (.tmp 21)) oNil))))))))))
def K21r3:OpsF:=(oVal (.tmp 22) (kMove (.tmp 7)) (oVal (.tmp 23) (kMove (.tmp 0)) (oVal (.tmp 24) (kMove (.tmp 7)) (oVal (.tmp 25) (kMove (.tmp 8)) (oCall (.tmp 26) (.con (.func 20 [] [])) [(.tmp 23),(.tmp 24),(.tmp 25)] (oVal (.tmp 27) (kBuild [(.int .i64 0),(.int .i64 0)] [(0,1,(.tmp 22)),(1,1,(.tmp 26))]) (oVal .none (kStore 2 (.tmp 6) (.tmp 27)) oNil)))))))
theorem res21:Try.f21.results.toList=[.cell 6 43]:=by kernel_rfl
def K21:K:=(kSeq (kRegion K21r0 [6]) (kSeq (kRegion K21r1 [7]) (kSeq (kRegion K21r2 [8]) (kSeq (kRegion K21r3 []) kRet))))
theorem enter21 (cl:CallF) (a0 a1 a2:AV) (s:St):enterA Try.prog X cl 21 [a0,a1,a2] s Try.f21=finA Try.prog Try.f21 (K21 cl ⟨21,none,Try.f21.ntmps,X 21⟩ (paramsEnv 0 [a0,a1,a2] .nil) [] s) :=
  enterA_eq (b:=Try.f21.body.getD .skip) (by kernel_rfl) (by kernel_rfl) (by kernel_rfl) (by kernel_rfl) (by kernel_rfl)
def K24r0:OpsF:=(oVal (.tmp 3) (kBox (tag 43) (.tmp 1)) (oVal (.tmp 4) (kMove (.con (.int .i64 0))) oNil))
def K24r1:OpsF:=(oEnd [] (oVal (.tmp 5) (kMove (.tmp 0)) (oVal (.tmp 6) (kUn (fadA 0) (.tmp 3)) (oVal (.tmp 7) (kLoad none (.tmp 6)) (oVal (.tmp 8) (kUn (fadA 1) (.tmp 3)) (oVal (.tmp 9) (kLoad none (.tmp 8)) (oVal (.tmp 10) (kMove (.tmp 0)) (oVal (.tmp 11) (kUn (fadA 0) (.tmp 3)) (oVal (.tmp 12) (kLoad none (.tmp 11)) (oVal (.tmp 13) (kUn (fadA 1) (.tmp 3)) (oVal (.tmp 14) (kLoad none (.tmp 13)) (oCallT (some [6,8,17,19]) (.tmp 15) (.con (.func 20 [] [])) [(.tmp 10),(.tmp 12),(.tmp 14)] (oVal (.tmp 16) (kMove (.tmp 0)) (oVal (.tmp 17) (kUn (fadA 0) (.tmp 3)) (oVal (.tmp 18) (kLoad none (.tmp 17)) (oVal (.tmp 19) (kUn (fadA 1) (.tmp 3)) (oVal (.tmp 20) (kLoad none (.tmp 19)) (oCallT (some [6,8]) (.tmp 21) (.con (.func 20 [] [])) [(.tmp 16),(.tmp 18),(.tmp 20)] (oVal (.tmp 22) (kBuildSlice [(.int .i64 0),(.int .i64 0),(.int .i64 0),(.int .i64 0)] 4 [(0,1,(.tmp 7)),(1,1,(.tmp 9)),(2,1,(.tmp 15)),(3,1,(.tmp 21))]) (oCall (.tmp 23) (.con (.func 22 [] [])) [(.tmp 5),(.tmp 22)] (oVal (.tmp 4) (kMove (.tmp 23)) oNil)))))))))))))))))))))
theorem res24:Try.f24.results.toList=[.tmp 4]:=by kernel_rfl
def K24:K:=(kSeq (kRegion K24r0 [3,4]) (kSeq (kRegionD K24r1 [4]) kRet))
theorem enter24 (cl:CallF) (a0 a1:AV) (s:St):enterA Try.prog X cl 24 [a0,a1] s Try.f24=finA Try.prog Try.f24 (K24 cl ⟨24,none,Try.f24.ntmps,X 24⟩ (paramsEnv 0 [a0,a1] .nil) [] s) :=
  enterA_eq (b:=Try.f24.body.getD .skip) (by kernel_rfl) (by kernel_rfl) (by kernel_rfl) (by kernel_rfl) (by kernel_rfl)
end
end Go.Proofs.Ytfekafjfidohdaa.code
set_option maxRecDepth 100000
namespace Go.Proofs.Ytfekafjfidohdaa.code
open Go.Abs
noncomputable section
def K7r0:OpsF:=(oVal (.tmp 10) (kAlloc [.nilslice,.nilslice,.nilslice,.nilslice,(.int .i64 0)] (tag 30)) (oVal (.tmp 11) (kAlloc [.nilslice,.nilslice] (tag 33)) (oVal (.tmp 12) (kMove (.con (.bool false))) oNil)))
def K7r1:OpsF:=(oVal (.tmp 29) (kMove (.tmp 0)) (oVal (.tmp 30) (kMove (.tmp 4)) (oVal (.tmp 31) (kInt aAdd (.tmp 30) (.con (.int .i64 1))) (oCall (.tmp 32) (.con (.func 8 [] [])) [(.tmp 29),(.tmp 31)] (oVal (.tmp 33) (kBuild [.nilslice,.nilslice,.nilslice,.nilslice,(.int .i64 0)] [(4,1,(.tmp 32))]) (oVal (.tmp 13) (kAlloc [.nilslice,.nilslice,.nilslice,.nilslice,(.int .i64 0)] (tag 30)) (oVal .none (kStore 5 (.tmp 13) (.tmp 33)) oNil)))))))
def K7r2:OpsF:=(oVal (.tmp 14) (kAlloc [.nilslice,.nilslice] (tag 33)) oNil)
def K7r3:OpsF:=(oVal (.tmp 34) (kMove (.tmp 0)) (oVal (.tmp 35) (kMove (.tmp 1)) (oCall (.tmp 36) (.con (.func 20 [] [])) [(.tmp 34),(.con (.int .i64 1)),(.tmp 35)] (oVal (.tmp 15) (kMove (.tmp 36)) oNil))))
def K7r4:OpsF:=(oVal (.tmp 37) (kMove (.tmp 15)) (oVal (.tmp 38) (kGtr (.tmp 37) (.con (.int .i64 0))) oNil))
def K7r5:OpsF:=(oVal (.tmp 41) (kMove (.tmp 0)) (oVal (.tmp 42) (kMove (.tmp 0)) (oVal (.tmp 43) (kBuildSlice [(.int .i64 0),(.int .i64 0)] 2 [(0,1,(.con (.int .i64 3))),(1,1,(.con (.int .i64 20)))]) (oCall (.tmp 44) (.con (.func 22 [] [])) [(.tmp 42),(.tmp 43)] (oVal (.tmp 45) (kUn negA (.tmp 44)) (oVal (.tmp 46) (kMove (.tmp 0)) (oVal (.tmp 47) (kBuildSlice [(.int .i64 0),(.int .i64 0)] 2 [(0,1,(.con (.int .i64 3))),(1,1,(.con (.int .i64 20)))]) (oCall (.tmp 48) (.con (.func 22 [] [])) [(.tmp 46),(.tmp 47)] (oCall (.tmp 49) (.con (.func 21 [] [])) [(.tmp 41),(.tmp 45),(.tmp 48)] (oVal (.tmp 16) (kAlloc [(.int .i64 0),(.int .i64 0)] (tag 43)) (oVal .none (kStore 2 (.tmp 16) (.tmp 49)) oNil)))))))))))
def K7r6:OpsF:=(oVal (.tmp 50) (kMove (.tmp 0)) (oCall (.tmp 51) (.con (.func 23 [] [])) [(.tmp 50),(.con (.int .i64 4))] oNil))
def K7r7:OpsF:=(oVal (.tmp 52) (kBuild [(.int .i64 0),(.int .i64 0)] []) (oVal .none (kStore 2 (.tmp 16) (.tmp 52)) oNil))
def K7r8:OpsF:=(oEnd [(54,62),(54,16)] (oVal (.tmp 53) (kUn (fadA 0) (.tmp 13)) (oVal (.tmp 54) (kLoad none (.tmp 53)) (oVal (.tmp 55) (kMove (.tmp 0)) (oVal (.tmp 56) (kBuildSlice [(.int .i64 0),(.int .i64 0),(.int .i64 0)] 3 [(0,1,(.con (.int .i64 5))),(1,1,(.con (.int .i64 500))),(2,1,(.con (.int .i64 1000)))]) (oCallT (some [53,16,62,16]) (.tmp 57) (.con (.func 22 [] [])) [(.tmp 55),(.tmp 56)] (oVal (.tmp 58) (kLoad (some 2) (.tmp 16)) (oVal (.tmp 59) (kBuild [(.int .i64 0),(.int .i64 0),(.int .i64 0)] [(0,1,(.tmp 57)),(1,2,(.tmp 58))]) (oVal (.tmp 60) (kBuildSlice [(.int .i64 0),(.int .i64 0),(.int .i64 0)] 1 [(0,3,(.tmp 59))]) (oVal (.tmp 61) (kTwo (appendA false 3 24 (tag 52)) (.tmp 54) (.tmp 60)) (oVal (.tmp 62) (kUn (fadA 0) (.tmp 14)) (oVal (.tmp 63) (kLoad none (.tmp 62)) (oVal (.tmp 64) (kMove (.tmp 0)) (oVal (.tmp 65) (kLoad (some 2) (.tmp 16)) (oCallT (some [62]) (.tmp 66) (.con (.func 24 [] [])) [(.tmp 64),(.tmp 65)] (oVal (.tmp 67) (kBuildSlice [(.int .i64 0)] 1 [(0,1,(.tmp 66))]) (oVal (.tmp 68) (kTwo (appendA false 1 8 (tag 3)) (.tmp 63) (.tmp 67)) (oVal (.tmp 69) (kUn (fadA 0) (.tmp 13)) (oVal .none (kStore 1 (.tmp 69) (.tmp 61)) (oVal (.tmp 70) (kUn (fadA 0) (.tmp 14)) (oVal .none (kStore 1 (.tmp 70) (.tmp 68)) oNil)))))))))))))))))))))
def K7r9:OpsF:=(oVal (.tmp 39) (kMove (.tmp 15)) (oVal (.tmp 40) (kInt aSub (.tmp 39) (.con (.int .i64 1))) (oVal (.tmp 15) (kMove (.tmp 40)) oNil)))
def K7l0:K:=(kSeq (kSeq (kRegion K7r4 [38]) (kCond (.tmp 38) kSkip (kExit 0))) (kSeq (kBlock 1 (kSeq (kRegion K7r5 [16]) (kSeq (kSeq (kRegion K7r6 [51]) (kCond (.tmp 51) (kRegion K7r7 []) kSkip)) (kRegionD K7r8 [])))) (kRegion K7r9 [15])))
def K7r10:OpsF:=(oVal (.tmp 71) (kMove (.tmp 0)) (oVal (.tmp 72) (kMove (.tmp 2)) (oCall (.tmp 73) (.con (.func 20 [] [])) [(.tmp 71),(.con (.int .i64 1)),(.tmp 72)] (oVal (.tmp 17) (kMove (.tmp 73)) oNil))))
def K7r11:OpsF:=(oVal (.tmp 74) (kMove (.tmp 17)) (oVal (.tmp 75) (kGtr (.tmp 74) (.con (.int .i64 0))) oNil))
def K7r12:OpsF:=(oVal (.tmp 78) (kMove (.tmp 0)) (oVal (.tmp 79) (kMove (.tmp 0)) (oVal (.tmp 80) (kBuildSlice [(.int .i64 0),(.int .i64 0)] 2 [(0,1,(.con (.int .i64 2))),(1,1,(.con (.int .i64 9)))]) (oCall (.tmp 81) (.con (.func 22 [] [])) [(.tmp 79),(.tmp 80)] (oVal (.tmp 82) (kUn negA (.tmp 81)) (oVal (.tmp 83) (kMove (.tmp 0)) (oVal (.tmp 84) (kBuildSlice [(.int .i64 0),(.int .i64 0)] 2 [(0,1,(.con (.int .i64 2))),(1,1,(.con (.int .i64 9)))]) (oCall (.tmp 85) (.con (.func 22 [] [])) [(.tmp 83),(.tmp 84)] (oCall (.tmp 86) (.con (.func 21 [] [])) [(.tmp 78),(.tmp 82),(.tmp 85)] (oVal (.tmp 87) (kMove (.tmp 0)) (oVal (.tmp 88) (kMove (.tmp 0)) (oVal (.tmp 89) (kBuildSlice [(.int .i64 0),(.int .i64 0)] 2 [(0,1,(.con (.int .i64 0))),(1,1,(.con (.int .i64 3)))]) (oCall (.tmp 90) (.con (.func 22 [] [])) [(.tmp 88),(.tmp 89)] (oCall (.tmp 91) (.con (.func 21 [] [])) [(.tmp 87),(.con (.int .i64 (-2))),(.tmp 90)] (oVal (.tmp 92) (kBuild [(.int .i64 0),(.int .i64 0),(.int .i64 0),(.int .i64 0)] [(0,2,(.tmp 86)),(2,2,(.tmp 91))]) (oVal (.tmp 18) (kAlloc [(.int .i64 0),(.int .i64 0),(.int .i64 0),(.int .i64 0)] (tag 71)) (oVal .none (kStore 4 (.tmp 18) (.tmp 92)) oNil)))))))))))))))))
def K7r13:OpsF:=(oVal (.tmp 93) (kMove (.tmp 0)) (oVal (.tmp 94) (kUn (fadA 0) (.tmp 18)) (oVal (.tmp 95) (kLoad (some 2) (.tmp 94)) (oCall (.tmp 96) (.con (.func 24 [] [])) [(.tmp 93),(.tmp 95)] (oVal (.tmp 97) (kBuildSlice [(.int .i64 0)] 1 [(0,1,(.tmp 96))]) (oVal (.tmp 19) (kMove (.tmp 97)) oNil))))))
def K7r14:OpsF:=(oVal (.tmp 20) (kMove (.con (.int .i64 0))) oNil)
def K7r15:OpsF:=(oVal (.tmp 98) (kMove (.tmp 20)) (oVal (.tmp 99) (kUn (fadA 4) (.tmp 13)) (oVal (.tmp 100) (kLoad none (.tmp 99)) (oVal (.tmp 101) (kInt aLss (.tmp 98) (.tmp 100)) oNil))))
def K7r16:OpsF:=(oEnd [] (oVal (.tmp 104) (kMove (.tmp 19)) (oVal (.tmp 105) (kMove (.tmp 19)) (oVal (.tmp 106) (kMove (.tmp 20)) (oVal (.tmp 107) (kTwo (ixsA 1) (.tmp 105) (.tmp 106)) (oVal (.tmp 108) (kLoad none (.tmp 107)) (oVal (.tmp 109) (kMove (.tmp 0)) (oVal (.tmp 110) (kUn (fadA 2) (.tmp 18)) (oVal (.tmp 111) (kLoad (some 2) (.tmp 110)) (oCallT (some [107]) (.tmp 112) (.con (.func 24 [] [])) [(.tmp 109),(.tmp 111)] (oVal (.tmp 113) (kInt aAdd (.tmp 108) (.tmp 112)) (oVal (.tmp 114) (kBuildSlice [(.int .i64 0)] 1 [(0,1,(.tmp 113))]) (oVal (.tmp 115) (kTwo (appendA false 1 8 (tag 3)) (.tmp 104) (.tmp 114)) (oVal (.tmp 19) (kMove (.tmp 115)) oNil))))))))))))))
def K7r17:OpsF:=(oVal (.tmp 102) (kMove (.tmp 20)) (oVal (.tmp 103) (kInt aAdd (.tmp 102) (.con (.int .i64 1))) (oVal (.tmp 20) (kMove (.tmp 103)) oNil)))
def K7l1:K:=(kSeq (kSeq (kRegion K7r15 [101]) (kCond (.tmp 101) kSkip (kExit 4))) (kSeq (kBlock 5 (kRegionD K7r16 [19])) (kRegion K7r17 [20])))
def K7r18:OpsF:=(oEnd [(117,121)] (oVal (.tmp 116) (kUn (fadA 2) (.tmp 13)) (oVal (.tmp 117) (kLoad none (.tmp 116)) (oVal (.tmp 118) (kLoad (some 4) (.tmp 18)) (oVal (.tmp 119) (kBuildSlice [(.int .i64 0),(.int .i64 0),(.int .i64 0),(.int .i64 0)] 1 [(0,4,(.tmp 118))]) (oVal (.tmp 120) (kTwo (appendA false 4 32 (tag 71)) (.tmp 117) (.tmp 119)) (oVal (.tmp 121) (kUn (fadA 1) (.tmp 14)) (oVal (.tmp 122) (kLoad none (.tmp 121)) (oVal (.tmp 123) (kMove (.tmp 19)) (oVal (.tmp 124) (kBuildSlice [.nilslice] 1 [(0,1,(.tmp 123))]) (oVal (.tmp 125) (kTwo (appendA false 1 24 (tag 22)) (.tmp 122) (.tmp 124)) (oVal (.tmp 126) (kUn (fadA 2) (.tmp 13)) (oVal .none (kStore 1 (.tmp 126) (.tmp 120)) (oVal (.tmp 127) (kUn (fadA 1) (.tmp 14)) (oVal .none (kStore 1 (.tmp 127) (.tmp 125)) oNil)))))))))))))))
def K7r19:OpsF:=(oVal (.tmp 76) (kMove (.tmp 17)) (oVal (.tmp 77) (kInt aSub (.tmp 76) (.con (.int .i64 1))) (oVal (.tmp 17) (kMove (.tmp 77)) oNil)))
def K7l2:K:=(kSeq (kSeq (kRegion K7r11 [75]) (kCond (.tmp 75) kSkip (kExit 2))) (kSeq (kBlock 3 (kSeq (kRegion K7r12 [18]) (kSeq (kRegion K7r13 [19]) (kSeq (kSeq (kRegion K7r14 [20]) (kBlock 4 (kLoop K7l1))) (kRegionD K7r18 []))))) (kRegion K7r19 [17])))
def K7r20:OpsF:=(oVal (.tmp 128) (kMove (.tmp 0)) (oVal (.tmp 129) (kMove (.tmp 3)) (oVal (.tmp 130) (kInt aAdd (.tmp 129) (.con (.int .i64 1))) (oCall (.tmp 131) (.con (.func 8 [] [])) [(.tmp 128),(.tmp 130)] (oVal (.tmp 21) (kMove (.tmp 131)) oNil)))))
def K7r21s7:OpsF:=(oVal (.tmp 139) (kPick (.tmp 134) (.tmp 138) (.con (.bool false))) oNil)
def K7r21s6:OpsF:=(oIf 134 true (oVal (.tmp 138) (kGtr (.tmp 137) (.con (.int .i64 1))) K7r21s7) (oSkip (.tmp 138) K7r21s7))
def K7r21s5:OpsF:=(oIf 134 true (oVal (.tmp 137) (kUn lenSlA (.tmp 136)) K7r21s6) (oSkip (.tmp 137) K7r21s6))
def K7r21s4:OpsF:=(oIf 134 true (oVal (.tmp 136) (kLoad none (.tmp 135)) K7r21s5) (oSkip (.tmp 136) K7r21s5))
def K7r21:OpsF:=(oVal (.tmp 132) (kMove (.tmp 21)) (oVal (.tmp 133) (kGtr (.tmp 132) (.con (.int .i64 0))) (oVal (.tmp 134) (kMove (.tmp 133)) (oIf 134 true (oVal (.tmp 135) (kUn (fadA 0) (.tmp 13)) K7r21s4) (oSkip (.tmp 135) K7r21s4)))))
def K7r22:OpsF:=(oVal (.tmp 142) (kMove (.tmp 0)) (oVal (.tmp 143) (kUn (fadA 0) (.tmp 13)) (oVal (.tmp 144) (kLoad none (.tmp 143)) (oVal (.tmp 145) (kUn lenSlA (.tmp 144)) (oCall (.tmp 146) (.con (.func 8 [] [])) [(.tmp 142),(.tmp 145)] (oVal (.tmp 22) (kMove (.tmp 146)) oNil))))))
def K7r23:OpsF:=(oEnd [] (oVal (.tmp 147) (kMove (.tmp 22)) (oVal (.tmp 148) (kMove (.tmp 0)) (oVal (.tmp 149) (kUn (fadA 0) (.tmp 13)) (oVal (.tmp 150) (kLoad none (.tmp 149)) (oVal (.tmp 151) (kUn lenSlA (.tmp 150)) (oVal (.tmp 152) (kInt aSub (.tmp 151) (.con (.int .i64 1))) (oCallT (some [155,156]) (.tmp 153) (.con (.func 20 [] [])) [(.tmp 148),(.con (.int .i64 1)),(.tmp 152)] (oVal (.tmp 154) (kInt aAdd (.tmp 147) (.tmp 153)) (oVal (.tmp 155) (kUn (fadA 0) (.tmp 13)) (oVal (.tmp 156) (kLoad none (.tmp 155)) (oVal (.tmp 157) (kUn lenSlA (.tmp 156)) (oCall (.tmp 158) (.con (.func 25 [] [])) [(.tmp 154),(.tmp 157)] (oVal (.tmp 23) (kMove (.tmp 158)) oNil))))))))))))))
def K7r24:OpsF:=(oEnd [] (oVal (.tmp 159) (kUn (fadA 0) (.tmp 14)) (oVal (.tmp 160) (kLoad none (.tmp 159)) (oVal (.tmp 161) (kMove (.tmp 22)) (oVal (.tmp 162) (kTwo (ixsA 1) (.tmp 160) (.tmp 161)) (oVal (.tmp 163) (kLoad none (.tmp 162)) (oVal (.tmp 164) (kUn (fadA 0) (.tmp 14)) (oVal (.tmp 165) (kLoad none (.tmp 164)) (oVal (.tmp 166) (kMove (.tmp 23)) (oVal (.tmp 167) (kTwo (ixsA 1) (.tmp 165) (.tmp 166)) (oVal (.tmp 168) (kLoad none (.tmp 167)) (oVal (.tmp 169) (kInt aSub (.tmp 163) (.tmp 168)) (oVal (.tmp 24) (kMove (.tmp 169)) oNil)))))))))))))
def K7r25:OpsF:=(oEnd [] (oVal (.tmp 170) (kUn (fadA 1) (.tmp 13)) (oVal (.tmp 171) (kLoad none (.tmp 170)) (oVal (.tmp 172) (kMove (.tmp 22)) (oVal (.tmp 173) (kMove (.tmp 23)) (oVal (.tmp 174) (kMove (.tmp 24)) (oVal (.tmp 175) (kMove (.tmp 0)) (oCallT (some [170]) (.tmp 176) (.con (.func 8 [] [])) [(.tmp 175),(.con (.int .i64 4))] (oVal (.tmp 177) (kInt aSub (.tmp 174) (.tmp 176)) (oVal (.tmp 178) (kMove (.tmp 24)) (oVal (.tmp 179) (kMove (.tmp 0)) (oCallT (some [170]) (.tmp 180) (.con (.func 8 [] [])) [(.tmp 179),(.con (.int .i64 4))] (oVal (.tmp 181) (kInt aAdd (.tmp 178) (.tmp 180)) (oVal (.tmp 182) (kBuild [(.int .i64 0),(.int .i64 0)] [(0,1,(.tmp 177)),(1,1,(.tmp 181))]) (oVal (.tmp 183) (kBuild [(.int .i64 0),(.int .i64 0),(.int .i64 0),(.int .i64 0)] [(0,1,(.tmp 172)),(1,1,(.tmp 173)),(2,2,(.tmp 182))]) (oVal (.tmp 184) (kBuildSlice [(.int .i64 0),(.int .i64 0),(.int .i64 0),(.int .i64 0)] 1 [(0,4,(.tmp 183))]) (oVal (.tmp 185) (kTwo (appendA false 4 32 (tag 56)) (.tmp 171) (.tmp 184)) (oVal (.tmp 186) (kUn (fadA 1) (.tmp 13)) (oVal .none (kStore 1 (.tmp 186) (.tmp 185)) oNil)))))))))))))))))))
def K7r26:OpsF:=(oVal (.tmp 140) (kMove (.tmp 21)) (oVal (.tmp 141) (kInt aSub (.tmp 140) (.con (.int .i64 1))) (oVal (.tmp 21) (kMove (.tmp 141)) oNil)))
def K7l3:K:=(kSeq (kSeq (kRegion K7r21 [139]) (kCond (.tmp 139) kSkip (kExit 6))) (kSeq (kBlock 7 (kSeq (kRegion K7r22 [22]) (kSeq (kRegionD K7r23 [23]) (kSeq (kRegionD K7r24 [24]) (kRegionD K7r25 []))))) (kRegion K7r26 [21])))
def K7r27:OpsF:=(oVal (.tmp 187) (kMove (.tmp 0)) (oVal (.tmp 188) (kMove (.tmp 3)) (oVal (.tmp 189) (kInt aAdd (.tmp 188) (.con (.int .i64 1))) (oCall (.tmp 190) (.con (.func 8 [] [])) [(.tmp 187),(.tmp 189)] (oVal (.tmp 25) (kMove (.tmp 190)) oNil)))))
def K7r28:OpsF:=(oVal (.tmp 191) (kMove (.tmp 25)) (oVal (.tmp 192) (kGtr (.tmp 191) (.con (.int .i64 0))) oNil))
def K7r29:OpsF:=(oEnd [] (oVal (.tmp 195) (kMove (.tmp 0)) (oVal (.tmp 196) (kUn (fadA 2) (.tmp 13)) (oVal (.tmp 197) (kLoad none (.tmp 196)) (oVal (.tmp 198) (kUn lenSlA (.tmp 197)) (oCallT (some [201,206,207]) (.tmp 199) (.con (.func 8 [] [])) [(.tmp 195),(.tmp 198)] (oVal (.tmp 200) (kMove (.tmp 0)) (oVal (.tmp 201) (kUn (fadA 4) (.tmp 13)) (oVal (.tmp 202) (kLoad none (.tmp 201)) (oVal (.tmp 203) (kInt aAdd (.tmp 202) (.con (.int .i64 1))) (oCallT (some [206,207]) (.tmp 204) (.con (.func 8 [] [])) [(.tmp 200),(.tmp 203)] (oVal (.tmp 205) (kMove (.tmp 0)) (oVal (.tmp 206) (kUn (fadA 0) (.tmp 13)) (oVal (.tmp 207) (kLoad none (.tmp 206)) (oVal (.tmp 208) (kUn lenSlA (.tmp 207)) (oCall (.tmp 209) (.con (.func 8 [] [])) [(.tmp 205),(.tmp 208)] (oVal (.tmp 210) (kBuild [(.int .i64 0),(.int .i64 0),(.int .i64 0),(.int .i64 0)] [(0,1,(.tmp 199)),(1,1,(.tmp 204)),(2,1,(.tmp 209))]) (oVal (.tmp 26) (kAlloc [(.int .i64 0),(.int .i64 0),(.int .i64 0),(.int .i64 0)] (tag 58)) (oVal .none (kStore 4 (.tmp 26) (.tmp 210)) oNil)))))))))))))))))))
def K7r30:OpsF:=(oEnd [] (oVal (.tmp 211) (kUn (fadA 0) (.tmp 13)) (oVal (.tmp 212) (kLoad none (.tmp 211)) (oVal (.tmp 213) (kUn (fadA 2) (.tmp 26)) (oVal (.tmp 214) (kLoad none (.tmp 213)) (oVal (.tmp 215) (kTwo (ixsA 3) (.tmp 212) (.tmp 214)) (oVal (.tmp 216) (kUn (fadA 0) (.tmp 215)) (oVal (.tmp 217) (kLoad none (.tmp 216)) (oVal (.tmp 218) (kUn (fadA 0) (.tmp 14)) (oVal (.tmp 219) (kLoad none (.tmp 218)) (oVal (.tmp 220) (kUn (fadA 2) (.tmp 26)) (oVal (.tmp 221) (kLoad none (.tmp 220)) (oVal (.tmp 222) (kTwo (ixsA 1) (.tmp 219) (.tmp 221)) (oVal (.tmp 223) (kLoad none (.tmp 222)) (oVal (.tmp 224) (kInt aAdd (.tmp 217) (.tmp 223)) (oVal (.tmp 225) (kUn (fadA 1) (.tmp 14)) (oVal (.tmp 226) (kLoad none (.tmp 225)) (oVal (.tmp 227) (kUn (fadA 0) (.tmp 26)) (oVal (.tmp 228) (kLoad none (.tmp 227)) (oVal (.tmp 229) (kTwo (ixsA 1) (.tmp 226) (.tmp 228)) (oVal (.tmp 230) (kLoad none (.tmp 229)) (oVal (.tmp 231) (kUn (fadA 1) (.tmp 26)) (oVal (.tmp 232) (kLoad none (.tmp 231)) (oVal (.tmp 233) (kTwo (ixsA 1) (.tmp 230) (.tmp 232)) (oVal (.tmp 234) (kLoad none (.tmp 233)) (oVal (.tmp 235) (kInt aAdd (.tmp 224) (.tmp 234)) (oVal (.tmp 236) (kFold maxA (.con (.int .i64 0)) [(.tmp 235)]) (oVal (.tmp 237) (kUn (fadA 3) (.tmp 26)) (oVal .none (kStore 1 (.tmp 237) (.tmp 236)) oNil)))))))))))))))))))))))))))))
def K7r31:OpsF:=(oVal (.tmp 238) (kUn (fadA 3) (.tmp 13)) (oVal (.tmp 239) (kLoad none (.tmp 238)) (oVal (.tmp 240) (kLoad (some 4) (.tmp 26)) (oVal (.tmp 241) (kBuildSlice [(.int .i64 0),(.int .i64 0),(.int .i64 0),(.int .i64 0)] 1 [(0,4,(.tmp 240))]) (oVal (.tmp 242) (kTwo (appendA false 4 32 (tag 58)) (.tmp 239) (.tmp 241)) (oVal (.tmp 243) (kUn (fadA 3) (.tmp 13)) (oVal .none (kStore 1 (.tmp 243) (.tmp 242)) oNil)))))))
def K7r32:OpsF:=(oVal (.tmp 193) (kMove (.tmp 25)) (oVal (.tmp 194) (kInt aSub (.tmp 193) (.con (.int .i64 1))) (oVal (.tmp 25) (kMove (.tmp 194)) oNil)))
def K7l4:K:=(kSeq (kSeq (kRegion K7r28 [192]) (kCond (.tmp 192) kSkip (kExit 8))) (kSeq (kBlock 9 (kSeq (kRegionD K7r29 [26]) (kSeq (kRegionD K7r30 []) (kRegion K7r31 [])))) (kRegion K7r32 [25])))
def K7r33:OpsF:=(oVal (.tmp 244) (kLoad (some 5) (.tmp 13)) (oVal (.tmp 245) (kLoad (some 2) (.tmp 14)) (oCall (.tmp 246) (.con (.func 26 [] [])) [(.tmp 244),(.tmp 245)] (oVal (.tmp 27) (kMove (.tmp 246)) oNil))))
def K7r34s7:OpsF:=(oVal (.tmp 254) (kPick (.tmp 251) (.tmp 253) (.con (.bool false))) oNil)
def K7r34s6:OpsF:=(oIf 251 true (oCall (.tmp 253) (.con (.func 23 [] [])) [(.tmp 252),(.con (.int .i64 4))] K7r34s7) (oSkip (.tmp 253) K7r34s7))
def K7r34:OpsF:=(oVal (.tmp 247) (kUn (fadA 3) (.tmp 13)) (oVal (.tmp 248) (kLoad none (.tmp 247)) (oVal (.tmp 249) (kUn lenSlA (.tmp 248)) (oVal (.tmp 250) (kGtr (.tmp 249) (.con (.int .i64 0))) (oVal (.tmp 251) (kMove (.tmp 250)) (oIf 251 true (oVal (.tmp 252) (kMove (.tmp 0)) K7r34s6) (oSkip (.tmp 252) K7r34s6)))))))
def K7r35:OpsF:=(oEnd [] (oVal (.tmp 255) (kUn (fadA 3) (.tmp 13)) (oVal (.tmp 256) (kLoad none (.tmp 255)) (oVal (.tmp 257) (kMove (.tmp 0)) (oVal (.tmp 258) (kUn (fadA 3) (.tmp 13)) (oVal (.tmp 259) (kLoad none (.tmp 258)) (oVal (.tmp 260) (kUn lenSlA (.tmp 259)) (oCallT (some [255]) (.tmp 261) (.con (.func 8 [] [])) [(.tmp 257),(.tmp 260)] (oVal (.tmp 262) (kTwo (ixsA 4) (.tmp 256) (.tmp 261)) (oVal (.tmp 28) (kMove (.tmp 262)) oNil))))))))))
def K7r36:OpsF:=(oEnd [] (oVal (.tmp 263) (kMove (.tmp 28)) (oVal (.tmp 264) (kMove (.tmp 28)) (oVal (.tmp 265) (kUn nilA (.tmp 264)) (oVal (.tmp 266) (kUn (fadA 3) (.tmp 265)) (oVal (.tmp 267) (kLoad none (.tmp 266)) (oVal (.tmp 268) (kMove (.tmp 0)) (oCallT (some [266]) (.tmp 269) (.con (.func 20 [] [])) [(.tmp 268),(.con (.int .i64 (-9))),(.con (.int .i64 9))] (oVal (.tmp 270) (kInt aAdd (.tmp 267) (.tmp 269)) (oVal (.tmp 271) (kFold maxA (.con (.int .i64 0)) [(.tmp 270)]) (oVal (.tmp 272) (kUn nilA (.tmp 263)) (oVal (.tmp 273) (kUn (fadA 3) (.tmp 272)) (oVal .none (kStore 1 (.tmp 273) (.tmp 271)) oNil)))))))))))))
def K7r37:OpsF:=(oVal (.tmp 274) (kLoad (some 5) (.tmp 13)) (oVal (.tmp 275) (kLoad (some 2) (.tmp 14)) (oCall (.tmp 276) (.con (.func 26 [] [])) [(.tmp 274),(.tmp 275)] (oVal (.tmp 27) (kMove (.tmp 276)) oNil))))
def K7r38:OpsF:=(oEnd [(10,14)] (oVal (.tmp 277) (kLoad (some 5) (.tmp 13)) (oVal (.tmp 278) (kLoad (some 2) (.tmp 14)) (oVal (.tmp 279) (kMove (.tmp 27)) (oVal .none (kStore 5 (.tmp 10) (.tmp 277)) (oVal .none (kStore 2 (.tmp 11) (.tmp 278)) (oVal (.tmp 12) (kMove (.tmp 279)) oNil)))))))
theorem res7:Try.f7.results.toList=[.cell 10 30,.cell 11 33,.tmp 12]:=by kernel_rfl
def K7:K:=(kSeq (kRegion K7r0 [10,11,12]) (kSeq (kRegion K7r1 [13]) (kSeq (kRegion K7r2 [14]) (kSeq (kSeq (kRegion K7r3 [15]) (kBlock 0 (kLoop K7l0))) (kSeq (kSeq (kRegion K7r10 [17]) (kBlock 2 (kLoop K7l2))) (kSeq (kSeq (kRegion K7r20 [21]) (kBlock 6 (kLoop K7l3))) (kSeq (kSeq (kRegion K7r27 [25]) (kBlock 8 (kLoop K7l4))) (kSeq (kRegion K7r33 [27]) (kSeq (kSeq (kRegion K7r34 [254]) (kCond (.tmp 254) (kSeq (kRegionD K7r35 [28]) (kSeq (kRegionD K7r36 []) (kRegion K7r37 [27]))) kSkip)) (kSeq (kRegionD K7r38 [12]) kRet))))))))))
theorem enter7 (cl:CallF) (a0 a1 a2 a3 a4:AV) (s:St):enterA Try.prog X cl 7 [a0,a1,a2,a3,a4] s Try.f7=finA Try.prog Try.f7 (K7 cl ⟨7,none,Try.f7.ntmps,X 7⟩ (paramsEnv 0 [a0,a1,a2,a3,a4] .nil) [] s) :=
  enterA_eq (b:=Try.f7.body.getD .skip) (by kernel_rfl) (by kernel_rfl) (by kernel_rfl) (by kernel_rfl) (by kernel_rfl)
def K25r0:OpsF:=(oVal (.tmp 4) (kMove (.con (.int .i64 0))) oNil)
def K25r1:OpsF:=(oVal (.tmp 5) (kMove (.tmp 1)) (oVal (.tmp 6) (kInt aLss (.tmp 5) (.con (.int .i64 2))) oNil))
def K25r2:OpsF:=(oVal (.tmp 4) (kMove (.con (.int .i64 0))) oNil)
def K25r3:OpsF:=(oVal (.tmp 7) (kMove (.tmp 0)) (oVal (.tmp 8) (kMove (.tmp 1)) (oVal (.tmp 9) (kInt aRem (.tmp 7) (.tmp 8)) (oVal (.tmp 0) (kMove (.tmp 9)) oNil))))
def K25r4:OpsF:=(oVal (.tmp 10) (kMove (.tmp 0)) (oVal (.tmp 11) (kInt aLss (.tmp 10) (.con (.int .i64 0))) oNil))
def K25r5:OpsF:=(oVal (.tmp 12) (kMove (.tmp 0)) (oVal (.tmp 13) (kMove (.tmp 1)) (oVal (.tmp 14) (kInt aAdd (.tmp 12) (.tmp 13)) (oVal (.tmp 4) (kMove (.tmp 14)) oNil))))
def K25r6:OpsF:=(oVal (.tmp 15) (kMove (.tmp 0)) (oVal (.tmp 4) (kMove (.tmp 15)) oNil))
theorem res25:Try.f25.results.toList=[.tmp 4]:=by kernel_rfl
def K25:K:=(kSeq (kRegion K25r0 [4]) (kSeq (kSeq (kRegion K25r1 [6]) (kCond (.tmp 6) (kSeq (kRegion K25r2 [4]) kRet) kSkip)) (kSeq (kRegion K25r3 [0]) (kSeq (kSeq (kRegion K25r4 [11]) (kCond (.tmp 11) (kSeq (kRegion K25r5 [4]) kRet) kSkip)) (kSeq (kRegion K25r6 [4]) kRet)))))
theorem enter25 (cl:CallF) (a0 a1:AV) (s:St):enterA Try.prog X cl 25 [a0,a1] s Try.f25=finA Try.prog Try.f25 (K25 cl ⟨25,none,Try.f25.ntmps,X 25⟩ (paramsEnv 0 [a0,a1] .nil) [] s) :=
  enterA_eq (b:=Try.f25.body.getD .skip) (by kernel_rfl) (by kernel_rfl) (by kernel_rfl) (by kernel_rfl) (by kernel_rfl)
def K26r0:OpsF:=(oVal (.tmp 2) (kBox (tag 30) (.tmp 0)) (oVal (.tmp 3) (kBox (tag 33) (.tmp 1)) (oVal (.tmp 4) (kMove (.con (.bool false))) oNil)))
def K26r1:OpsF:=(oVal (.tmp 5) (kMove (.con (.int .i64 0))) oNil)
def K26r2:OpsF:=(oVal (.tmp 9) (kMove (.tmp 5)) (oVal (.tmp 10) (kUn (fadA 1) (.tmp 2)) (oVal (.tmp 11) (kLoad none (.tmp 10)) (oVal (.tmp 12) (kUn lenSlA (.tmp 11)) (oVal (.tmp 13) (kInt aLss (.tmp 9) (.tmp 12)) oNil)))))
def K26r3:OpsF:=(oVal (.tmp 16) (kUn (fadA 1) (.tmp 2)) (oVal (.tmp 17) (kLoad none (.tmp 16)) (oVal (.tmp 18) (kMove (.tmp 5)) (oVal (.tmp 19) (kTwo (ixsA 4) (.tmp 17) (.tmp 18)) (oVal (.tmp 20) (kLoad (some 4) (.tmp 19)) (oVal (.tmp 6) (kAlloc [(.int .i64 0),(.int .i64 0),(.int .i64 0),(.int .i64 0)] (tag 56)) (oVal .none (kStore 4 (.tmp 6) (.tmp 20)) oNil)))))))
def K26r4:OpsF:=(oEnd [] (oVal (.tmp 21) (kUn (fadA 2) (.tmp 6)) (oVal (.tmp 22) (kLoad (some 2) (.tmp 21)) (oVal (.tmp 23) (kUn (fadA 0) (.tmp 3)) (oVal (.tmp 24) (kLoad none (.tmp 23)) (oVal (.tmp 25) (kUn (fadA 0) (.tmp 6)) (oVal (.tmp 26) (kLoad none (.tmp 25)) (oVal (.tmp 27) (kTwo (ixsA 1) (.tmp 24) (.tmp 26)) (oVal (.tmp 28) (kLoad none (.tmp 27)) (oVal (.tmp 29) (kUn (fadA 0) (.tmp 3)) (oVal (.tmp 30) (kLoad none (.tmp 29)) (oVal (.tmp 31) (kUn (fadA 1) (.tmp 6)) (oVal (.tmp 32) (kLoad none (.tmp 31)) (oVal (.tmp 33) (kTwo (ixsA 1) (.tmp 30) (.tmp 32)) (oVal (.tmp 34) (kLoad none (.tmp 33)) (oVal (.tmp 35) (kInt aSub (.tmp 28) (.tmp 34)) (oCall (.tmp 36) (.con (.func 14 [] [])) [(.tmp 22),(.tmp 35)] (oVal (.tmp 37) (kUn notA (.tmp 36)) oNil))))))))))))))))))
def K26r5:OpsF:=(oVal (.tmp 4) (kMove (.con (.bool false))) oNil)
def K26r6:OpsF:=(oVal (.tmp 14) (kMove (.tmp 5)) (oVal (.tmp 15) (kInt aAdd (.tmp 14) (.con (.int .i64 1))) (oVal (.tmp 5) (kMove (.tmp 15)) oNil)))
def K26l0:K:=(kSeq (kSeq (kRegion K26r2 [13]) (kCond (.tmp 13) kSkip (kExit 0))) (kSeq (kBlock 1 (kSeq (kRegion K26r3 [6]) (kSeq (kRegionD K26r4 [37]) (kCond (.tmp 37) (kSeq (kRegion K26r5 [4]) kRet) kSkip)))) (kRegion K26r6 [5])))
def K26r7:OpsF:=(oVal (.tmp 7) (kMove (.con (.int .i64 0))) oNil)
def K26r8:OpsF:=(oVal (.tmp 38) (kMove (.tmp 7)) (oVal (.tmp 39) (kUn (fadA 3) (.tmp 2)) (oVal (.tmp 40) (kLoad none (.tmp 39)) (oVal (.tmp 41) (kUn lenSlA (.tmp 40)) (oVal (.tmp 42) (kInt aLss (.tmp 38) (.tmp 41)) oNil)))))
def K26r9:OpsF:=(oVal (.tmp 45) (kUn (fadA 3) (.tmp 2)) (oVal (.tmp 46) (kLoad none (.tmp 45)) (oVal (.tmp 47) (kMove (.tmp 7)) (oVal (.tmp 48) (kTwo (ixsA 4) (.tmp 46) (.tmp 47)) (oVal (.tmp 49) (kLoad (some 4) (.tmp 48)) (oVal (.tmp 8) (kAlloc [(.int .i64 0),(.int .i64 0),(.int .i64 0),(.int .i64 0)] (tag 58)) (oVal .none (kStore 4 (.tmp 8) (.tmp 49)) oNil)))))))
def K26r10:OpsF:=(oEnd [] (oVal (.tmp 50) (kUn (fadA 3) (.tmp 8)) (oVal (.tmp 51) (kLoad none (.tmp 50)) (oVal (.tmp 52) (kUn (fadA 0) (.tmp 2)) (oVal (.tmp 53) (kLoad none (.tmp 52)) (oVal (.tmp 54) (kUn (fadA 2) (.tmp 8)) (oVal (.tmp 55) (kLoad none (.tmp 54)) (oVal (.tmp 56) (kTwo (ixsA 3) (.tmp 53) (.tmp 55)) (oVal (.tmp 57) (kUn (fadA 0) (.tmp 56)) (oVal (.tmp 58) (kLoad none (.tmp 57)) (oVal (.tmp 59) (kUn (fadA 0) (.tmp 3)) (oVal (.tmp 60) (kLoad none (.tmp 59)) (oVal (.tmp 61) (kUn (fadA 2) (.tmp 8)) (oVal (.tmp 62) (kLoad none (.tmp 61)) (oVal (.tmp 63) (kTwo (ixsA 1) (.tmp 60) (.tmp 62)) (oVal (.tmp 64) (kLoad none (.tmp 63)) (oVal (.tmp 65) (kInt aAdd (.tmp 58) (.tmp 64)) (oVal (.tmp 66) (kUn (fadA 1) (.tmp 3)) (oVal (.tmp 67) (kLoad none (.tmp 66)) (oVal (.tmp 68) (kUn (fadA 0) (.tmp 8)) (oVal (.tmp 69) (kLoad none (.tmp 68)) (oVal (.tmp 70) (kTwo (ixsA 1) (.tmp 67) (.tmp 69)) (oVal (.tmp 71) (kLoad none (.tmp 70)) (oVal (.tmp 72) (kUn (fadA 1) (.tmp 8)) (oVal (.tmp 73) (kLoad none (.tmp 72)) (oVal (.tmp 74) (kTwo (ixsA 1) (.tmp 71) (.tmp 73)) (oVal (.tmp 75) (kLoad none (.tmp 74)) (oVal (.tmp 76) (kInt aAdd (.tmp 65) (.tmp 75)) (oVal (.tmp 77) (kInt aNeq (.tmp 51) (.tmp 76)) oNil)))))))))))))))))))))))))))))
def K26r11:OpsF:=(oVal (.tmp 4) (kMove (.con (.bool false))) oNil)
def K26r12:OpsF:=(oVal (.tmp 43) (kMove (.tmp 7)) (oVal (.tmp 44) (kInt aAdd (.tmp 43) (.con (.int .i64 1))) (oVal (.tmp 7) (kMove (.tmp 44)) oNil)))
def K26l1:K:=(kSeq (kSeq (kRegion K26r8 [42]) (kCond (.tmp 42) kSkip (kExit 2))) (kSeq (kBlock 3 (kSeq (kRegion K26r9 [8]) (kSeq (kRegionD K26r10 [77]) (kCond (.tmp 77) (kSeq (kRegion K26r11 [4]) kRet) kSkip)))) (kRegion K26r12 [7])))
def K26r13:OpsF:=(oVal (.tmp 4) (kMove (.con (.bool true))) oNil)
theorem res26:Try.f26.results.toList=[.tmp 4]:=by kernel_rfl
def K26:K:=(kSeq (kRegion K26r0 [2,3,4]) (kSeq (kSeq (kRegion K26r1 [5]) (kBlock 0 (kLoop K26l0))) (kSeq (kSeq (kRegion K26r7 [7]) (kBlock 2 (kLoop K26l1))) (kSeq (kRegion K26r13 [4]) kRet))))
theorem enter26 (cl:CallF) (a0 a1:AV) (s:St):enterA Try.prog X cl 26 [a0,a1] s Try.f26=finA Try.prog Try.f26 (K26 cl ⟨26,none,Try.f26.ntmps,X 26⟩ (paramsEnv 0 [a0,a1] .nil) [] s) :=
  enterA_eq (b:=Try.f26.body.getD .skip) (by kernel_rfl) (by kernel_rfl) (by kernel_rfl) (by kernel_rfl) (by kernel_rfl)
def K14r0:OpsF:=(oVal (.tmp 2) (kBox (tag 43) (.tmp 0)) (oVal (.tmp 4) (kMove (.con (.bool false))) oNil))
def K14r1s9:OpsF:=(oVal (.tmp 14) (kPick (.tmp 9) (.tmp 13) (.con (.bool false))) (oVal (.tmp 4) (kMove (.tmp 14)) oNil))
def K14r1s8:OpsF:=(oIf 9 true (oVal (.tmp 13) (kInt aLeq (.tmp 10) (.tmp 12)) K14r1s9) (oSkip (.tmp 13) K14r1s9))
def K14r1s7:OpsF:=(oIf 9 true (oVal (.tmp 12) (kLoad none (.tmp 11)) K14r1s8) (oSkip (.tmp 12) K14r1s8))
def K14r1s6:OpsF:=(oIf 9 true (oVal (.tmp 11) (kUn (fadA 1) (.tmp 2)) K14r1s7) (oSkip (.tmp 11) K14r1s7))
def K14r1:OpsF:=(oVal (.tmp 5) (kUn (fadA 0) (.tmp 2)) (oVal (.tmp 6) (kLoad none (.tmp 5)) (oVal (.tmp 7) (kMove (.tmp 1)) (oVal (.tmp 8) (kInt aLeq (.tmp 6) (.tmp 7)) (oVal (.tmp 9) (kMove (.tmp 8)) (oIf 9 true (oVal (.tmp 10) (kMove (.tmp 1)) K14r1s6) (oSkip (.tmp 10) K14r1s6)))))))
theorem res14:Try.f14.results.toList=[.tmp 4]:=by kernel_rfl
def K14:K:=(kSeq (kRegion K14r0 [2,4]) (kSeq (kRegion K14r1 [4]) kRet))
theorem enter14 (cl:CallF) (a0 a1:AV) (s:St):enterA Try.prog X cl 14 [a0,a1] s Try.f14=finA Try.prog Try.f14 (K14 cl ⟨14,none,Try.f14.ntmps,X 14⟩ (paramsEnv 0 [a0,a1] .nil) [] s) :=
  enterA_eq (b:=Try.f14.body.getD .skip) (by kernel_rfl) (by kernel_rfl) (by kernel_rfl) (by kernel_rfl) (by kernel_rfl)
end
end Go.Proofs.Ytfekafjfidohdaa.code
set_option maxRecDepth 100000
namespace Go.Proofs.Ytfekafjfidohdaa.code
open Go.Abs
noncomputable section
end
end Go.Proofs.Ytfekafjfidohdaa.code
set_option maxRecDepth 100000
namespace Go.Proofs.Ytfekafjfidohdaa.code
open Go.Abs
noncomputable section
def K4r0:OpsF:=(oVal (.tmp 2) (kMove (.con (.bool false))) oNil)
def K4r1:OpsF:=(oVal (.tmp 21) (kMove (.tmp 0)) (oCall (.tmp 22) (.con (.func 6 [] [])) [(.tmp 21)] (oVal (.tmp 3) (kMove (.tmp 22)) oNil)))
def K4r2:OpsF:=(oVal (.tmp 24) (kMove (.tmp 3)) (oCall (.tmp 25) (.con (.func 7 [] [])) [(.tmp 24),(.con (.int .i64 4)),(.con (.int .i64 2)),(.con (.int .i64 3)),(.con (.int .i64 5))] (oVal (.tmp 23) (kMove (.tmp 25)) (oVal (.tmp 26) (kUn (extA 0) (.tmp 23)) (oVal (.tmp 27) (kUn (extA 1) (.tmp 23)) (oVal (.tmp 28) (kUn (extA 2) (.tmp 23)) (oVal (.tmp 4) (kAlloc [.nilslice,.nilslice,.nilslice,.nilslice,(.int .i64 0)] (tag 30)) (oVal (.tmp 5) (kAlloc [.nilslice,.nilslice] (tag 33)) (oVal .none (kStore 5 (.tmp 4) (.tmp 26)) (oVal .none (kStore 2 (.tmp 5) (.tmp 27)) (oVal (.tmp 6) (kMove (.tmp 28)) oNil)))))))))))
def K4r3:OpsF:=(oVal (.tmp 29) (kLoad (some 5) (.tmp 4)) (oVal (.tmp 7) (kAlloc [.nilslice,.nilslice,.nilslice,.nilslice,(.int .i64 0)] (tag 30)) (oVal .none (kStore 5 (.tmp 7) (.tmp 29)) oNil)))
def K4r4:OpsF:=(oVal (.tmp 30) (kUn (fadA 1) (.tmp 7)) (oVal .none (kStore 1 (.tmp 30) (.con .nilslice)) (oVal (.tmp 31) (kUn (fadA 3) (.tmp 7)) (oVal .none (kStore 1 (.tmp 31) (.con .nilslice)) oNil))))
def K4r5:OpsF:=(oEnd [] (oVal (.tmp 32) (kMove (.tmp 3)) (oVal (.tmp 33) (kUn (fadA 1) (.tmp 4)) (oVal (.tmp 34) (kLoad none (.tmp 33)) (oVal (.tmp 35) (kUn lenSlA (.tmp 34)) (oCallT (some [38,39]) (.tmp 36) (.con (.func 16 [] [])) [(.tmp 32),(.tmp 35)] (oVal (.tmp 37) (kMove (.tmp 3)) (oVal (.tmp 38) (kUn (fadA 3) (.tmp 4)) (oVal (.tmp 39) (kLoad none (.tmp 38)) (oVal (.tmp 40) (kUn lenSlA (.tmp 39)) (oCall (.tmp 41) (.con (.func 16 [] [])) [(.tmp 37),(.tmp 40)] (oVal (.tmp 8) (kMove (.tmp 36)) (oVal (.tmp 9) (kMove (.tmp 41)) oNil)))))))))))))
def K4r6:OpsF:=(oVal (.tmp 10) (kMove (.con (.int .i64 0))) oNil)
def K4r7:OpsF:=(oVal (.tmp 42) (kMove (.tmp 10)) (oVal (.tmp 43) (kMove (.tmp 8)) (oVal (.tmp 44) (kUn lenSlA (.tmp 43)) (oVal (.tmp 45) (kInt aLss (.tmp 42) (.tmp 44)) oNil))))
def K4r8:OpsF:=(oEnd [] (oVal (.tmp 48) (kUn (fadA 1) (.tmp 7)) (oVal (.tmp 49) (kLoad none (.tmp 48)) (oVal (.tmp 50) (kUn (fadA 1) (.tmp 4)) (oVal (.tmp 51) (kLoad none (.tmp 50)) (oVal (.tmp 52) (kMove (.tmp 8)) (oVal (.tmp 53) (kMove (.tmp 10)) (oVal (.tmp 54) (kTwo (ixsA 1) (.tmp 52) (.tmp 53)) (oVal (.tmp 55) (kLoad none (.tmp 54)) (oVal (.tmp 56) (kTwo (ixsA 4) (.tmp 51) (.tmp 55)) (oVal (.tmp 57) (kLoad (some 4) (.tmp 56)) (oVal (.tmp 58) (kUn (fadA 1) (.tmp 4)) (oVal (.tmp 59) (kLoad none (.tmp 58)) (oVal (.tmp 60) (kMove (.tmp 8)) (oVal (.tmp 61) (kMove (.tmp 3)) (oVal (.tmp 62) (kMove (.tmp 8)) (oVal (.tmp 63) (kUn lenSlA (.tmp 62)) (oCallT (some [48,50,54,56,58]) (.tmp 64) (.con (.func 8 [] [])) [(.tmp 61),(.tmp 63)] (oVal (.tmp 65) (kTwo (ixsA 1) (.tmp 60) (.tmp 64)) (oVal (.tmp 66) (kLoad none (.tmp 65)) (oVal (.tmp 67) (kTwo (ixsA 4) (.tmp 59) (.tmp 66)) (oVal (.tmp 68) (kLoad (some 4) (.tmp 67)) (oVal (.tmp 69) (kBuildSlice [(.int .i64 0),(.int .i64 0),(.int .i64 0),(.int .i64 0),(.int .i64 0),(.int .i64 0),(.int .i64 0),(.int .i64 0)] 2 [(0,4,(.tmp 57)),(4,4,(.tmp 68))]) (oVal (.tmp 70) (kTwo (appendA false 4 32 (tag 56)) (.tmp 49) (.tmp 69)) (oVal (.tmp 71) (kUn (fadA 1) (.tmp 7)) (oVal .none (kStore 1 (.tmp 71) (.tmp 70)) oNil))))))))))))))))))))))))))
def K4r9:OpsF:=(oVal (.tmp 46) (kMove (.tmp 10)) (oVal (.tmp 47) (kInt aAdd (.tmp 46) (.con (.int .i64 1))) (oVal (.tmp 10) (kMove (.tmp 47)) oNil)))
def K4l0:K:=(kSeq (kSeq (kRegion K4r7 [45]) (kCond (.tmp 45) kSkip (kExit 0))) (kSeq (kBlock 1 (kRegionD K4r8 [])) (kRegion K4r9 [10])))
def K4r10:OpsF:=(oVal (.tmp 11) (kMove (.con (.int .i64 0))) oNil)
def K4r11:OpsF:=(oVal (.tmp 72) (kMove (.tmp 11)) (oVal (.tmp 73) (kMove (.tmp 9)) (oVal (.tmp 74) (kUn lenSlA (.tmp 73)) (oVal (.tmp 75) (kInt aLss (.tmp 72) (.tmp 74)) oNil))))
def K4r12:OpsF:=(oEnd [] (oVal (.tmp 78) (kUn (fadA 3) (.tmp 7)) (oVal (.tmp 79) (kLoad none (.tmp 78)) (oVal (.tmp 80) (kUn (fadA 3) (.tmp 4)) (oVal (.tmp 81) (kLoad none (.tmp 80)) (oVal (.tmp 82) (kMove (.tmp 9)) (oVal (.tmp 83) (kMove (.tmp 11)) (oVal (.tmp 84) (kTwo (ixsA 1) (.tmp 82) (.tmp 83)) (oVal (.tmp 85) (kLoad none (.tmp 84)) (oVal (.tmp 86) (kTwo (ixsA 4) (.tmp 81) (.tmp 85)) (oVal (.tmp 87) (kLoad (some 4) (.tmp 86)) (oVal (.tmp 88) (kUn (fadA 3) (.tmp 4)) (oVal (.tmp 89) (kLoad none (.tmp 88)) (oVal (.tmp 90) (kMove (.tmp 9)) (oVal (.tmp 91) (kMove (.tmp 3)) (oVal (.tmp 92) (kMove (.tmp 9)) (oVal (.tmp 93) (kUn lenSlA (.tmp 92)) (oCallT (some [78,80,84,86,88]) (.tmp 94) (.con (.func 8 [] [])) [(.tmp 91),(.tmp 93)] (oVal (.tmp 95) (kTwo (ixsA 1) (.tmp 90) (.tmp 94)) (oVal (.tmp 96) (kLoad none (.tmp 95)) (oVal (.tmp 97) (kTwo (ixsA 4) (.tmp 89) (.tmp 96)) (oVal (.tmp 98) (kLoad (some 4) (.tmp 97)) (oVal (.tmp 99) (kBuildSlice [(.int .i64 0),(.int .i64 0),(.int .i64 0),(.int .i64 0),(.int .i64 0),(.int .i64 0),(.int .i64 0),(.int .i64 0)] 2 [(0,4,(.tmp 87)),(4,4,(.tmp 98))]) (oVal (.tmp 100) (kTwo (appendA false 4 32 (tag 58)) (.tmp 79) (.tmp 99)) (oVal (.tmp 101) (kUn (fadA 3) (.tmp 7)) (oVal .none (kStore 1 (.tmp 101) (.tmp 100)) oNil))))))))))))))))))))))))))
def K4r13:OpsF:=(oVal (.tmp 76) (kMove (.tmp 11)) (oVal (.tmp 77) (kInt aAdd (.tmp 76) (.con (.int .i64 1))) (oVal (.tmp 11) (kMove (.tmp 77)) oNil)))
def K4l1:K:=(kSeq (kSeq (kRegion K4r11 [75]) (kCond (.tmp 75) kSkip (kExit 2))) (kSeq (kBlock 3 (kRegionD K4r12 [])) (kRegion K4r13 [11])))
def K4r14:OpsF:=(oVal (.tmp 102) (kMove (.tmp 3)) (oVal (.tmp 103) (kUn (fadA 2) (.tmp 4)) (oVal (.tmp 104) (kLoad none (.tmp 103)) (oVal (.tmp 105) (kUn lenSlA (.tmp 104)) (oCall (.tmp 106) (.con (.func 8 [] [])) [(.tmp 102),(.tmp 105)] (oVal (.tmp 12) (kMove (.tmp 106)) oNil))))))
def K4r15:OpsF:=(oVal (.tmp 108) (kLoad (some 5) (.tmp 4)) (oCall (.tmp 109) (.con (.func 9 [] [])) [(.tmp 108)] (oVal (.tmp 107) (kMove (.tmp 109)) (oVal (.tmp 110) (kUn (extA 0) (.tmp 107)) (oVal (.tmp 111) (kUn (extA 1) (.tmp 107)) (oVal (.tmp 13) (kMove (.tmp 110)) (oVal (.tmp 14) (kMove (.tmp 111)) oNil)))))))
def K4r16:OpsF:=(oVal (.tmp 113) (kLoad (some 5) (.tmp 7)) (oCall (.tmp 114) (.con (.func 9 [] [])) [(.tmp 113)] (oVal (.tmp 112) (kMove (.tmp 114)) (oVal (.tmp 115) (kUn (extA 0) (.tmp 112)) (oVal (.tmp 116) (kUn (extA 1) (.tmp 112)) (oVal (.tmp 15) (kMove (.tmp 115)) (oVal (.tmp 16) (kMove (.tmp 116)) oNil)))))))
def K4r17:OpsF:=(oVal (.tmp 118) (kLoad (some 5) (.tmp 4)) (oVal (.tmp 119) (kMove (.tmp 12)) (oCall (.tmp 120) (.con (.func 10 [] [])) [(.tmp 118),(.tmp 119)] (oVal (.tmp 117) (kMove (.tmp 120)) (oVal (.tmp 121) (kUn (extA 0) (.tmp 117)) (oVal (.tmp 122) (kUn (extA 1) (.tmp 117)) (oVal (.tmp 17) (kMove (.tmp 121)) (oVal (.tmp 18) (kMove (.tmp 122)) oNil))))))))
def K4r18:OpsF:=(oVal (.tmp 124) (kLoad (some 5) (.tmp 7)) (oVal (.tmp 125) (kMove (.tmp 12)) (oCall (.tmp 126) (.con (.func 10 [] [])) [(.tmp 124),(.tmp 125)] (oVal (.tmp 123) (kMove (.tmp 126)) (oVal (.tmp 127) (kUn (extA 0) (.tmp 123)) (oVal (.tmp 128) (kUn (extA 1) (.tmp 123)) (oVal (.tmp 19) (kMove (.tmp 127)) (oVal (.tmp 20) (kMove (.tmp 128)) oNil))))))))
def K4r19s28:OpsF:=(oVal (.tmp 157) (kPick (.tmp 155) (.tmp 156) (.con (.bool false))) (oVal (.tmp 2) (kMove (.tmp 157)) oNil))
def K4r19s25:OpsF:=(oVal (.tmp 154) (kPick (.tmp 150) (.tmp 153) (.con (.bool false))) (oVal (.tmp 155) (kMove (.tmp 154)) (oIf 155 true (oCall (.tmp 156) (.con (.func 13 [] [])) [] K4r19s28) (oSkip (.tmp 156) K4r19s28))))
def K4r19s24:OpsF:=(oIf 150 true (oCall (.tmp 153) (.con (.func 17 [] [])) [(.tmp 151),(.tmp 152)] K4r19s25) (oSkip (.tmp 153) K4r19s25))
def K4r19s23:OpsF:=(oIf 150 true (oVal (.tmp 152) (kMove (.tmp 19)) K4r19s24) (oSkip (.tmp 152) K4r19s24))
def K4r19s20:OpsF:=(oVal (.tmp 149) (kPick (.tmp 145) (.tmp 148) (.con (.bool false))) (oVal (.tmp 150) (kMove (.tmp 149)) (oIf 150 true (oVal (.tmp 151) (kMove (.tmp 17)) K4r19s23) (oSkip (.tmp 151) K4r19s23))))
def K4r19s19:OpsF:=(oIf 145 true (oCall (.tmp 148) (.con (.func 17 [] [])) [(.tmp 146),(.tmp 147)] K4r19s20) (oSkip (.tmp 148) K4r19s20))
def K4r19s18:OpsF:=(oIf 145 true (oVal (.tmp 147) (kMove (.tmp 15)) K4r19s19) (oSkip (.tmp 147) K4r19s19))
def K4r19s15:OpsF:=(oVal (.tmp 144) (kPick (.tmp 137) (.tmp 143) (.con (.bool false))) (oVal (.tmp 145) (kMove (.tmp 144)) (oIf 145 true (oVal (.tmp 146) (kMove (.tmp 13)) K4r19s18) (oSkip (.tmp 146) K4r19s18))))
def K4r19s14:OpsF:=(oIf 137 true (oVal (.tmp 143) (kPick (.tmp 140) (.con (.bool true)) (.tmp 142)) K4r19s15) (oSkip (.tmp 143) K4r19s15))
def K4r19s13:OpsF:=(oIf 140 false (oVal (.tmp 142) (kInt aEql (.tmp 141) (.con (.int .i64 9))) K4r19s14) (oSkip (.tmp 142) K4r19s14))
def K4r19s12:OpsF:=(oIf 140 false (oVal (.tmp 141) (kMove (.tmp 14)) K4r19s13) (oSkip (.tmp 141) K4r19s13))
def K4r19s11:OpsF:=(oIf 137 true (oVal (.tmp 140) (kMove (.tmp 139)) K4r19s12) (oSkip (.tmp 140) K4r19s12))
def K4r19s10:OpsF:=(oIf 137 true (oVal (.tmp 139) (kInt aEql (.tmp 138) (.con (.int .i64 0))) K4r19s11) (oSkip (.tmp 139) K4r19s11))
def K4r19s7:OpsF:=(oVal (.tmp 136) (kPick (.tmp 132) (.tmp 135) (.con (.bool false))) (oVal (.tmp 137) (kMove (.tmp 136)) (oIf 137 true (oVal (.tmp 138) (kMove (.tmp 14)) K4r19s10) (oSkip (.tmp 138) K4r19s10))))
def K4r19s6:OpsF:=(oIf 132 true (oVal (.tmp 135) (kInt aEql (.tmp 133) (.tmp 134)) K4r19s7) (oSkip (.tmp 135) K4r19s7))
def K4r19s5:OpsF:=(oIf 132 true (oVal (.tmp 134) (kMove (.tmp 20)) K4r19s6) (oSkip (.tmp 134) K4r19s6))
def K4r19:OpsF:=(oVal (.tmp 129) (kMove (.tmp 14)) (oVal (.tmp 130) (kMove (.tmp 16)) (oVal (.tmp 131) (kInt aEql (.tmp 129) (.tmp 130)) (oVal (.tmp 132) (kMove (.tmp 131)) (oIf 132 true (oVal (.tmp 133) (kMove (.tmp 18)) K4r19s5) (oSkip (.tmp 133) K4r19s5))))))
theorem res4:Try.f4.results.toList=[.tmp 2]:=by kernel_rfl
def K4:K:=(kSeq (kRegion K4r0 [2]) (kSeq (kRegion K4r1 [3]) (kSeq (kRegion K4r2 [4]) (kSeq (kRegion K4r3 [7]) (kSeq (kRegion K4r4 []) (kSeq (kRegionD K4r5 [8,9]) (kSeq (kSeq (kRegion K4r6 [10]) (kBlock 0 (kLoop K4l0))) (kSeq (kSeq (kRegion K4r10 [11]) (kBlock 2 (kLoop K4l1))) (kSeq (kRegion K4r14 [12]) (kSeq (kRegion K4r15 [13,14]) (kSeq (kRegion K4r16 [15,16]) (kSeq (kRegion K4r17 [17,18]) (kSeq (kRegion K4r18 [19,20]) (kSeq (kRegion K4r19 [2]) kRet))))))))))))))
def K16r0:OpsF:=(oVal (.tmp 4) (kMove (.con .nilslice)) oNil)
def K16r1:OpsF:=(oVal (.tmp 8) (kMove (.tmp 1)) (oVal (.tmp 9) (kFold maxA (.con (.int .i64 0)) [(.tmp 8)]) (oVal (.tmp 10) (kMake [(.int .i64 0)] 8 (.tmp 9) (.tmp 9)) (oVal (.tmp 5) (kMove (.tmp 10)) oNil))))
def K16r2:OpsF:=(oVal (.tmp 6) (kMove (.con (.int .i64 0))) oNil)
def K16r3:OpsF:=(oVal (.tmp 11) (kMove (.tmp 6)) (oVal (.tmp 12) (kMove (.tmp 5)) (oVal (.tmp 13) (kUn lenSlA (.tmp 12)) (oVal (.tmp 14) (kInt aLss (.tmp 11) (.tmp 13)) oNil))))
def K16r4:OpsF:=(oVal (.tmp 17) (kMove (.tmp 0)) (oVal (.tmp 18) (kMove (.tmp 6)) (oVal (.tmp 19) (kInt aAdd (.tmp 18) (.con (.int .i64 1))) (oCall (.tmp 20) (.con (.func 8 [] [])) [(.tmp 17),(.tmp 19)] (oVal (.tmp 7) (kMove (.tmp 20)) oNil)))))
def K16r5:OpsF:=(oVal (.tmp 21) (kMove (.tmp 5)) (oVal (.tmp 22) (kMove (.tmp 6)) (oVal (.tmp 23) (kMove (.tmp 5)) (oVal (.tmp 24) (kMove (.tmp 7)) (oVal (.tmp 25) (kTwo (ixsA 1) (.tmp 23) (.tmp 24)) (oVal (.tmp 26) (kLoad none (.tmp 25)) (oVal (.tmp 27) (kTwo (ixsA 1) (.tmp 21) (.tmp 22)) (oVal .none (kStore 1 (.tmp 27) (.tmp 26)) oNil))))))))
def K16r6:OpsF:=(oVal (.tmp 28) (kMove (.tmp 5)) (oVal (.tmp 29) (kMove (.tmp 7)) (oVal (.tmp 30) (kMove (.tmp 6)) (oVal (.tmp 31) (kTwo (ixsA 1) (.tmp 28) (.tmp 29)) (oVal .none (kStore 1 (.tmp 31) (.tmp 30)) oNil)))))
def K16r7:OpsF:=(oVal (.tmp 15) (kMove (.tmp 6)) (oVal (.tmp 16) (kInt aAdd (.tmp 15) (.con (.int .i64 1))) (oVal (.tmp 6) (kMove (.tmp 16)) oNil)))
def K16l0:K:=(kSeq (kSeq (kRegion K16r3 [14]) (kCond (.tmp 14) kSkip (kExit 0))) (kSeq (kBlock 1 (kSeq (kRegion K16r4 [7]) (kSeq (kRegion K16r5 []) (kRegion K16r6 [])))) (kRegion K16r7 [6])))
def K16r8:OpsF:=(oVal (.tmp 32) (kMove (.tmp 5)) (oVal (.tmp 4) (kMove (.tmp 32)) oNil))
theorem res16:Try.f16.results.toList=[.tmp 4]:=by kernel_rfl
def K16:K:=(kSeq (kRegion K16r0 [4]) (kSeq (kRegion K16r1 [5]) (kSeq (kSeq (kRegion K16r2 [6]) (kBlock 0 (kLoop K16l0))) (kSeq (kRegion K16r8 [4]) kRet))))
theorem enter16 (cl:CallF) (a0 a1:AV) (s:St):enterA Try.prog X cl 16 [a0,a1] s Try.f16=finA Try.prog Try.f16 (K16 cl ⟨16,none,Try.f16.ntmps,X 16⟩ (paramsEnv 0 [a0,a1] .nil) [] s) :=
  enterA_eq (b:=Try.f16.body.getD .skip) (by kernel_rfl) (by kernel_rfl) (by kernel_rfl) (by kernel_rfl) (by kernel_rfl)
def K17r0:OpsF:=(oVal (.tmp 4) (kMove (.con (.bool false))) oNil)
def K17r1:OpsF:=(oVal (.tmp 7) (kMove (.tmp 0)) (oVal (.tmp 8) (kUn lenSlA (.tmp 7)) (oVal (.tmp 9) (kMove (.tmp 1)) (oVal (.tmp 10) (kUn lenSlA (.tmp 9)) (oVal (.tmp 11) (kInt aEql (.tmp 8) (.tmp 10)) (oVal (.tmp 5) (kMove (.tmp 11)) oNil))))))
def K17r2:OpsF:=(oVal (.tmp 6) (kMove (.con (.int .i64 0))) oNil)
def K17r3s6:OpsF:=(oVal (.tmp 18) (kPick (.tmp 13) (.tmp 17) (.con (.bool false))) oNil)
def K17r3s5:OpsF:=(oIf 13 true (oVal (.tmp 17) (kInt aLss (.tmp 14) (.tmp 16)) K17r3s6) (oSkip (.tmp 17) K17r3s6))
def K17r3s4:OpsF:=(oIf 13 true (oVal (.tmp 16) (kUn lenSlA (.tmp 15)) K17r3s5) (oSkip (.tmp 16) K17r3s5))
def K17r3s3:OpsF:=(oIf 13 true (oVal (.tmp 15) (kMove (.tmp 0)) K17r3s4) (oSkip (.tmp 15) K17r3s4))
def K17r3:OpsF:=(oVal (.tmp 12) (kMove (.tmp 5)) (oVal (.tmp 13) (kMove (.tmp 12)) (oIf 13 true (oVal (.tmp 14) (kMove (.tmp 6)) K17r3s3) (oSkip (.tmp 14) K17r3s3))))
def K17r4:OpsF:=(oEnd [] (oVal (.tmp 21) (kMove (.tmp 0)) (oVal (.tmp 22) (kMove (.tmp 6)) (oVal (.tmp 23) (kTwo (ixsA 2) (.tmp 21) (.tmp 22)) (oVal (.tmp 24) (kLoad (some 2) (.tmp 23)) (oVal (.tmp 25) (kMove (.tmp 1)) (oVal (.tmp 26) (kMove (.tmp 6)) (oVal (.tmp 27) (kTwo (ixsA 2) (.tmp 25) (.tmp 26)) (oVal (.tmp 28) (kLoad (some 2) (.tmp 27)) (oVal (.tmp 29) (kEql (.row [(0,none,.int),(1,none,.int)]) false (.tmp 24) (.tmp 28)) (oVal (.tmp 5) (kMove (.tmp 29)) oNil)))))))))))
def K17r5:OpsF:=(oVal (.tmp 19) (kMove (.tmp 6)) (oVal (.tmp 20) (kInt aAdd (.tmp 19) (.con (.int .i64 1))) (oVal (.tmp 6) (kMove (.tmp 20)) oNil)))
def K17l0:K:=(kSeq (kSeq (kRegion K17r3 [18]) (kCond (.tmp 18) kSkip (kExit 0))) (kSeq (kBlock 1 (kRegionD K17r4 [5])) (kRegion K17r5 [6])))
def K17r6:OpsF:=(oVal (.tmp 30) (kMove (.tmp 5)) (oVal (.tmp 4) (kMove (.tmp 30)) oNil))
theorem res17:Try.f17.results.toList=[.tmp 4]:=by kernel_rfl
def K17:K:=(kSeq (kRegion K17r0 [4]) (kSeq (kRegion K17r1 [5]) (kSeq (kSeq (kRegion K17r2 [6]) (kBlock 0 (kLoop K17l0))) (kSeq (kRegion K17r6 [4]) kRet))))
theorem enter17 (cl:CallF) (a0 a1:AV) (s:St):enterA Try.prog X cl 17 [a0,a1] s Try.f17=finA Try.prog Try.f17 (K17 cl ⟨17,none,Try.f17.ntmps,X 17⟩ (paramsEnv 0 [a0,a1] .nil) [] s) :=
  enterA_eq (b:=Try.f17.body.getD .skip) (by kernel_rfl) (by kernel_rfl) (by kernel_rfl) (by kernel_rfl) (by kernel_rfl)
end
end Go.Proofs.Ytfekafjfidohdaa.code
