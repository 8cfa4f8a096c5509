/- The code of functions as the interpreter has it, region by region. -/
import Derived.Test.YtlfalcghhckanaaAbsTab
import Derived.Test.YtlfalcghhckanaaAbsWalk
import Derived.KernelRfl
set_option maxRecDepth 100000
namespace Go.Proofs.Ytlfalcghhckanaa.code
open Go.Abs
noncomputable section
def K22r0:OpsF:=(oVal (.tmp 2) (kMove (.con (.int .i64 0))) oNil)
def K22r1:OpsF:=(oVal (.tmp 3) (kMove (.con (.int .i64 0))) oNil)
def K22r2:OpsF:=(oVal (.tmp 6) (kMove (.tmp 0)) (oVal (.tmp 7) (kUn lenSlA (.tmp 6)) (oVal (.tmp 8) (kMove (.con (.int .i64 0))) oNil)))
def K22r3:OpsF:=(oVal (.tmp 9) (kInt aLss (.tmp 8) (.tmp 7)) oNil)
def K22r4:OpsF:=(oVal (.tmp 10) (kTwo (ixsA 1) (.tmp 6) (.tmp 8)) (oVal (.tmp 11) (kLoad none (.tmp 10)) (oVal (.tmp 5) (kMove (.tmp 11)) oNil)))
def K22r5:OpsF:=(oVal (.tmp 12) (kMove (.tmp 5)) (oVal (.tmp 13) (kMove (.tmp 3)) (oVal (.tmp 14) (kInt aNeq (.tmp 12) (.tmp 13)) oNil)))
def K22r6:OpsF:=(oVal (.tmp 15) (kMove (.tmp 5)) (oVal (.tmp 2) (kMove (.tmp 15)) oNil))
def K22r7:OpsF:=(oVal (.tmp 16) (kInt aAdd (.tmp 8) (.con (.int .i64 1))) (oVal (.tmp 8) (kMove (.tmp 16)) oNil))
def K22l0:K:=(kSeq (kRegion K22r3 [9]) (kSeq (kCond (.tmp 9) kSkip (kExit 0)) (kSeq (kBlock 1 (kSeq (kRegion K22r4 [5]) (kSeq (kRegion K22r5 [14]) (kCond (.tmp 14) (kSeq (kRegion K22r6 [2]) kRet) kSkip)))) (kRegion K22r7 [8]))))
def K22r8:OpsF:=(oVal (.tmp 17) (kMove (.tmp 3)) (oVal (.tmp 2) (kMove (.tmp 17)) oNil))
theorem res22:Try.f22.results.toList=[.tmp 2]:=by kernel_rfl
def K22:K:=(kSeq (kRegion K22r0 [2]) (kSeq (kRegion K22r1 [3]) (kSeq (kSeq (kRegion K22r2 [6,7,8]) (kBlock 0 (kLoop K22l0))) (kSeq (kRegion K22r8 [2]) kRet))))
theorem enter22 (cl:CallF) (a0:AV) (s:St):enterA Try.prog X cl 22 [a0] s Try.f22=finA Try.prog Try.f22 (K22 cl ⟨22,none,Try.f22.ntmps,X 22⟩ (paramsEnv 0 [a0] .nil) [] s) :=
  enterA_eq (b:=Try.f22.body.getD .skip) (by kernel_rfl) (by kernel_rfl) (by kernel_rfl) (by kernel_rfl) (by kernel_rfl)
def K63r0:OpsF:=(oVal (.tmp 6) (kMove (.con (.int .i64 0))) oNil)
def K63r1:OpsF:=(oVal (.tmp 8) (kMove (.tmp 0)) (oVal (.tmp 9) (kMove (.tmp 1)) (oVal (.tmp 10) (kInt aLss (.tmp 8) (.tmp 9)) (oVal (.tmp 7) (kMove (.tmp 10)) oNil))))
def K63r2:OpsF:=(oVal (.tmp 6) (kMove (.con (.int .i64 7))) oNil)
def K63r3:OpsF:=(oVal (.tmp 12) (kMove (.tmp 0)) (oVal (.tmp 13) (kMove (.tmp 2)) (oVal (.tmp 14) (kGtr (.tmp 12) (.tmp 13)) (oVal (.tmp 11) (kMove (.tmp 14)) oNil))))
def K63r4:OpsF:=(oVal (.tmp 6) (kMove (.con (.int .i64 6))) oNil)
def K63r5:OpsF:=(oVal (.tmp 6) (kMove (.con (.int .i64 0))) oNil)
theorem res63:Try.f63.results.toList=[.tmp 6]:=by kernel_rfl
def K63:K:=(kSeq (kRegion K63r0 [6]) (kSeq (kBlock 0 (kSeq (kRegion K63r1 [7]) (kCond (.tmp 7) (kSeq (kRegion K63r2 [6]) kRet) (kSeq (kRegion K63r3 [11]) (kCond (.tmp 11) (kSeq (kRegion K63r4 [6]) kRet) kSkip))))) (kSeq (kRegion K63r5 [6]) kRet)))
theorem enter63 (cl:CallF) (a0 a1 a2:AV) (s:St):enterA Try.prog X cl 63 [a0,a1,a2] s Try.f63=finA Try.prog Try.f63 (K63 cl ⟨63,none,Try.f63.ntmps,X 63⟩ (paramsEnv 0 [a0,a1,a2] .nil) [] s) :=
  enterA_eq (b:=Try.f63.body.getD .skip) (by kernel_rfl) (by kernel_rfl) (by kernel_rfl) (by kernel_rfl) (by kernel_rfl)
def K55r0:OpsF:=(oVal (.tmp 4) (kMove (.con (.int .i64 0))) oNil)
def K55r1s6:OpsF:=(oVal (.tmp 11) (kPick (.tmp 7) (.con (.bool true)) (.tmp 10)) oNil)
def K55r1s5:OpsF:=(oIf 7 false (oVal (.tmp 10) (kInt aGeq (.tmp 8) (.tmp 9)) K55r1s6) (oSkip (.tmp 10) K55r1s6))
def K55r1s4:OpsF:=(oIf 7 false (oVal (.tmp 9) (kMove (.tmp 1)) K55r1s5) (oSkip (.tmp 9) K55r1s5))
def K55r1:OpsF:=(oVal (.tmp 5) (kMove (.tmp 0)) (oVal (.tmp 6) (kInt aLss (.tmp 5) (.con (.int .i64 0))) (oVal (.tmp 7) (kMove (.tmp 6)) (oIf 7 false (oVal (.tmp 8) (kMove (.tmp 0)) K55r1s4) (oSkip (.tmp 8) K55r1s4)))))
def K55r2:OpsF:=(oVal (.tmp 4) (kMove (.con (.int .i64 3))) oNil)
def K55r3:OpsF:=(oVal (.tmp 4) (kMove (.con (.int .i64 0))) oNil)
theorem res55:Try.f55.results.toList=[.tmp 4]:=by kernel_rfl
def K55:K:=(kSeq (kRegion K55r0 [4]) (kSeq (kSeq (kRegion K55r1 [11]) (kCond (.tmp 11) (kSeq (kRegion K55r2 [4]) kRet) kSkip)) (kSeq (kRegion K55r3 [4]) kRet)))
theorem enter55 (cl:CallF) (a0 a1:AV) (s:St):enterA Try.prog X cl 55 [a0,a1] s Try.f55=finA Try.prog Try.f55 (K55 cl ⟨55,none,Try.f55.ntmps,X 55⟩ (paramsEnv 0 [a0,a1] .nil) [] s) :=
  enterA_eq (b:=Try.f55.body.getD .skip) (by kernel_rfl) (by kernel_rfl) (by kernel_rfl) (by kernel_rfl) (by kernel_rfl)
def K69r0:OpsF:=(oVal (.tmp 3) (kBox (tag 26) (.tmp 0)) (oVal (.tmp 6) (kMove (.con (.int .i64 0))) oNil))
def K69r1:OpsF:=(oEnd [] (oVal (.tmp 8) (kUn (fadA 0) (.tmp 3)) (oVal (.tmp 9) (kLoad none (.tmp 8)) (oVal (.tmp 10) (kMove (.tmp 1)) (oVal (.tmp 11) (kMove (.tmp 2)) (oCallT (some [13]) (.tmp 12) (.con (.func 24 [] [])) [(.tmp 9),(.tmp 10),(.tmp 11)] (oVal (.tmp 13) (kUn (fadA 1) (.tmp 3)) (oVal (.tmp 14) (kLoad none (.tmp 13)) (oVal (.tmp 15) (kMove (.tmp 1)) (oVal (.tmp 16) (kMove (.tmp 2)) (oCall (.tmp 17) (.con (.func 24 [] [])) [(.tmp 14),(.tmp 15),(.tmp 16)] (oVal (.tmp 18) (kBuildSlice [(.int .i64 0),(.int .i64 0)] 2 [(0,1,(.tmp 12)),(1,1,(.tmp 17))]) (oCall (.tmp 19) (.con (.func 22 [] [])) [(.tmp 18)] (oVal (.tmp 7) (kMove (.tmp 19)) oNil))))))))))))))
def K69r2:OpsF:=(oVal (.tmp 20) (kMove (.tmp 7)) (oVal (.tmp 21) (kInt aNeq (.tmp 20) (.con (.int .i64 0))) oNil))
def K69r3:OpsF:=(oVal (.tmp 22) (kMove (.tmp 7)) (oVal (.tmp 6) (kMove (.tmp 22)) oNil))
def K69r4:OpsF:=(oVal (.tmp 23) (kUn (fadA 0) (.tmp 3)) (oVal (.tmp 24) (kLoad none (.tmp 23)) (oVal (.tmp 25) (kUn (fadA 1) (.tmp 3)) (oVal (.tmp 26) (kLoad none (.tmp 25)) (oVal (.tmp 27) (kGtr (.tmp 24) (.tmp 26)) oNil)))))
def K69r5:OpsF:=(oVal (.tmp 6) (kMove (.con (.int .i64 5))) oNil)
def K69r6:OpsF:=(oVal (.tmp 6) (kMove (.con (.int .i64 0))) oNil)
theorem res69:Try.f69.results.toList=[.tmp 6]:=by kernel_rfl
def K69:K:=(kSeq (kRegion K69r0 [3,6]) (kSeq (kSeq (kRegionD K69r1 [7]) (kSeq (kRegion K69r2 [21]) (kCond (.tmp 21) (kSeq (kRegion K69r3 [6]) kRet) kSkip))) (kSeq (kSeq (kRegion K69r4 [27]) (kCond (.tmp 27) (kSeq (kRegion K69r5 [6]) kRet) kSkip)) (kSeq (kRegion K69r6 [6]) kRet))))
theorem enter69 (cl:CallF) (a0 a1 a2:AV) (s:St):enterA Try.prog X cl 69 [a0,a1,a2] s Try.f69=finA Try.prog Try.f69 (K69 cl ⟨69,none,Try.f69.ntmps,X 69⟩ (paramsEnv 0 [a0,a1,a2] .nil) [] s) :=
  enterA_eq (b:=Try.f69.body.getD .skip) (by kernel_rfl) (by kernel_rfl) (by kernel_rfl) (by kernel_rfl) (by kernel_rfl)
def K25r0:OpsF:=(oVal (.tmp 4) (kMove (.con (.int .i64 0))) oNil)
def K25r1:OpsF:=(oVal (.tmp 5) (kMove (.tmp 0)) oNil)
def K25r2:OpsF:=(oVal (.tmp 4) (kMove (.con (.int .i64 0))) oNil)
def K25r3:OpsF:=(oVal (.tmp 6) (kMove (.tmp 1)) (oVal (.tmp 4) (kMove (.tmp 6)) oNil))
theorem res25:Try.f25.results.toList=[.tmp 4]:=by kernel_rfl
def K25:K:=(kSeq (kRegion K25r0 [4]) (kSeq (kSeq (kRegion K25r1 [5]) (kCond (.tmp 5) (kSeq (kRegion K25r2 [4]) kRet) kSkip)) (kSeq (kRegion K25r3 [4]) kRet)))
theorem enter25 (cl:CallF) (a0 a1:AV) (s:St):enterA Try.prog X cl 25 [a0,a1] s Try.f25=finA Try.prog Try.f25 (K25 cl ⟨25,none,Try.f25.ntmps,X 25⟩ (paramsEnv 0 [a0,a1] .nil) [] s) :=
  enterA_eq (b:=Try.f25.body.getD .skip) (by kernel_rfl) (by kernel_rfl) (by kernel_rfl) (by kernel_rfl) (by kernel_rfl)
def K24r0:OpsF:=(oVal (.tmp 6) (kMove (.con (.int .i64 0))) oNil)
def K24r1s7:OpsF:=(oVal (.tmp 14) (kPick (.tmp 10) (.con (.bool true)) (.tmp 13)) oNil)
def K24r1s6:OpsF:=(oIf 10 false (oVal (.tmp 13) (kGtr (.tmp 11) (.tmp 12)) K24r1s7) (oSkip (.tmp 13) K24r1s7))
def K24r1s5:OpsF:=(oIf 10 false (oVal (.tmp 12) (kMove (.tmp 2)) K24r1s6) (oSkip (.tmp 12) K24r1s6))
def K24r1:OpsF:=(oVal (.tmp 7) (kMove (.tmp 0)) (oVal (.tmp 8) (kMove (.tmp 1)) (oVal (.tmp 9) (kInt aLss (.tmp 7) (.tmp 8)) (oVal (.tmp 10) (kMove (.tmp 9)) (oIf 10 false (oVal (.tmp 11) (kMove (.tmp 0)) K24r1s5) (oSkip (.tmp 11) K24r1s5))))))
def K24r2:OpsF:=(oVal (.tmp 6) (kMove (.con (.int .i64 1))) oNil)
def K24r3:OpsF:=(oVal (.tmp 6) (kMove (.con (.int .i64 0))) oNil)
theorem res24:Try.f24.results.toList=[.tmp 6]:=by kernel_rfl
def K24:K:=(kSeq (kRegion K24r0 [6]) (kSeq (kSeq (kRegion K24r1 [14]) (kCond (.tmp 14) (kSeq (kRegion K24r2 [6]) kRet) kSkip)) (kSeq (kRegion K24r3 [6]) kRet)))
theorem enter24 (cl:CallF) (a0 a1 a2:AV) (s:St):enterA Try.prog X cl 24 [a0,a1,a2] s Try.f24=finA Try.prog Try.f24 (K24 cl ⟨24,none,Try.f24.ntmps,X 24⟩ (paramsEnv 0 [a0,a1,a2] .nil) [] s) :=
  enterA_eq (b:=Try.f24.body.getD .skip) (by kernel_rfl) (by kernel_rfl) (by kernel_rfl) (by kernel_rfl) (by kernel_rfl)
def K35r0:OpsF:=(oVal (.tmp 1) (kBox (tag 31) (.tmp 0)) (oVal (.tmp 2) (kMove (.con (.int .i64 0))) oNil))
def K35r1:OpsF:=(oEnd [] (oVal (.tmp 3) (kUn (fadA 0) (.tmp 1)) (oVal (.tmp 4) (kLoad (some 2) (.tmp 3)) (oCallT (some [6,1,11]) (.tmp 5) (.con (.func 51 [] [])) [(.tmp 4)] (oVal (.tmp 6) (kUn (fadA 2) (.tmp 1)) (oVal (.tmp 7) (kLoad none (.tmp 6)) (oCallT (some [1,11]) (.tmp 8) (.con (.func 52 [] [])) [(.tmp 7)] (oVal (.tmp 9) (kLoad (some 5) (.tmp 1)) (oCallT (some [11]) (.tmp 10) (.con (.func 53 [] [])) [(.tmp 9)] (oVal (.tmp 11) (kUn (fadA 4) (.tmp 1)) (oVal (.tmp 12) (kLoad none (.tmp 11)) (oCall (.tmp 13) (.con (.func 54 [] [])) [(.tmp 12)] (oVal (.tmp 14) (kBuildSlice [(.int .i64 0),(.int .i64 0),(.int .i64 0),(.int .i64 0)] 4 [(0,1,(.tmp 5)),(1,1,(.tmp 8)),(2,1,(.tmp 10)),(3,1,(.tmp 13))]) (oCall (.tmp 15) (.con (.func 22 [] [])) [(.tmp 14)] (oVal (.tmp 2) (kMove (.tmp 15)) oNil)))))))))))))))
theorem res35:Try.f35.results.toList=[.tmp 2]:=by kernel_rfl
def K35:K:=(kSeq (kRegion K35r0 [1,2]) (kSeq (kRegionD K35r1 [2]) kRet))
theorem enter35 (cl:CallF) (a0:AV) (s:St):enterA Try.prog X cl 35 [a0] s Try.f35=finA Try.prog Try.f35 (K35 cl ⟨35,none,Try.f35.ntmps,X 35⟩ (paramsEnv 0 [a0] .nil) [] s) :=
  enterA_eq (b:=Try.f35.body.getD .skip) (by kernel_rfl) (by kernel_rfl) (by kernel_rfl) (by kernel_rfl) (by kernel_rfl)
def K23r0:OpsF:=(oVal (.tmp 2) (kBox (tag 31) (.tmp 0)) (oVal (.tmp 3) (kBox (tag 35) (.tmp 1)) (oVal (.tmp 4) (kMove (.con (.int .i64 0))) oNil)))
def K23r1:OpsF:=(oEnd [] (oVal (.tmp 5) (kLoad (some 5) (.tmp 2)) (oCallT (some [2,3]) (.tmp 6) (.con (.func 35 [] [])) [(.tmp 5)] (oVal (.tmp 7) (kLoad (some 5) (.tmp 2)) (oVal (.tmp 8) (kLoad (some 3) (.tmp 3)) (oCall (.tmp 9) (.con (.func 41 [] [])) [(.tmp 7),(.tmp 8)] (oVal (.tmp 10) (kBuildSlice [(.int .i64 0),(.int .i64 0)] 2 [(0,1,(.tmp 6)),(1,1,(.tmp 9))]) (oCall (.tmp 11) (.con (.func 22 [] [])) [(.tmp 10)] (oVal (.tmp 4) (kMove (.tmp 11)) oNil)))))))))
theorem res23:Try.f23.results.toList=[.tmp 4]:=by kernel_rfl
def K23:K:=(kSeq (kRegion K23r0 [2,3,4]) (kSeq (kRegionD K23r1 [4]) kRet))
theorem enter23 (cl:CallF) (a0 a1:AV) (s:St):enterA Try.prog X cl 23 [a0,a1] s Try.f23=finA Try.prog Try.f23 (K23 cl ⟨23,none,Try.f23.ntmps,X 23⟩ (paramsEnv 0 [a0,a1] .nil) [] s) :=
  enterA_eq (b:=Try.f23.body.getD .skip) (by kernel_rfl) (by kernel_rfl) (by kernel_rfl) (by kernel_rfl) (by kernel_rfl)
def K36r0:OpsF:=(oVal (.tmp 2) (kBox (tag 31) (.tmp 0)) (oVal (.tmp 4) (kMove (.con (.int .i64 0))) oNil))
def K36r1:OpsF:=(oVal (.tmp 5) (kMove (.tmp 1)) (oVal (.tmp 6) (kUn (fadA 2) (.tmp 2)) (oVal (.tmp 7) (kLoad none (.tmp 6)) (oVal (.tmp 8) (kUn lenSlA (.tmp 7)) (oCall (.tmp 9) (.con (.func 55 [] [])) [(.tmp 5),(.tmp 8)] (oVal (.tmp 4) (kMove (.tmp 9)) oNil))))))
theorem res36:Try.f36.results.toList=[.tmp 4]:=by kernel_rfl
def K36:K:=(kSeq (kRegion K36r0 [2,4]) (kSeq (kRegion K36r1 [4]) kRet))
theorem enter36 (cl:CallF) (a0 a1:AV) (s:St):enterA Try.prog X cl 36 [a0,a1] s Try.f36=finA Try.prog Try.f36 (K36 cl ⟨36,none,Try.f36.ntmps,X 36⟩ (paramsEnv 0 [a0,a1] .nil) [] s) :=
  enterA_eq (b:=Try.f36.body.getD .skip) (by kernel_rfl) (by kernel_rfl) (by kernel_rfl) (by kernel_rfl) (by kernel_rfl)
def K52r0:OpsF:=(oVal (.tmp 2) (kMove (.con (.int .i64 0))) oNil)
def K52r1:OpsF:=(oVal (.tmp 7) (kMove (.tmp 0)) (oVal (.tmp 8) (kUn lenSlA (.tmp 7)) (oCall (.tmp 9) (.con (.func 63 [] [])) [(.tmp 8),(.con (.int .i64 0)),(.con (.int .i64 6))] (oVal (.tmp 3) (kMove (.tmp 9)) oNil))))
def K52r2:OpsF:=(oVal (.tmp 10) (kMove (.tmp 3)) (oVal (.tmp 11) (kInt aNeq (.tmp 10) (.con (.int .i64 0))) oNil))
def K52r3:OpsF:=(oVal (.tmp 12) (kMove (.tmp 3)) (oVal (.tmp 2) (kMove (.tmp 12)) oNil))
def K52r4:OpsF:=(oVal (.tmp 13) (kMove (.tmp 0)) (oVal (.tmp 14) (kUn lenSlA (.tmp 13)) (oVal (.tmp 15) (kMove (.con (.int .i64 0))) oNil)))
def K52r5:OpsF:=(oVal (.tmp 16) (kInt aLss (.tmp 15) (.tmp 14)) oNil)
def K52r6:OpsF:=(oVal (.tmp 17) (kTwo (ixsA 9) (.tmp 13) (.tmp 15)) (oVal (.tmp 18) (kLoad (some 9) (.tmp 17)) (oVal (.tmp 5) (kAlloc [(.int .i64 0),(.int .i64 0),(.int .i64 0),(.int .i64 0),(.int .i64 0),(.int .i64 0),(.int .i64 0),(.int .i64 0),(.int .i64 0)] (tag 43)) (oVal .none (kStore 9 (.tmp 5) (.tmp 18)) oNil))))
def K52r7:OpsF:=(oEnd [] (oVal (.tmp 19) (kUn (fadA 0) (.tmp 5)) (oVal (.tmp 20) (kLoad none (.tmp 19)) (oCallT (some [22,24,27,30,33,37,40]) (.tmp 21) (.con (.func 24 [] [])) [(.tmp 20),(.con (.int .i64 0)),(.con (.int .i64 100000))] (oVal (.tmp 22) (kUn (fadA 1) (.tmp 5)) (oVal (.tmp 23) (kLoad (some 2) (.tmp 22)) (oVal (.tmp 24) (kUn (fadA 0) (.tmp 5)) (oVal (.tmp 25) (kLoad none (.tmp 24)) (oCallT (some [27,30,33,37,40]) (.tmp 26) (.con (.func 69 [] [])) [(.tmp 23),(.con (.int .i64 0)),(.tmp 25)] (oVal (.tmp 27) (kUn (fadA 3) (.tmp 5)) (oVal (.tmp 28) (kLoad (some 2) (.tmp 27)) (oCallT (some [30,33,37,40]) (.tmp 29) (.con (.func 69 [] [])) [(.tmp 28),(.con (.int .i64 0)),(.con (.int .i64 100000))] (oVal (.tmp 30) (kUn (fadA 5) (.tmp 5)) (oVal (.tmp 31) (kLoad (some 2) (.tmp 30)) (oCallT (some [33,37,40]) (.tmp 32) (.con (.func 51 [] [])) [(.tmp 31)] (oVal (.tmp 33) (kUn (fadA 7) (.tmp 5)) (oVal (.tmp 34) (kLoad (some 2) (.tmp 33)) (oCallT (some [37,40]) (.tmp 35) (.con (.func 51 [] [])) [(.tmp 34)] (oVal (.tmp 36) (kUn (fadA 5) (.tmp 5)) (oVal (.tmp 37) (kUn (fadA 1) (.tmp 36)) (oVal (.tmp 38) (kLoad none (.tmp 37)) (oVal (.tmp 39) (kUn (fadA 7) (.tmp 5)) (oVal (.tmp 40) (kUn (fadA 0) (.tmp 39)) (oVal (.tmp 41) (kLoad none (.tmp 40)) (oVal (.tmp 42) (kInt aLeq (.tmp 38) (.tmp 41)) (oCall (.tmp 43) (.con (.func 25 [] [])) [(.tmp 42),(.con (.int .i64 9))] (oVal (.tmp 44) (kBuildSlice [(.int .i64 0),(.int .i64 0),(.int .i64 0),(.int .i64 0),(.int .i64 0),(.int .i64 0)] 6 [(0,1,(.tmp 21)),(1,1,(.tmp 26)),(2,1,(.tmp 29)),(3,1,(.tmp 32)),(4,1,(.tmp 35)),(5,1,(.tmp 43))]) (oCall (.tmp 45) (.con (.func 22 [] [])) [(.tmp 44)] (oVal (.tmp 6) (kMove (.tmp 45)) oNil)))))))))))))))))))))))))))))
def K52r8:OpsF:=(oVal (.tmp 46) (kMove (.tmp 6)) (oVal (.tmp 47) (kInt aNeq (.tmp 46) (.con (.int .i64 0))) oNil))
def K52r9:OpsF:=(oVal (.tmp 48) (kMove (.tmp 6)) (oVal (.tmp 2) (kMove (.tmp 48)) oNil))
def K52r10:OpsF:=(oVal (.tmp 49) (kInt aAdd (.tmp 15) (.con (.int .i64 1))) (oVal (.tmp 15) (kMove (.tmp 49)) oNil))
def K52l0:K:=(kSeq (kRegion K52r5 [16]) (kSeq (kCond (.tmp 16) kSkip (kExit 0)) (kSeq (kBlock 1 (kSeq (kRegion K52r6 [5]) (kSeq (kRegionD K52r7 [6]) (kSeq (kRegion K52r8 [47]) (kCond (.tmp 47) (kSeq (kRegion K52r9 [2]) kRet) kSkip))))) (kRegion K52r10 [15]))))
def K52r11:OpsF:=(oVal (.tmp 2) (kMove (.con (.int .i64 0))) oNil)
theorem res52:Try.f52.results.toList=[.tmp 2]:=by kernel_rfl
def K52:K:=(kSeq (kRegion K52r0 [2]) (kSeq (kSeq (kRegion K52r1 [3]) (kSeq (kRegion K52r2 [11]) (kCond (.tmp 11) (kSeq (kRegion K52r3 [2]) kRet) kSkip))) (kSeq (kSeq (kRegion K52r4 [13,14,15]) (kBlock 0 (kLoop K52l0))) (kSeq (kRegion K52r11 [2]) kRet))))
theorem enter52 (cl:CallF) (a0:AV) (s:St):enterA Try.prog X cl 52 [a0] s Try.f52=finA Try.prog Try.f52 (K52 cl ⟨52,none,Try.f52.ntmps,X 52⟩ (paramsEnv 0 [a0] .nil) [] s) :=
  enterA_eq (b:=Try.f52.body.getD .skip) (by kernel_rfl) (by kernel_rfl) (by kernel_rfl) (by kernel_rfl) (by kernel_rfl)
def K53r0:OpsF:=(oVal (.tmp 1) (kBox (tag 31) (.tmp 0)) (oVal (.tmp 2) (kMove (.con (.int .i64 0))) oNil))
def K53r1:OpsF:=(oVal (.tmp 8) (kUn (fadA 3) (.tmp 1)) (oVal (.tmp 9) (kLoad none (.tmp 8)) (oVal (.tmp 10) (kUn lenSlA (.tmp 9)) (oCall (.tmp 11) (.con (.func 63 [] [])) [(.tmp 10),(.con (.int .i64 0)),(.con (.int .i64 20))] (oVal (.tmp 3) (kMove (.tmp 11)) oNil)))))
def K53r2:OpsF:=(oVal (.tmp 12) (kMove (.tmp 3)) (oVal (.tmp 13) (kInt aNeq (.tmp 12) (.con (.int .i64 0))) oNil))
def K53r3:OpsF:=(oVal (.tmp 14) (kMove (.tmp 3)) (oVal (.tmp 2) (kMove (.tmp 14)) oNil))
def K53r4:OpsF:=(oVal (.tmp 4) (kMove (.con (.int .i64 0))) oNil)
def K53r5:OpsF:=(oVal (.tmp 15) (kUn (fadA 3) (.tmp 1)) (oVal (.tmp 16) (kLoad none (.tmp 15)) (oVal (.tmp 17) (kUn lenSlA (.tmp 16)) (oVal (.tmp 18) (kMove (.con (.int .i64 0))) oNil))))
def K53r6:OpsF:=(oVal (.tmp 19) (kInt aLss (.tmp 18) (.tmp 17)) oNil)
def K53r7:OpsF:=(oVal (.tmp 20) (kTwo (ixsA 3) (.tmp 16) (.tmp 18)) (oVal (.tmp 21) (kLoad (some 3) (.tmp 20)) (oVal (.tmp 6) (kAlloc [(.int .i64 0),(.int .i64 0),(.int .i64 0)] (tag 62)) (oVal .none (kStore 3 (.tmp 6) (.tmp 21)) oNil))))
def K53r8:OpsF:=(oEnd [] (oVal (.tmp 22) (kLoad (some 5) (.tmp 1)) (oVal (.tmp 23) (kUn (fadA 0) (.tmp 6)) (oVal (.tmp 24) (kLoad none (.tmp 23)) (oCallT (some [26,29,32]) (.tmp 25) (.con (.func 36 [] [])) [(.tmp 22),(.tmp 24)] (oVal (.tmp 26) (kUn (fadA 1) (.tmp 6)) (oVal (.tmp 27) (kLoad none (.tmp 26)) (oCallT (some [29,32]) (.tmp 28) (.con (.func 37 [] [])) [(.tmp 27)] (oVal (.tmp 29) (kUn (fadA 2) (.tmp 6)) (oVal (.tmp 30) (kLoad none (.tmp 29)) (oCallT (some [32]) (.tmp 31) (.con (.func 24 [] [])) [(.tmp 30),(.con (.int .i64 0)),(.con (.int .i64 100000))] (oVal (.tmp 32) (kUn (fadA 1) (.tmp 6)) (oVal (.tmp 33) (kLoad none (.tmp 32)) (oVal (.tmp 34) (kMove (.tmp 4)) (oVal (.tmp 35) (kInt aGeq (.tmp 33) (.tmp 34)) (oCall (.tmp 36) (.con (.func 25 [] [])) [(.tmp 35),(.con (.int .i64 5))] (oVal (.tmp 37) (kBuildSlice [(.int .i64 0),(.int .i64 0),(.int .i64 0),(.int .i64 0)] 4 [(0,1,(.tmp 25)),(1,1,(.tmp 28)),(2,1,(.tmp 31)),(3,1,(.tmp 36))]) (oCall (.tmp 38) (.con (.func 22 [] [])) [(.tmp 37)] (oVal (.tmp 7) (kMove (.tmp 38)) oNil)))))))))))))))))))
def K53r9:OpsF:=(oVal (.tmp 39) (kMove (.tmp 7)) (oVal (.tmp 40) (kInt aNeq (.tmp 39) (.con (.int .i64 0))) oNil))
def K53r10:OpsF:=(oVal (.tmp 41) (kMove (.tmp 7)) (oVal (.tmp 2) (kMove (.tmp 41)) oNil))
def K53r11:OpsF:=(oVal (.tmp 42) (kUn (fadA 1) (.tmp 6)) (oVal (.tmp 43) (kLoad none (.tmp 42)) (oVal (.tmp 4) (kMove (.tmp 43)) oNil)))
def K53r12:OpsF:=(oVal (.tmp 44) (kInt aAdd (.tmp 18) (.con (.int .i64 1))) (oVal (.tmp 18) (kMove (.tmp 44)) oNil))
def K53l0:K:=(kSeq (kRegion K53r6 [19]) (kSeq (kCond (.tmp 19) kSkip (kExit 0)) (kSeq (kBlock 1 (kSeq (kRegion K53r7 [6]) (kSeq (kRegionD K53r8 [7]) (kSeq (kSeq (kRegion K53r9 [40]) (kCond (.tmp 40) (kSeq (kRegion K53r10 [2]) kRet) kSkip)) (kRegion K53r11 [4]))))) (kRegion K53r12 [18]))))
def K53r13:OpsF:=(oVal (.tmp 2) (kMove (.con (.int .i64 0))) oNil)
theorem res53:Try.f53.results.toList=[.tmp 2]:=by kernel_rfl
def K53:K:=(kSeq (kRegion K53r0 [1,2]) (kSeq (kSeq (kRegion K53r1 [3]) (kSeq (kRegion K53r2 [13]) (kCond (.tmp 13) (kSeq (kRegion K53r3 [2]) kRet) kSkip))) (kSeq (kRegion K53r4 [4]) (kSeq (kSeq (kRegion K53r5 [16,17,18]) (kBlock 0 (kLoop K53l0))) (kSeq (kRegion K53r13 [2]) kRet)))))
theorem enter53 (cl:CallF) (a0:AV) (s:St):enterA Try.prog X cl 53 [a0] s Try.f53=finA Try.prog Try.f53 (K53 cl ⟨53,none,Try.f53.ntmps,X 53⟩ (paramsEnv 0 [a0] .nil) [] s) :=
  enterA_eq (b:=Try.f53.body.getD .skip) (by kernel_rfl) (by kernel_rfl) (by kernel_rfl) (by kernel_rfl) (by kernel_rfl)
def K37r0:OpsF:=(oVal (.tmp 2) (kMove (.con (.int .i64 0))) oNil)
def K37r1:OpsF:=(oVal (.tmp 3) (kMove (.tmp 0)) (oCall (.tmp 4) (.con (.func 24 [] [])) [(.tmp 3),(.con (.int .i64 0)),(.con (.int .i64 239))] (oVal (.tmp 2) (kMove (.tmp 4)) oNil)))
theorem res37:Try.f37.results.toList=[.tmp 2]:=by kernel_rfl
def K37:K:=(kSeq (kRegion K37r0 [2]) (kSeq (kRegion K37r1 [2]) kRet))
theorem enter37 (cl:CallF) (a0:AV) (s:St):enterA Try.prog X cl 37 [a0] s Try.f37=finA Try.prog Try.f37 (K37 cl ⟨37,none,Try.f37.ntmps,X 37⟩ (paramsEnv 0 [a0] .nil) [] s) :=
  enterA_eq (b:=Try.f37.body.getD .skip) (by kernel_rfl) (by kernel_rfl) (by kernel_rfl) (by kernel_rfl) (by kernel_rfl)
def K41r0:OpsF:=(oVal (.tmp 2) (kBox (tag 31) (.tmp 0)) (oVal (.tmp 3) (kBox (tag 35) (.tmp 1)) (oVal (.tmp 4) (kMove (.con (.int .i64 0))) oNil)))
def K41r1:OpsF:=(oEnd [] (oVal (.tmp 10) (kUn (fadA 0) (.tmp 3)) (oVal (.tmp 11) (kLoad none (.tmp 10)) (oCallT (some [13,16,17]) (.tmp 12) (.con (.func 37 [] [])) [(.tmp 11)] (oVal (.tmp 13) (kUn (fadA 1) (.tmp 3)) (oVal (.tmp 14) (kLoad none (.tmp 13)) (oCallT (some [16,17]) (.tmp 15) (.con (.func 24 [] [])) [(.tmp 14),(.con (.int .i64 0)),(.con (.int .i64 100000))] (oVal (.tmp 16) (kUn (fadA 2) (.tmp 3)) (oVal (.tmp 17) (kLoad none (.tmp 16)) (oVal (.tmp 18) (kUn lenSlA (.tmp 17)) (oCall (.tmp 19) (.con (.func 63 [] [])) [(.tmp 18),(.con (.int .i64 0)),(.con (.int .i64 8))] (oVal (.tmp 20) (kBuildSlice [(.int .i64 0),(.int .i64 0),(.int .i64 0)] 3 [(0,1,(.tmp 12)),(1,1,(.tmp 15)),(2,1,(.tmp 19))]) (oCall (.tmp 21) (.con (.func 22 [] [])) [(.tmp 20)] (oVal (.tmp 5) (kMove (.tmp 21)) oNil))))))))))))))
def K41r2:OpsF:=(oVal (.tmp 22) (kMove (.tmp 5)) (oVal (.tmp 23) (kInt aNeq (.tmp 22) (.con (.int .i64 0))) oNil))
def K41r3:OpsF:=(oVal (.tmp 24) (kMove (.tmp 5)) (oVal (.tmp 4) (kMove (.tmp 24)) oNil))
def K41r4:OpsF:=(oVal (.tmp 25) (kUn (fadA 0) (.tmp 3)) (oVal (.tmp 26) (kLoad none (.tmp 25)) (oVal (.tmp 6) (kMove (.tmp 26)) oNil)))
def K41r5:OpsF:=(oVal (.tmp 27) (kUn (fadA 2) (.tmp 3)) (oVal (.tmp 28) (kLoad none (.tmp 27)) (oVal (.tmp 29) (kUn lenSlA (.tmp 28)) (oVal (.tmp 30) (kMove (.con (.int .i64 0))) oNil))))
def K41r6:OpsF:=(oVal (.tmp 31) (kInt aLss (.tmp 30) (.tmp 29)) oNil)
def K41r7:OpsF:=(oVal (.tmp 32) (kTwo (ixsA 3) (.tmp 28) (.tmp 30)) (oVal (.tmp 33) (kLoad (some 3) (.tmp 32)) (oVal (.tmp 8) (kAlloc [(.int .i64 0),(.int .i64 0),(.int .i64 0)] (tag 66)) (oVal .none (kStore 3 (.tmp 8) (.tmp 33)) oNil))))
def K41r8s20:OpsF:=(oVal (.tmp 54) (kPick (.tmp 49) (.tmp 53) (.con (.bool false))) (oCall (.tmp 55) (.con (.func 25 [] [])) [(.tmp 54),(.con (.int .i64 5))] (oVal (.tmp 56) (kBuildSlice [(.int .i64 0),(.int .i64 0),(.int .i64 0),(.int .i64 0)] 4 [(0,1,(.tmp 37)),(1,1,(.tmp 40)),(2,1,(.tmp 43)),(3,1,(.tmp 55))]) (oCall (.tmp 57) (.con (.func 22 [] [])) [(.tmp 56)] (oVal (.tmp 9) (kMove (.tmp 57)) oNil)))))
def K41r8s19:OpsF:=(oIf 49 true (oVal (.tmp 53) (kInt aGeq (.tmp 51) (.tmp 52)) K41r8s20) (oSkip (.tmp 53) K41r8s20))
def K41r8s18:OpsF:=(oIf 49 true (oVal (.tmp 52) (kMove (.tmp 6)) K41r8s19) (oSkip (.tmp 52) K41r8s19))
def K41r8s17:OpsF:=(oIf 49 true (oVal (.tmp 51) (kLoad none (.tmp 50)) K41r8s18) (oSkip (.tmp 51) K41r8s18))
def K41r8:OpsF:=(oEnd [] (oVal (.tmp 34) (kLoad (some 5) (.tmp 2)) (oVal (.tmp 35) (kUn (fadA 0) (.tmp 8)) (oVal (.tmp 36) (kLoad none (.tmp 35)) (oCallT (some [38,41,44,46]) (.tmp 37) (.con (.func 36 [] [])) [(.tmp 34),(.tmp 36)] (oVal (.tmp 38) (kUn (fadA 1) (.tmp 8)) (oVal (.tmp 39) (kLoad none (.tmp 38)) (oCallT (some [41,44,46]) (.tmp 40) (.con (.func 24 [] [])) [(.tmp 39),(.con (.int .i64 0)),(.con (.int .i64 240))] (oVal (.tmp 41) (kUn (fadA 2) (.tmp 8)) (oVal (.tmp 42) (kLoad none (.tmp 41)) (oCallT (some [44,46]) (.tmp 43) (.con (.func 24 [] [])) [(.tmp 42),(.con (.int .i64 0)),(.con (.int .i64 240))] (oVal (.tmp 44) (kUn (fadA 1) (.tmp 8)) (oVal (.tmp 45) (kLoad none (.tmp 44)) (oVal (.tmp 46) (kUn (fadA 2) (.tmp 8)) (oVal (.tmp 47) (kLoad none (.tmp 46)) (oVal (.tmp 48) (kInt aLss (.tmp 45) (.tmp 47)) (oVal (.tmp 49) (kMove (.tmp 48)) (oIf 49 true (oVal (.tmp 50) (kUn (fadA 1) (.tmp 8)) K41r8s17) (oSkip (.tmp 50) K41r8s17)))))))))))))))))))
def K41r9:OpsF:=(oVal (.tmp 58) (kMove (.tmp 9)) (oVal (.tmp 59) (kInt aNeq (.tmp 58) (.con (.int .i64 0))) oNil))
def K41r10:OpsF:=(oVal (.tmp 60) (kMove (.tmp 9)) (oVal (.tmp 4) (kMove (.tmp 60)) oNil))
def K41r11:OpsF:=(oVal (.tmp 61) (kUn (fadA 2) (.tmp 8)) (oVal (.tmp 62) (kLoad none (.tmp 61)) (oVal (.tmp 6) (kMove (.tmp 62)) oNil)))
def K41r12:OpsF:=(oVal (.tmp 63) (kInt aAdd (.tmp 30) (.con (.int .i64 1))) (oVal (.tmp 30) (kMove (.tmp 63)) oNil))
def K41l0:K:=(kSeq (kRegion K41r6 [31]) (kSeq (kCond (.tmp 31) kSkip (kExit 0)) (kSeq (kBlock 1 (kSeq (kRegion K41r7 [8]) (kSeq (kRegionD K41r8 [9]) (kSeq (kSeq (kRegion K41r9 [59]) (kCond (.tmp 59) (kSeq (kRegion K41r10 [4]) kRet) kSkip)) (kRegion K41r11 [6]))))) (kRegion K41r12 [30]))))
def K41r13:OpsF:=(oVal (.tmp 4) (kMove (.con (.int .i64 0))) oNil)
theorem res41:Try.f41.results.toList=[.tmp 4]:=by kernel_rfl
def K41:K:=(kSeq (kRegion K41r0 [2,3,4]) (kSeq (kRegionD K41r1 [5]) (kSeq (kSeq (kRegion K41r2 [23]) (kCond (.tmp 23) (kSeq (kRegion K41r3 [4]) kRet) kSkip)) (kSeq (kRegion K41r4 [6]) (kSeq (kSeq (kRegion K41r5 [28,29,30]) (kBlock 0 (kLoop K41l0))) (kSeq (kRegion K41r13 [4]) kRet))))))
theorem enter41 (cl:CallF) (a0 a1:AV) (s:St):enterA Try.prog X cl 41 [a0,a1] s Try.f41=finA Try.prog Try.f41 (K41 cl ⟨41,none,Try.f41.ntmps,X 41⟩ (paramsEnv 0 [a0,a1] .nil) [] s) :=
  enterA_eq (b:=Try.f41.body.getD .skip) (by kernel_rfl) (by kernel_rfl) (by kernel_rfl) (by kernel_rfl) (by kernel_rfl)
def K54r0:OpsF:=(oVal (.tmp 2) (kMove (.con (.int .i64 0))) oNil)
def K54r1:OpsF:=(oVal (.tmp 8) (kMove (.tmp 0)) (oVal (.tmp 9) (kUn lenSlA (.tmp 8)) (oCall (.tmp 10) (.con (.func 63 [] [])) [(.tmp 9),(.con (.int .i64 1)),(.con (.int .i64 6))] (oVal (.tmp 3) (kMove (.tmp 10)) oNil))))
def K54r2:OpsF:=(oVal (.tmp 11) (kMove (.tmp 3)) (oVal (.tmp 12) (kInt aNeq (.tmp 11) (.con (.int .i64 0))) oNil))
def K54r3:OpsF:=(oVal (.tmp 13) (kMove (.tmp 3)) (oVal (.tmp 2) (kMove (.tmp 13)) oNil))
def K54r4:OpsF:=(oVal (.tmp 14) (kBuild [(.int .i64 0),(.int .i64 0)] [(0,1,(.con (.int .i64 (-301))))]) (oVal (.tmp 4) (kAlloc [(.int .i64 0),(.int .i64 0)] (tag 64)) (oVal .none (kStore 2 (.tmp 4) (.tmp 14)) oNil)))
def K54r5:OpsF:=(oVal (.tmp 15) (kMove (.tmp 0)) (oVal (.tmp 16) (kUn lenSlA (.tmp 15)) (oVal (.tmp 17) (kMove (.con (.int .i64 0))) oNil)))
def K54r6:OpsF:=(oVal (.tmp 18) (kInt aLss (.tmp 17) (.tmp 16)) oNil)
def K54r7:OpsF:=(oVal (.tmp 19) (kTwo (ixsA 2) (.tmp 15) (.tmp 17)) (oVal (.tmp 20) (kLoad (some 2) (.tmp 19)) (oVal (.tmp 6) (kAlloc [(.int .i64 0),(.int .i64 0)] (tag 64)) (oVal .none (kStore 2 (.tmp 6) (.tmp 20)) oNil))))
def K54r8s17:OpsF:=(oVal (.tmp 38) (kPick (.tmp 32) (.tmp 37) (.con (.bool false))) (oCall (.tmp 39) (.con (.func 25 [] [])) [(.tmp 38),(.con (.int .i64 5))] (oVal (.tmp 40) (kBuildSlice [(.int .i64 0),(.int .i64 0),(.int .i64 0)] 3 [(0,1,(.tmp 23)),(1,1,(.tmp 26)),(2,1,(.tmp 39))]) (oCall (.tmp 41) (.con (.func 22 [] [])) [(.tmp 40)] (oVal (.tmp 7) (kMove (.tmp 41)) oNil)))))
def K54r8s16:OpsF:=(oIf 32 true (oVal (.tmp 37) (kInt aGeq (.tmp 34) (.tmp 36)) K54r8s17) (oSkip (.tmp 37) K54r8s17))
def K54r8s15:OpsF:=(oIf 32 true (oVal (.tmp 36) (kLoad none (.tmp 35)) K54r8s16) (oSkip (.tmp 36) K54r8s16))
def K54r8s14:OpsF:=(oIf 32 true (oVal (.tmp 35) (kUn (fadA 1) (.tmp 4)) K54r8s15) (oSkip (.tmp 35) K54r8s15))
def K54r8s13:OpsF:=(oIf 32 true (oVal (.tmp 34) (kLoad none (.tmp 33)) K54r8s14) (oSkip (.tmp 34) K54r8s14))
def K54r8:OpsF:=(oEnd [] (oVal (.tmp 21) (kUn (fadA 0) (.tmp 6)) (oVal (.tmp 22) (kLoad none (.tmp 21)) (oCallT (some [24,27,29]) (.tmp 23) (.con (.func 24 [] [])) [(.tmp 22),(.con (.int .i64 (-300))),(.con (.int .i64 400))] (oVal (.tmp 24) (kUn (fadA 1) (.tmp 6)) (oVal (.tmp 25) (kLoad none (.tmp 24)) (oCallT (some [27,29]) (.tmp 26) (.con (.func 24 [] [])) [(.tmp 25),(.con (.int .i64 0)),(.con (.int .i64 1000))] (oVal (.tmp 27) (kUn (fadA 0) (.tmp 6)) (oVal (.tmp 28) (kLoad none (.tmp 27)) (oVal (.tmp 29) (kUn (fadA 0) (.tmp 4)) (oVal (.tmp 30) (kLoad none (.tmp 29)) (oVal (.tmp 31) (kGtr (.tmp 28) (.tmp 30)) (oVal (.tmp 32) (kMove (.tmp 31)) (oIf 32 true (oVal (.tmp 33) (kUn (fadA 1) (.tmp 6)) K54r8s13) (oSkip (.tmp 33) K54r8s13)))))))))))))))
def K54r9:OpsF:=(oVal (.tmp 42) (kMove (.tmp 7)) (oVal (.tmp 43) (kInt aNeq (.tmp 42) (.con (.int .i64 0))) oNil))
def K54r10:OpsF:=(oVal (.tmp 44) (kMove (.tmp 7)) (oVal (.tmp 2) (kMove (.tmp 44)) oNil))
def K54r11:OpsF:=(oVal (.tmp 45) (kLoad (some 2) (.tmp 6)) (oVal .none (kStore 2 (.tmp 4) (.tmp 45)) oNil))
def K54r12:OpsF:=(oVal (.tmp 46) (kInt aAdd (.tmp 17) (.con (.int .i64 1))) (oVal (.tmp 17) (kMove (.tmp 46)) oNil))
def K54l0:K:=(kSeq (kRegion K54r6 [18]) (kSeq (kCond (.tmp 18) kSkip (kExit 0)) (kSeq (kBlock 1 (kSeq (kRegion K54r7 [6]) (kSeq (kRegionD K54r8 [7]) (kSeq (kSeq (kRegion K54r9 [43]) (kCond (.tmp 43) (kSeq (kRegion K54r10 [2]) kRet) kSkip)) (kRegion K54r11 []))))) (kRegion K54r12 [17]))))
def K54r13:OpsF:=(oVal (.tmp 2) (kMove (.con (.int .i64 0))) oNil)
theorem res54:Try.f54.results.toList=[.tmp 2]:=by kernel_rfl
def K54:K:=(kSeq (kRegion K54r0 [2]) (kSeq (kSeq (kRegion K54r1 [3]) (kSeq (kRegion K54r2 [12]) (kCond (.tmp 12) (kSeq (kRegion K54r3 [2]) kRet) kSkip))) (kSeq (kRegion K54r4 [4]) (kSeq (kSeq (kRegion K54r5 [15,16,17]) (kBlock 0 (kLoop K54l0))) (kSeq (kRegion K54r13 [2]) kRet)))))
theorem enter54 (cl:CallF) (a0:AV) (s:St):enterA Try.prog X cl 54 [a0] s Try.f54=finA Try.prog Try.f54 (K54 cl ⟨54,none,Try.f54.ntmps,X 54⟩ (paramsEnv 0 [a0] .nil) [] s) :=
  enterA_eq (b:=Try.f54.body.getD .skip) (by kernel_rfl) (by kernel_rfl) (by kernel_rfl) (by kernel_rfl) (by kernel_rfl)
def K51r0:OpsF:=(oVal (.tmp 1) (kBox (tag 26) (.tmp 0)) (oVal (.tmp 2) (kMove (.con (.int .i64 0))) oNil))
def K51r1:OpsF:=(oVal (.tmp 3) (kLoad (some 2) (.tmp 1)) (oCall (.tmp 4) (.con (.func 69 [] [])) [(.tmp 3),(.con (.int .i64 (-300))),(.con (.int .i64 400))] (oVal (.tmp 2) (kMove (.tmp 4)) oNil)))
theorem res51:Try.f51.results.toList=[.tmp 2]:=by kernel_rfl
def K51:K:=(kSeq (kRegion K51r0 [1,2]) (kSeq (kRegion K51r1 [2]) kRet))
theorem enter51 (cl:CallF) (a0:AV) (s:St):enterA Try.prog X cl 51 [a0] s Try.f51=finA Try.prog Try.f51 (K51 cl ⟨51,none,Try.f51.ntmps,X 51⟩ (paramsEnv 0 [a0] .nil) [] s) :=
  enterA_eq (b:=Try.f51.body.getD .skip) (by kernel_rfl) (by kernel_rfl) (by kernel_rfl) (by kernel_rfl) (by kernel_rfl)
end
end Go.Proofs.Ytlfalcghhckanaa.code
set_option maxRecDepth 100000
namespace Go.Proofs.Ytlfalcghhckanaa.code
open Go.Abs
noncomputable section
def K15r0:OpsF:=(oVal (.tmp 3) (kBox (tag 31) (.tmp 0)) (oVal (.tmp 6) (kAlloc [(.int .i64 0),(.int .i64 0)] (tag 26)) (oVal (.tmp 7) (kMove (.con (.int .i64 0))) oNil)))
def K15r1:OpsF:=(oEnd [] (oVal (.tmp 13) (kLoad (some 5) (.tmp 3)) (oCallT (some [3]) (.tmp 14) (.con (.func 35 [] [])) [(.tmp 13)] (oVal (.tmp 15) (kLoad (some 5) (.tmp 3)) (oVal (.tmp 16) (kMove (.tmp 1)) (oCall (.tmp 17) (.con (.func 36 [] [])) [(.tmp 15),(.tmp 16)] (oVal (.tmp 18) (kMove (.tmp 2)) (oCall (.tmp 19) (.con (.func 37 [] [])) [(.tmp 18)] (oVal (.tmp 20) (kBuildSlice [(.int .i64 0),(.int .i64 0),(.int .i64 0)] 3 [(0,1,(.tmp 14)),(1,1,(.tmp 17)),(2,1,(.tmp 19))]) (oCall (.tmp 21) (.con (.func 22 [] [])) [(.tmp 20)] (oVal (.tmp 8) (kMove (.tmp 21)) oNil)))))))))))
def K15r2:OpsF:=(oVal (.tmp 22) (kMove (.tmp 8)) (oVal (.tmp 23) (kInt aNeq (.tmp 22) (.con (.int .i64 0))) oNil))
def K15r3:OpsF:=(oVal (.tmp 24) (kBuild [(.int .i64 0),(.int .i64 0)] []) (oVal (.tmp 25) (kMove (.tmp 8)) (oVal .none (kStore 2 (.tmp 6) (.tmp 24)) (oVal (.tmp 7) (kMove (.tmp 25)) oNil))))
def K15r4:OpsF:=(oVal (.tmp 26) (kLoad (some 5) (.tmp 3)) (oVal (.tmp 27) (kMove (.tmp 1)) (oCall (.tmp 28) (.con (.func 38 [] [])) [(.tmp 26),(.tmp 27)] (oVal (.tmp 9) (kAlloc [(.int .i64 0),(.int .i64 0),(.int .i64 0),(.int .i64 0),(.int .i64 0),(.int .i64 0),(.int .i64 0),(.int .i64 0),(.int .i64 0),(.int .i64 0),(.int .i64 0),(.int .i64 0),.nilslice] (tag 91)) (oVal .none (kStore 13 (.tmp 9) (.tmp 28)) oNil)))))
def K15r5:OpsF:=(oVal (.tmp 10) (kAlloc [(.int .i64 0),(.int .i64 0)] (tag 89)) oNil)
def K15r6:OpsF:=(oVal (.tmp 29) (kMove (.tmp 2)) (oVal (.tmp 30) (kInt aAdd (.tmp 29) (.con (.int .i64 1))) (oCall (.tmp 31) (.con (.func 39 [] [])) [(.tmp 9),(.tmp 30)] oNil)))
def K15r7:OpsF:=(oVal (.tmp 35) (kLoad (some 2) (.tmp 10)) (oCall (.tmp 36) (.con (.func 40 [] [])) [(.tmp 35)] (oVal .none (kStore 2 (.tmp 6) (.tmp 36)) (oVal (.tmp 7) (kMove (.con (.int .i64 0))) oNil))))
theorem res15:Try.f15.results.toList=[.cell 6 26,.tmp 7]:=by kernel_rfl
def K15:K:=(kSeq (kRegion K15r0 [3,6,7]) (kSeq (kRegionD K15r1 [8]) (kSeq (kSeq (kRegion K15r2 [23]) (kCond (.tmp 23) (kSeq (kRegion K15r3 [7]) kRet) kSkip)) (kSeq (kRegion K15r4 [9]) (kSeq (kRegion K15r5 [10]) (kSeq (kSeq (kRegion K15r6 [31]) (kBlock 0 (kRange (.tmp 31) [32,33] (rangeAt Try.f15 0).1 (rangeAt Try.f15 0).2))) (kSeq (kRegion K15r7 [7]) kRet)))))))
theorem enter15 (cl:CallF) (a0 a1 a2:AV) (s:St):enterA Try.prog X cl 15 [a0,a1,a2] s Try.f15=finA Try.prog Try.f15 (K15 cl ⟨15,none,Try.f15.ntmps,X 15⟩ (paramsEnv 0 [a0,a1,a2] .nil) [] s) :=
  enterA_eq (b:=Try.f15.body.getD .skip) (by kernel_rfl) (by kernel_rfl) (by kernel_rfl) (by kernel_rfl) (by kernel_rfl)
def K15a0r0:OpsF:=(oVal (.tmp 12) (kAlloc [(.int .i64 0),(.int .i64 0)] (tag 89)) (oVal .none (kStore 2 (.tmp 12) (.tmp 33)) oNil))
def K15a0:K:=(kRegion K15a0r0 [12])
theorem code15a0:codeK Try.prog (X 15) Try.f15.ntmps (rangeAt Try.f15 0).1=some K15a0:=by kernel_rfl
def K15b0r0:OpsF:=(oVal (.tmp 34) (kLoad (some 2) (.tmp 12)) (oVal .none (kStore 2 (.tmp 10) (.tmp 34)) oNil))
def K15b0:K:=(kBlock 1 (kRegion K15b0r0 []))
theorem code15b0:codeK Try.prog (X 15) Try.f15.ntmps (rangeAt Try.f15 0).2=some K15b0:=by kernel_rfl
def K16r0:OpsF:=(oVal (.tmp 3) (kBox (tag 31) (.tmp 0)) (oVal (.tmp 6) (kMove (.con (.int .i64 0))) (oVal (.tmp 7) (kMove (.con (.int .i64 0))) oNil)))
def K16r1:OpsF:=(oVal (.tmp 11) (kLoad (some 5) (.tmp 3)) (oVal (.tmp 12) (kMove (.tmp 1)) (oVal (.tmp 13) (kMove (.tmp 2)) (oCall (.tmp 14) (.con (.func 15 [] [])) [(.tmp 11),(.tmp 12),(.tmp 13)] (oVal (.tmp 10) (kMove (.tmp 14)) (oVal (.tmp 15) (kUn (extA 0) (.tmp 10)) (oVal (.tmp 16) (kUn (extA 1) (.tmp 10)) (oVal (.tmp 8) (kAlloc [(.int .i64 0),(.int .i64 0)] (tag 26)) (oVal .none (kStore 2 (.tmp 8) (.tmp 15)) (oVal (.tmp 9) (kMove (.tmp 16)) oNil))))))))))
def K16r2:OpsF:=(oVal (.tmp 17) (kMove (.tmp 9)) (oVal (.tmp 18) (kInt aNeq (.tmp 17) (.con (.int .i64 0))) oNil))
def K16r3:OpsF:=(oVal (.tmp 19) (kMove (.tmp 9)) (oVal (.tmp 6) (kMove (.con (.int .i64 0))) (oVal (.tmp 7) (kMove (.tmp 19)) oNil)))
def K16r4:OpsF:=(oVal (.tmp 20) (kUn (fadA 1) (.tmp 8)) (oVal (.tmp 21) (kLoad none (.tmp 20)) (oVal (.tmp 22) (kGtr (.tmp 21) (.con (.int .i64 0))) (oVal (.tmp 23) (kUn (fadA 0) (.tmp 8)) (oVal (.tmp 24) (kLoad none (.tmp 23)) (oVal (.tmp 25) (kGtr (.tmp 24) (.con (.int .i64 0))) (oCall (.tmp 26) (.con (.func 28 [] [])) [(.tmp 22),(.tmp 25)] (oVal (.tmp 6) (kMove (.tmp 26)) (oVal (.tmp 7) (kMove (.con (.int .i64 0))) oNil)))))))))
theorem res16:Try.f16.results.toList=[.tmp 6,.tmp 7]:=by kernel_rfl
def K16:K:=(kSeq (kRegion K16r0 [3,6,7]) (kSeq (kRegion K16r1 [8,9]) (kSeq (kSeq (kRegion K16r2 [18]) (kCond (.tmp 18) (kSeq (kRegion K16r3 [6,7]) kRet) kSkip)) (kSeq (kRegion K16r4 [6,7]) kRet))))
theorem enter16 (cl:CallF) (a0 a1 a2:AV) (s:St):enterA Try.prog X cl 16 [a0,a1,a2] s Try.f16=finA Try.prog Try.f16 (K16 cl ⟨16,none,Try.f16.ntmps,X 16⟩ (paramsEnv 0 [a0,a1,a2] .nil) [] s) :=
  enterA_eq (b:=Try.f16.body.getD .skip) (by kernel_rfl) (by kernel_rfl) (by kernel_rfl) (by kernel_rfl) (by kernel_rfl)
def K38r0:OpsF:=(oVal (.tmp 2) (kBox (tag 31) (.tmp 0)) (oVal (.tmp 3) (kBox (tag 3) (.tmp 1)) (oVal (.tmp 4) (kAlloc [(.int .i64 0),(.int .i64 0),(.int .i64 0),(.int .i64 0),(.int .i64 0),(.int .i64 0),(.int .i64 0),(.int .i64 0),(.int .i64 0),(.int .i64 0),(.int .i64 0),(.int .i64 0),.nilslice] (tag 91)) oNil)))
def K38r1:OpsF:=(oVal (.tmp 6) (kFunc 56 [] [(.tmp 3)]) (oVal (.tmp 5) (kMove (.tmp 6)) oNil))
def K38r2:OpsF:=(oEnd [] (oVal (.tmp 7) (kUn (fadA 2) (.tmp 2)) (oVal (.tmp 8) (kLoad none (.tmp 7)) (oVal (.tmp 9) (kLoad none (.tmp 3)) (oVal (.tmp 10) (kTwo (ixsA 9) (.tmp 8) (.tmp 9)) (oVal (.tmp 11) (kLoad (some 9) (.tmp 10)) (oVal (.tmp 12) (kUn (fadA 2) (.tmp 2)) (oVal (.tmp 13) (kLoad none (.tmp 12)) (oVal (.tmp 14) (kLoad none (.tmp 3)) (oVal (.tmp 15) (kTwo (ixsA 9) (.tmp 13) (.tmp 14)) (oVal (.tmp 16) (kUn (fadA 1) (.tmp 15)) (oVal (.tmp 17) (kLoad (some 2) (.tmp 16)) (oCallT (some [7,3,10,19]) (.tmp 18) (.con (.func 57 [] [])) [(.tmp 17)] (oVal (.tmp 19) (kUn (fadA 3) (.tmp 2)) (oVal (.tmp 20) (kLoad none (.tmp 19)) (oCallT (some [7,3,10]) (.tmp 21) (.con (.func 59 [] [])) [(.tmp 20)] (oVal (.tmp 22) (kMove (.tmp 5)) (oCallT (some [7,3,10]) (.tmp 23) (.con (.func 58 [] [])) [(.tmp 21),(.tmp 22)] (oVal (.tmp 24) (kBuild [(.int .i64 0),(.int .i64 0),(.int .i64 0),(.int .i64 0),(.int .i64 0),(.int .i64 0),(.int .i64 0),(.int .i64 0),(.int .i64 0),(.int .i64 0),(.int .i64 0),(.int .i64 0),.nilslice] [(0,9,(.tmp 11)),(10,2,(.tmp 18)),(12,1,(.tmp 23))]) (oVal .none (kStore 13 (.tmp 4) (.tmp 24)) oNil))))))))))))))))))))
theorem res38:Try.f38.results.toList=[.cell 4 91]:=by kernel_rfl
def K38:K:=(kSeq (kRegion K38r0 [2,3,4]) (kSeq (kRegion K38r1 [5]) (kSeq (kRegionD K38r2 []) kRet)))
theorem enter38 (cl:CallF) (a0 a1:AV) (s:St):enterA Try.prog X cl 38 [a0,a1] s Try.f38=finA Try.prog Try.f38 (K38 cl ⟨38,none,Try.f38.ntmps,X 38⟩ (paramsEnv 0 [a0,a1] .nil) [] s) :=
  enterA_eq (b:=Try.f38.body.getD .skip) (by kernel_rfl) (by kernel_rfl) (by kernel_rfl) (by kernel_rfl) (by kernel_rfl)
def K39r0:OpsF:=(oVal (.tmp 2) (kBox (tag 117) (.tmp 0)) (oVal (.tmp 3) (kBox (tag 3) (.tmp 1)) (oVal (.tmp 4) (kMove (.con .nilfunc)) oNil)))
def K39r1:OpsF:=(oVal (.tmp 5) (kFunc 60 [] [(.tmp 2),(.tmp 3)]) (oVal (.tmp 4) (kMove (.tmp 5)) oNil))
theorem res39:Try.f39.results.toList=[.tmp 4]:=by kernel_rfl
def K39:K:=(kSeq (kRegion K39r0 [2,3,4]) (kSeq (kRegion K39r1 [4]) kRet))
theorem enter39 (cl:CallF) (a0 a1:AV) (s:St):enterA Try.prog X cl 39 [a0,a1] s Try.f39=finA Try.prog Try.f39 (K39 cl ⟨39,none,Try.f39.ntmps,X 39⟩ (paramsEnv 0 [a0,a1] .nil) [] s) :=
  enterA_eq (b:=Try.f39.body.getD .skip) (by kernel_rfl) (by kernel_rfl) (by kernel_rfl) (by kernel_rfl) (by kernel_rfl)
def K40r0:OpsF:=(oVal (.tmp 1) (kBox (tag 89) (.tmp 0)) (oVal (.tmp 2) (kAlloc [(.int .i64 0),(.int .i64 0)] (tag 26)) oNil))
def K40r1:OpsF:=(oVal (.tmp 3) (kTwo (ixaA 2 1) (.tmp 1) (.con (.int .i64 0))) (oVal (.tmp 4) (kLoad none (.tmp 3)) (oVal (.tmp 5) (kTwo (ixaA 2 1) (.tmp 1) (.con (.int .i64 1))) (oVal (.tmp 6) (kLoad none (.tmp 5)) (oVal (.tmp 7) (kBuild [(.int .i64 0),(.int .i64 0)] [(0,1,(.tmp 4)),(1,1,(.tmp 6))]) (oVal .none (kStore 2 (.tmp 2) (.tmp 7)) oNil))))))
theorem res40:Try.f40.results.toList=[.cell 2 26]:=by kernel_rfl
def K40:K:=(kSeq (kRegion K40r0 [1,2]) (kSeq (kRegion K40r1 []) kRet))
theorem enter40 (cl:CallF) (a0:AV) (s:St):enterA Try.prog X cl 40 [a0] s Try.f40=finA Try.prog Try.f40 (K40 cl ⟨40,none,Try.f40.ntmps,X 40⟩ (paramsEnv 0 [a0] .nil) [] s) :=
  enterA_eq (b:=Try.f40.body.getD .skip) (by kernel_rfl) (by kernel_rfl) (by kernel_rfl) (by kernel_rfl) (by kernel_rfl)
def K28r0:OpsF:=(oVal (.tmp 4) (kMove (.con (.int .i64 0))) oNil)
def K28r1:OpsF:=(oVal (.tmp 6) (kMove (.tmp 1)) (oVal (.tmp 5) (kMove (.tmp 6)) oNil))
def K28r2:OpsF:=(oVal (.tmp 4) (kMove (.con (.int .i64 1))) oNil)
def K28r3:OpsF:=(oVal (.tmp 8) (kMove (.tmp 0)) (oVal (.tmp 7) (kMove (.tmp 8)) oNil))
def K28r4:OpsF:=(oVal (.tmp 4) (kMove (.con (.int .i64 3))) oNil)
def K28r5:OpsF:=(oVal (.tmp 4) (kMove (.con (.int .i64 2))) oNil)
theorem res28:Try.f28.results.toList=[.tmp 4]:=by kernel_rfl
def K28:K:=(kSeq (kRegion K28r0 [4]) (kSeq (kBlock 0 (kSeq (kRegion K28r1 [5]) (kCond (.tmp 5) (kSeq (kRegion K28r2 [4]) kRet) (kSeq (kRegion K28r3 [7]) (kCond (.tmp 7) (kSeq (kRegion K28r4 [4]) kRet) kSkip))))) (kSeq (kRegion K28r5 [4]) kRet)))
theorem enter28 (cl:CallF) (a0 a1:AV) (s:St):enterA Try.prog X cl 28 [a0,a1] s Try.f28=finA Try.prog Try.f28 (K28 cl ⟨28,none,Try.f28.ntmps,X 28⟩ (paramsEnv 0 [a0,a1] .nil) [] s) :=
  enterA_eq (b:=Try.f28.body.getD .skip) (by kernel_rfl) (by kernel_rfl) (by kernel_rfl) (by kernel_rfl) (by kernel_rfl)
def K56r0:OpsF:=(oVal (.tmp 2) (kBox (tag 62) (.tmp 0)) (oVal (.tmp 3) (kMove (.con (.bool false))) oNil))
def K56r1:OpsF:=(oVal (.tmp 4) (kUn (fadA 0) (.tmp 2)) (oVal (.tmp 5) (kLoad none (.tmp 4)) (oVal (.tmp 6) (kLoad none (.tmp 1)) (oVal (.tmp 7) (kInt aNeq (.tmp 5) (.tmp 6)) (oVal (.tmp 3) (kMove (.tmp 7)) oNil)))))
theorem res56:Try.f56.results.toList=[.tmp 3]:=by kernel_rfl
def K56:K:=(kSeq (kRegion K56r0 [2,3]) (kSeq (kRegion K56r1 [3]) kRet))
theorem enter56 (cl:CallF) (a0 a1:AV) (s:St):enterA Try.prog X cl 56 [a0,a1] s Try.f56=finA Try.prog Try.f56 (K56 cl ⟨56,none,Try.f56.ntmps,X 56⟩ (paramsEnv 0 [a0,a1] .nil) [] s) :=
  enterA_eq (b:=Try.f56.body.getD .skip) (by kernel_rfl) (by kernel_rfl) (by kernel_rfl) (by kernel_rfl) (by kernel_rfl)
def K57r0:OpsF:=(oVal (.tmp 1) (kBox (tag 26) (.tmp 0)) (oVal (.tmp 2) (kAlloc [(.int .i64 0),(.int .i64 0)] (tag 89)) oNil))
def K57r1:OpsF:=(oVal (.tmp 3) (kUn (fadA 0) (.tmp 1)) (oVal (.tmp 4) (kLoad none (.tmp 3)) (oVal (.tmp 5) (kUn (fadA 1) (.tmp 1)) (oVal (.tmp 6) (kLoad none (.tmp 5)) (oVal (.tmp 7) (kBuild [(.int .i64 0),(.int .i64 0)] [(0,1,(.tmp 4)),(1,1,(.tmp 6))]) (oVal .none (kStore 2 (.tmp 2) (.tmp 7)) oNil))))))
theorem res57:Try.f57.results.toList=[.cell 2 89]:=by kernel_rfl
def K57:K:=(kSeq (kRegion K57r0 [1,2]) (kSeq (kRegion K57r1 []) kRet))
theorem enter57 (cl:CallF) (a0:AV) (s:St):enterA Try.prog X cl 57 [a0] s Try.f57=finA Try.prog Try.f57 (K57 cl ⟨57,none,Try.f57.ntmps,X 57⟩ (paramsEnv 0 [a0] .nil) [] s) :=
  enterA_eq (b:=Try.f57.body.getD .skip) (by kernel_rfl) (by kernel_rfl) (by kernel_rfl) (by kernel_rfl) (by kernel_rfl)
def K58r0:OpsF:=(oVal (.tmp 4) (kMove (.con .nilslice)) oNil)
def K58r1:OpsF:=(oVal (.tmp 8) (kMove (.tmp 0)) (oVal (.tmp 9) (kMove (.tmp 1)) (oCall (.tmp 10) (.con (.func 70 [] [])) [(.tmp 8),(.tmp 9)] (oVal (.tmp 5) (kMove (.tmp 10)) oNil))))
def K58r2:OpsF:=(oVal (.tmp 11) (kMove (.tmp 5)) (oVal (.tmp 12) (kInt aEql (.tmp 11) (.con (.int .i64 (-1)))) oNil))
def K58r3:OpsF:=(oVal (.tmp 13) (kMove (.tmp 0)) (oVal (.tmp 4) (kMove (.tmp 13)) oNil))
def K58r4:OpsF:=(oVal (.tmp 14) (kMove (.tmp 5)) (oVal (.tmp 15) (kInt aAdd (.tmp 14) (.con (.int .i64 1))) (oVal (.tmp 6) (kMove (.tmp 15)) oNil)))
def K58r5:OpsF:=(oVal (.tmp 16) (kMove (.tmp 6)) (oVal (.tmp 17) (kMove (.tmp 0)) (oVal (.tmp 18) (kUn lenSlA (.tmp 17)) (oVal (.tmp 19) (kInt aLss (.tmp 16) (.tmp 18)) oNil))))
def K58r6:OpsF:=(oVal (.tmp 22) (kMove (.tmp 0)) (oVal (.tmp 23) (kMove (.tmp 6)) (oVal (.tmp 24) (kTwo (ixsA 3) (.tmp 22) (.tmp 23)) (oVal (.tmp 25) (kLoad (some 3) (.tmp 24)) (oVal (.tmp 7) (kAlloc [(.int .i64 0),(.int .i64 0),(.int .i64 0)] (tag 62)) (oVal .none (kStore 3 (.tmp 7) (.tmp 25)) oNil))))))
def K58r7:OpsF:=(oVal (.tmp 26) (kMove (.tmp 1)) (oVal (.tmp 27) (kLoad (some 3) (.tmp 7)) (oCall (.tmp 28) (.tmp 26) [(.tmp 27)] (oVal (.tmp 29) (kUn notA (.tmp 28)) oNil))))
def K58r8:OpsF:=(oVal (.tmp 30) (kMove (.tmp 0)) (oVal (.tmp 31) (kMove (.tmp 5)) (oVal (.tmp 32) (kLoad (some 3) (.tmp 7)) (oVal (.tmp 33) (kTwo (ixsA 3) (.tmp 30) (.tmp 31)) (oVal .none (kStore 3 (.tmp 33) (.tmp 32)) oNil)))))
def K58r9:OpsF:=(oVal (.tmp 34) (kMove (.tmp 5)) (oVal (.tmp 35) (kInt aAdd (.tmp 34) (.con (.int .i64 1))) (oVal (.tmp 5) (kMove (.tmp 35)) oNil)))
def K58r10:OpsF:=(oVal (.tmp 20) (kMove (.tmp 6)) (oVal (.tmp 21) (kInt aAdd (.tmp 20) (.con (.int .i64 1))) (oVal (.tmp 6) (kMove (.tmp 21)) oNil)))
def K58l0:K:=(kSeq (kSeq (kRegion K58r5 [19]) (kCond (.tmp 19) kSkip (kExit 0))) (kSeq (kBlock 1 (kSeq (kRegion K58r6 [7]) (kSeq (kRegion K58r7 [29]) (kCond (.tmp 29) (kSeq (kRegion K58r8 []) (kRegion K58r9 [5])) kSkip)))) (kRegion K58r10 [6])))
def K58r11:OpsF:=(oVal (.tmp 36) (kMove (.tmp 0)) (oVal (.tmp 37) (kMove (.tmp 5)) (oVal (.tmp 38) (kSlice (sliceVal 3) (.tmp 36) (some (.tmp 37)) none) (oVal .none (kUn (clearA [(.int .i64 0),(.int .i64 0),(.int .i64 0)]) (.tmp 38)) oNil))))
def K58r12:OpsF:=(oVal (.tmp 39) (kMove (.tmp 0)) (oVal (.tmp 40) (kMove (.tmp 5)) (oVal (.tmp 41) (kSlice (sliceVal 3) (.tmp 39) none (some (.tmp 40))) (oVal (.tmp 4) (kMove (.tmp 41)) oNil))))
theorem res58:Try.f58.results.toList=[.tmp 4]:=by kernel_rfl
def K58:K:=(kSeq (kRegion K58r0 [4]) (kSeq (kRegion K58r1 [5]) (kSeq (kSeq (kRegion K58r2 [12]) (kCond (.tmp 12) (kSeq (kRegion K58r3 [4]) kRet) kSkip)) (kSeq (kSeq (kRegion K58r4 [6]) (kBlock 0 (kLoop K58l0))) (kSeq (kRegion K58r11 []) (kSeq (kRegion K58r12 [4]) kRet))))))
theorem enter58 (cl:CallF) (a0 a1:AV) (s:St):enterA Try.prog X cl 58 [a0,a1] s Try.f58=finA Try.prog Try.f58 (K58 cl ⟨58,none,Try.f58.ntmps,X 58⟩ (paramsEnv 0 [a0,a1] .nil) [] s) :=
  enterA_eq (b:=Try.f58.body.getD .skip) (by kernel_rfl) (by kernel_rfl) (by kernel_rfl) (by kernel_rfl) (by kernel_rfl)
def K59r0:OpsF:=(oVal (.tmp 2) (kMove (.con .nilslice)) oNil)
def K59r1:OpsF:=(oVal (.tmp 3) (kMove (.tmp 0)) (oVal (.tmp 4) (kEql .nilS false (.tmp 3) (.con .nilslice)) oNil))
def K59r2:OpsF:=(oVal (.tmp 2) (kMove (.con .nilslice)) oNil)
def K59r3:OpsF:=(oVal (.tmp 5) (kBuildSlice [] 0 []) (oVal (.tmp 6) (kMove (.tmp 0)) (oVal (.tmp 7) (kTwo (appendA false 3 24 (tag 62)) (.tmp 5) (.tmp 6)) (oVal (.tmp 2) (kMove (.tmp 7)) oNil))))
theorem res59:Try.f59.results.toList=[.tmp 2]:=by kernel_rfl
def K59:K:=(kSeq (kRegion K59r0 [2]) (kSeq (kSeq (kRegion K59r1 [4]) (kCond (.tmp 4) (kSeq (kRegion K59r2 [2]) kRet) kSkip)) (kSeq (kRegion K59r3 [2]) kRet)))
theorem enter59 (cl:CallF) (a0:AV) (s:St):enterA Try.prog X cl 59 [a0] s Try.f59=finA Try.prog Try.f59 (K59 cl ⟨59,none,Try.f59.ntmps,X 59⟩ (paramsEnv 0 [a0] .nil) [] s) :=
  enterA_eq (b:=Try.f59.body.getD .skip) (by kernel_rfl) (by kernel_rfl) (by kernel_rfl) (by kernel_rfl) (by kernel_rfl)
def K60r0:OpsF:=(oEnd [] (oVal (.tmp 4) (kLoad none (.tmp 1)) (oVal (.tmp 5) (kUn nilA (.tmp 4)) (oVal (.tmp 6) (kUn (fadA 9) (.tmp 5)) (oVal (.tmp 7) (kLoad none (.tmp 6)) (oVal (.tmp 8) (kLoad none (.tmp 2)) (oVal (.tmp 9) (kInt aLss (.tmp 7) (.tmp 8)) oNil)))))))
def K60r1:OpsF:=(oVal (.tmp 10) (kLoad none (.tmp 1)) (oCall (.tmp 11) (.con (.func 61 [] [])) [(.tmp 10)] oNil))
def K60r2:OpsF:=(oEnd [] (oVal (.tmp 12) (kMove (.tmp 0)) (oVal (.tmp 13) (kLoad none (.tmp 1)) (oVal (.tmp 14) (kUn nilA (.tmp 13)) (oVal (.tmp 15) (kUn (fadA 9) (.tmp 14)) (oVal (.tmp 16) (kLoad none (.tmp 15)) (oVal (.tmp 17) (kLoad none (.tmp 1)) (oVal (.tmp 18) (kUn nilA (.tmp 17)) (oVal (.tmp 19) (kUn (fadA 10) (.tmp 18)) (oVal (.tmp 20) (kLoad (some 2) (.tmp 19)) (oCall (.tmp 21) (.tmp 12) [(.tmp 16),(.tmp 20)] (oVal (.tmp 22) (kUn notA (.tmp 21)) oNil))))))))))))
def K60r3:OpsF:=(oVal (.tmp 23) (kLoad none (.tmp 1)) (oCall (.tmp 24) (.con (.func 62 [] [])) [(.tmp 23)] oNil))
def K60r4:OpsF:=(oVal (.tmp 25) (kLoad none (.tmp 1)) (oVal (.tmp 26) (kUn nilA (.tmp 25)) (oVal (.tmp 27) (kUn (fadA 9) (.tmp 26)) (oVal (.tmp 28) (kLoad none (.tmp 27)) (oVal (.tmp 29) (kInt aAdd (.tmp 28) (.con (.int .i64 1))) (oVal (.tmp 30) (kUn nilA (.tmp 25)) (oVal (.tmp 31) (kUn (fadA 9) (.tmp 30)) (oVal .none (kStore 1 (.tmp 31) (.tmp 29)) oNil))))))))
def K60l0:K:=(kSeq (kSeq (kRegionD K60r0 [9]) (kCond (.tmp 9) kSkip (kExit 0))) (kBlock 1 (kSeq (kRegion K60r1 []) (kSeq (kSeq (kRegionD K60r2 [22]) (kCond (.tmp 22) kRet kSkip)) (kSeq (kRegion K60r3 []) (kRegion K60r4 []))))))
theorem res60:Try.f60.results.toList=[]:=by kernel_rfl
def K60:K:=(kBlock 0 (kLoop K60l0))
theorem enter60 (cl:CallF) (a0 a1 a2:AV) (s:St):enterA Try.prog X cl 60 [a0,a1,a2] s Try.f60=finA Try.prog Try.f60 (K60 cl ⟨60,none,Try.f60.ntmps,X 60⟩ (paramsEnv 0 [a0,a1,a2] .nil) [] s) :=
  enterA_eq (b:=Try.f60.body.getD .skip) (by kernel_rfl) (by kernel_rfl) (by kernel_rfl) (by kernel_rfl) (by kernel_rfl)
def K61r0s19:OpsF:=(oVal (.tmp 21) (kPick (.tmp 8) (.tmp 20) (.con (.bool false))) oNil)
def K61r0s18:OpsF:=(oIf 8 true (oVal (.tmp 20) (kInt aEql (.tmp 15) (.tmp 19)) K61r0s19) (oSkip (.tmp 20) K61r0s19))
def K61r0s17:OpsF:=(oIf 8 true (oVal (.tmp 19) (kLoad none (.tmp 18)) K61r0s18) (oSkip (.tmp 19) K61r0s18))
def K61r0s16:OpsF:=(oIf 8 true (oVal (.tmp 18) (kUn (fadA 9) (.tmp 17)) K61r0s17) (oSkip (.tmp 18) K61r0s17))
def K61r0s15:OpsF:=(oIf 8 true (oVal (.tmp 17) (kUn nilA (.tmp 16)) K61r0s16) (oSkip (.tmp 17) K61r0s16))
def K61r0s14:OpsF:=(oIf 8 true (oVal (.tmp 16) (kMove (.tmp 0)) K61r0s15) (oSkip (.tmp 16) K61r0s15))
def K61r0s13:OpsF:=(oIf 8 true (oVal (.tmp 15) (kLoad none (.tmp 14)) K61r0s14) (oSkip (.tmp 15) K61r0s14))
def K61r0s12:OpsF:=(oIf 8 true (oVal (.tmp 14) (kUn (fadA 1) (.tmp 13)) K61r0s13) (oSkip (.tmp 14) K61r0s13))
def K61r0s11:OpsF:=(oIf 8 true (oVal (.tmp 13) (kTwo (ixsA 3) (.tmp 12) (.con (.int .i64 0))) K61r0s12) (oSkip (.tmp 13) K61r0s12))
def K61r0s10:OpsF:=(oIf 8 true (oVal (.tmp 12) (kLoad none (.tmp 11)) K61r0s11) (oSkip (.tmp 12) K61r0s11))
def K61r0s9:OpsF:=(oIf 8 true (oVal (.tmp 11) (kUn (fadA 12) (.tmp 10)) K61r0s10) (oSkip (.tmp 11) K61r0s10))
def K61r0s8:OpsF:=(oIf 8 true (oVal (.tmp 10) (kUn nilA (.tmp 9)) K61r0s9) (oSkip (.tmp 10) K61r0s9))
def K61r0:OpsF:=(oEnd [] (oVal (.tmp 2) (kMove (.tmp 0)) (oVal (.tmp 3) (kUn nilA (.tmp 2)) (oVal (.tmp 4) (kUn (fadA 12) (.tmp 3)) (oVal (.tmp 5) (kLoad none (.tmp 4)) (oVal (.tmp 6) (kUn lenSlA (.tmp 5)) (oVal (.tmp 7) (kGtr (.tmp 6) (.con (.int .i64 0))) (oVal (.tmp 8) (kMove (.tmp 7)) (oIf 8 true (oVal (.tmp 9) (kMove (.tmp 0)) K61r0s8) (oSkip (.tmp 9) K61r0s8))))))))))
def K61r1:OpsF:=(oVal (.tmp 22) (kMove (.tmp 0)) (oVal (.tmp 23) (kMove (.tmp 0)) (oVal (.tmp 24) (kUn nilA (.tmp 23)) (oVal (.tmp 25) (kUn (fadA 12) (.tmp 24)) (oVal (.tmp 26) (kLoad none (.tmp 25)) (oVal (.tmp 27) (kTwo (ixsA 3) (.tmp 26) (.con (.int .i64 0))) (oVal (.tmp 28) (kUn (fadA 2) (.tmp 27)) (oVal (.tmp 29) (kLoad none (.tmp 28)) (oCall (.tmp 30) (.con (.func 71 [] [])) [(.tmp 22),(.tmp 29)] oNil)))))))))
def K61r2:OpsF:=(oVal (.tmp 31) (kMove (.tmp 0)) (oVal (.tmp 32) (kMove (.tmp 0)) (oVal (.tmp 33) (kUn nilA (.tmp 32)) (oVal (.tmp 34) (kUn (fadA 12) (.tmp 33)) (oVal (.tmp 35) (kLoad none (.tmp 34)) (oVal (.tmp 36) (kSlice (sliceVal 3) (.tmp 35) (some (.con (.int .i64 1))) none) (oVal (.tmp 37) (kUn nilA (.tmp 31)) (oVal (.tmp 38) (kUn (fadA 12) (.tmp 37)) (oVal .none (kStore 1 (.tmp 38) (.tmp 36)) oNil)))))))))
def K61l0:K:=(kSeq (kSeq (kRegionD K61r0 [21]) (kCond (.tmp 21) kSkip (kExit 0))) (kBlock 1 (kSeq (kRegion K61r1 []) (kRegion K61r2 []))))
theorem res61:Try.f61.results.toList=[]:=by kernel_rfl
def K61:K:=(kBlock 0 (kLoop K61l0))
theorem enter61 (cl:CallF) (a0:AV) (s:St):enterA Try.prog X cl 61 [a0] s Try.f61=finA Try.prog Try.f61 (K61 cl ⟨61,none,Try.f61.ntmps,X 61⟩ (paramsEnv 0 [a0] .nil) [] s) :=
  enterA_eq (b:=Try.f61.body.getD .skip) (by kernel_rfl) (by kernel_rfl) (by kernel_rfl) (by kernel_rfl) (by kernel_rfl)
def K62r0:OpsF:=(oEnd [] (oVal (.tmp 2) (kMove (.tmp 0)) (oVal (.tmp 3) (kMove (.tmp 0)) (oVal (.tmp 4) (kUn nilA (.tmp 3)) (oVal (.tmp 5) (kUn (fadA 10) (.tmp 4)) (oVal (.tmp 6) (kTwo (ixaA 2 1) (.tmp 5) (.con (.int .i64 0))) (oVal (.tmp 7) (kLoad none (.tmp 6)) (oVal (.tmp 8) (kMove (.tmp 0)) (oVal (.tmp 9) (kUn nilA (.tmp 8)) (oVal (.tmp 10) (kUn (fadA 0) (.tmp 9)) (oVal (.tmp 11) (kUn (fadA 3) (.tmp 10)) (oVal (.tmp 12) (kUn (fadA 1) (.tmp 11)) (oVal (.tmp 13) (kLoad none (.tmp 12)) (oVal (.tmp 14) (kInt aSub (.tmp 7) (.tmp 13)) (oVal (.tmp 15) (kFold maxA (.con (.int .i64 0)) [(.tmp 14)]) (oVal (.tmp 16) (kUn nilA (.tmp 2)) (oVal (.tmp 17) (kUn (fadA 10) (.tmp 16)) (oVal (.tmp 18) (kTwo (ixaA 2 1) (.tmp 17) (.con (.int .i64 0))) (oVal .none (kStore 1 (.tmp 18) (.tmp 15)) oNil)))))))))))))))))))
def K62r1:OpsF:=(oEnd [] (oVal (.tmp 19) (kMove (.tmp 0)) (oVal (.tmp 20) (kMove (.tmp 0)) (oVal (.tmp 21) (kUn nilA (.tmp 20)) (oVal (.tmp 22) (kUn (fadA 10) (.tmp 21)) (oVal (.tmp 23) (kTwo (ixaA 2 1) (.tmp 22) (.con (.int .i64 1))) (oVal (.tmp 24) (kLoad none (.tmp 23)) (oVal (.tmp 25) (kMove (.tmp 0)) (oVal (.tmp 26) (kUn nilA (.tmp 25)) (oVal (.tmp 27) (kUn (fadA 0) (.tmp 26)) (oVal (.tmp 28) (kUn (fadA 3) (.tmp 27)) (oVal (.tmp 29) (kUn (fadA 0) (.tmp 28)) (oVal (.tmp 30) (kLoad none (.tmp 29)) (oVal (.tmp 31) (kInt aSub (.tmp 24) (.tmp 30)) (oVal (.tmp 32) (kFold maxA (.con (.int .i64 0)) [(.tmp 31)]) (oVal (.tmp 33) (kUn nilA (.tmp 19)) (oVal (.tmp 34) (kUn (fadA 10) (.tmp 33)) (oVal (.tmp 35) (kTwo (ixaA 2 1) (.tmp 34) (.con (.int .i64 1))) (oVal .none (kStore 1 (.tmp 35) (.tmp 32)) oNil)))))))))))))))))))
theorem res62:Try.f62.results.toList=[]:=by kernel_rfl
def K62:K:=(kSeq (kRegionD K62r0 []) (kRegionD K62r1 []))
theorem enter62 (cl:CallF) (a0:AV) (s:St):enterA Try.prog X cl 62 [a0] s Try.f62=finA Try.prog Try.f62 (K62 cl ⟨62,none,Try.f62.ntmps,X 62⟩ (paramsEnv 0 [a0] .nil) [] s) :=
  enterA_eq (b:=Try.f62.body.getD .skip) (by kernel_rfl) (by kernel_rfl) (by kernel_rfl) (by kernel_rfl) (by kernel_rfl)
def K70r0:OpsF:=(oVal (.tmp 4) (kMove (.con (.int .i64 0))) oNil)
def K70r1:OpsF:=(oVal (.tmp 6) (kMove (.tmp 0)) (oVal (.tmp 7) (kUn lenSlA (.tmp 6)) (oVal (.tmp 8) (kMove (.con (.int .i64 0))) oNil)))
def K70r2:OpsF:=(oVal (.tmp 9) (kInt aLss (.tmp 8) (.tmp 7)) oNil)
def K70r3:OpsF:=(oVal (.tmp 10) (kMove (.tmp 8)) (oVal (.tmp 5) (kMove (.tmp 10)) oNil))
def K70r4:OpsF:=(oVal (.tmp 11) (kMove (.tmp 1)) (oVal (.tmp 12) (kMove (.tmp 0)) (oVal (.tmp 13) (kMove (.tmp 5)) (oVal (.tmp 14) (kTwo (ixsA 3) (.tmp 12) (.tmp 13)) (oVal (.tmp 15) (kLoad (some 3) (.tmp 14)) (oCall (.tmp 16) (.tmp 11) [(.tmp 15)] oNil))))))
def K70r5:OpsF:=(oVal (.tmp 17) (kMove (.tmp 5)) (oVal (.tmp 4) (kMove (.tmp 17)) oNil))
def K70r6:OpsF:=(oVal (.tmp 18) (kInt aAdd (.tmp 8) (.con (.int .i64 1))) (oVal (.tmp 8) (kMove (.tmp 18)) oNil))
def K70l0:K:=(kSeq (kRegion K70r2 [9]) (kSeq (kCond (.tmp 9) kSkip (kExit 0)) (kSeq (kBlock 1 (kSeq (kRegion K70r3 [5]) (kSeq (kRegion K70r4 [16]) (kCond (.tmp 16) (kSeq (kRegion K70r5 [4]) kRet) kSkip)))) (kRegion K70r6 [8]))))
def K70r7:OpsF:=(oVal (.tmp 4) (kMove (.con (.int .i64 (-1)))) oNil)
theorem res70:Try.f70.results.toList=[.tmp 4]:=by kernel_rfl
def K70:K:=(kSeq (kRegion K70r0 [4]) (kSeq (kSeq (kRegion K70r1 [7,8]) (kBlock 0 (kLoop K70l0))) (kSeq (kRegion K70r7 [4]) kRet)))
theorem enter70 (cl:CallF) (a0 a1:AV) (s:St):enterA Try.prog X cl 70 [a0,a1] s Try.f70=finA Try.prog Try.f70 (K70 cl ⟨70,none,Try.f70.ntmps,X 70⟩ (paramsEnv 0 [a0,a1] .nil) [] s) :=
  enterA_eq (b:=Try.f70.body.getD .skip) (by kernel_rfl) (by kernel_rfl) (by kernel_rfl) (by kernel_rfl) (by kernel_rfl)
def K71r0:OpsF:=(oVal (.tmp 5) (kMove (.con (.int .i64 0))) oNil)
def K71r1:OpsF:=(oVal (.tmp 6) (kInt aLss (.tmp 5) (.con (.int .i64 2))) oNil)
def K71r2:OpsF:=(oVal (.tmp 7) (kMove (.tmp 5)) (oVal (.tmp 4) (kMove (.tmp 7)) oNil))
def K71r3:OpsF:=(oEnd [] (oVal (.tmp 8) (kMove (.tmp 0)) (oVal (.tmp 9) (kMove (.tmp 4)) (oVal (.tmp 10) (kMove (.tmp 0)) (oVal (.tmp 11) (kMove (.tmp 4)) (oVal (.tmp 12) (kUn nilA (.tmp 10)) (oVal (.tmp 13) (kUn (fadA 10) (.tmp 12)) (oVal (.tmp 14) (kTwo (ixaA 2 1) (.tmp 13) (.tmp 11)) (oVal (.tmp 15) (kLoad none (.tmp 14)) (oVal (.tmp 16) (kMove (.tmp 1)) (oVal (.tmp 17) (kInt aAdd (.tmp 15) (.tmp 16)) (oVal (.tmp 18) (kMove (.tmp 0)) (oVal (.tmp 19) (kUn nilA (.tmp 18)) (oVal (.tmp 20) (kUn (fadA 0) (.tmp 19)) (oVal (.tmp 21) (kUn (fadA 0) (.tmp 20)) (oVal (.tmp 22) (kLoad none (.tmp 21)) (oVal (.tmp 23) (kFold minA (.tmp 17) [(.tmp 22)]) (oVal (.tmp 24) (kUn nilA (.tmp 8)) (oVal (.tmp 25) (kUn (fadA 10) (.tmp 24)) (oVal (.tmp 26) (kTwo (ixaA 2 1) (.tmp 25) (.tmp 9)) (oVal .none (kStore 1 (.tmp 26) (.tmp 23)) oNil)))))))))))))))))))))
def K71r4:OpsF:=(oVal (.tmp 27) (kInt aAdd (.tmp 5) (.con (.int .i64 1))) (oVal (.tmp 5) (kMove (.tmp 27)) oNil))
def K71l0:K:=(kSeq (kRegion K71r1 [6]) (kSeq (kCond (.tmp 6) kSkip (kExit 0)) (kSeq (kBlock 1 (kSeq (kRegion K71r2 [4]) (kRegionD K71r3 []))) (kRegion K71r4 [5]))))
theorem res71:Try.f71.results.toList=[]:=by kernel_rfl
def K71:K:=(kSeq (kRegion K71r0 [5]) (kBlock 0 (kLoop K71l0)))
theorem enter71 (cl:CallF) (a0 a1:AV) (s:St):enterA Try.prog X cl 71 [a0,a1] s Try.f71=finA Try.prog Try.f71 (K71 cl ⟨71,none,Try.f71.ntmps,X 71⟩ (paramsEnv 0 [a0,a1] .nil) [] s) :=
  enterA_eq (b:=Try.f71.body.getD .skip) (by kernel_rfl) (by kernel_rfl) (by kernel_rfl) (by kernel_rfl) (by kernel_rfl)
end
end Go.Proofs.Ytlfalcghhckanaa.code
set_option maxRecDepth 100000
namespace Go.Proofs.Ytlfalcghhckanaa.code
open Go.Abs
noncomputable section
def K26r0:OpsF:=(oVal (.tmp 1) (kBox (tag 31) (.tmp 0)) (oVal (.tmp 2) (kAlloc [(.int .i64 0),(.int .i64 0),.nilslice,.nilslice,.nilslice,.nilslice] (tag 75)) oNil))
def K26r1:OpsF:=(oVal (.tmp 6) (kLoad (some 5) (.tmp 1)) (oVal (.tmp 7) (kBuild [(.int .i64 0),(.int .i64 0),.nilslice,.nilslice,.nilslice,.nilslice] [(0,5,(.tmp 6))]) (oVal (.tmp 3) (kAlloc [(.int .i64 0),(.int .i64 0),.nilslice,.nilslice,.nilslice,.nilslice] (tag 75)) (oVal .none (kStore 6 (.tmp 3) (.tmp 7)) oNil))))
def K26r2:OpsF:=(oVal (.tmp 8) (kUn (fadA 2) (.tmp 1)) (oVal (.tmp 9) (kLoad none (.tmp 8)) (oVal (.tmp 10) (kUn lenSlA (.tmp 9)) (oVal (.tmp 11) (kMove (.con (.int .i64 0))) oNil))))
def K26r3:OpsF:=(oVal (.tmp 12) (kInt aLss (.tmp 11) (.tmp 10)) oNil)
def K26r4:OpsF:=(oVal (.tmp 13) (kMove (.tmp 11)) (oVal (.tmp 4) (kMove (.tmp 13)) oNil))
def K26r5:OpsF:=(oVal (.tmp 14) (kLoad (some 5) (.tmp 1)) (oVal (.tmp 15) (kMove (.tmp 4)) (oCall (.tmp 16) (.con (.func 38 [] [])) [(.tmp 14),(.tmp 15)] (oVal (.tmp 5) (kAlloc [(.int .i64 0),(.int .i64 0),(.int .i64 0),(.int .i64 0),(.int .i64 0),(.int .i64 0),(.int .i64 0),(.int .i64 0),(.int .i64 0),(.int .i64 0),(.int .i64 0),(.int .i64 0),.nilslice] (tag 91)) (oVal .none (kStore 13 (.tmp 5) (.tmp 16)) oNil)))))
def K26r6:OpsF:=(oEnd [] (oVal (.tmp 17) (kUn (fadA 5) (.tmp 3)) (oVal (.tmp 18) (kLoad none (.tmp 17)) (oCallT (some [17]) (.tmp 19) (.con (.func 39 [] [])) [(.tmp 5),(.con (.int .i64 240))] (oVal (.tmp 20) (kFunc 43 [(.tmp 5)] []) (oCallT (some [17]) (.tmp 21) (.con (.func 42 [] [])) [(.tmp 19),(.tmp 20)] (oVal (.tmp 22) (kBuildSlice [.nilslice] 1 [(0,1,(.tmp 21))]) (oVal (.tmp 23) (kTwo (appendA false 1 24 (tag 98)) (.tmp 18) (.tmp 22)) (oVal (.tmp 24) (kUn (fadA 5) (.tmp 3)) (oVal .none (kStore 1 (.tmp 24) (.tmp 23)) oNil))))))))))
def K26r7:OpsF:=(oVal (.tmp 25) (kInt aAdd (.tmp 11) (.con (.int .i64 1))) (oVal (.tmp 11) (kMove (.tmp 25)) oNil))
def K26l0:K:=(kSeq (kRegion K26r3 [12]) (kSeq (kCond (.tmp 12) kSkip (kExit 0)) (kSeq (kBlock 1 (kSeq (kRegion K26r4 [4]) (kSeq (kRegion K26r5 [5]) (kRegionD K26r6 [])))) (kRegion K26r7 [11]))))
def K26r8:OpsF:=(oVal (.tmp 26) (kLoad (some 6) (.tmp 3)) (oVal .none (kStore 6 (.tmp 2) (.tmp 26)) oNil))
theorem res26:Try.f26.results.toList=[.cell 2 75]:=by kernel_rfl
def K26:K:=(kSeq (kRegion K26r0 [1,2]) (kSeq (kRegion K26r1 [3]) (kSeq (kSeq (kRegion K26r2 [10,11]) (kBlock 0 (kLoop K26l0))) (kSeq (kRegion K26r8 []) kRet))))
theorem enter26 (cl:CallF) (a0:AV) (s:St):enterA Try.prog X cl 26 [a0] s Try.f26=finA Try.prog Try.f26 (K26 cl ⟨26,none,Try.f26.ntmps,X 26⟩ (paramsEnv 0 [a0] .nil) [] s) :=
  enterA_eq (b:=Try.f26.body.getD .skip) (by kernel_rfl) (by kernel_rfl) (by kernel_rfl) (by kernel_rfl) (by kernel_rfl)
def K27r0:OpsF:=(oVal (.tmp 3) (kBox (tag 75) (.tmp 0)) (oVal (.tmp 4) (kBox (tag 35) (.tmp 1)) (oVal (.tmp 6) (kAlloc [(.int .i64 0),(.int .i64 0)] (tag 26)) oNil)))
def K27r1:OpsF:=(oEnd [] (oVal (.tmp 7) (kLoad (some 6) (.tmp 3)) (oVal (.tmp 8) (kLoad (some 3) (.tmp 4)) (oVal (.tmp 9) (kMove (.tmp 2)) (oCallT (some [3]) (.tmp 10) (.con (.func 45 [] [])) [(.tmp 7),(.tmp 8),(.tmp 9)] (oVal (.tmp 11) (kLoad (some 6) (.tmp 3)) (oVal (.tmp 12) (kFunc 46 [(.tmp 11)] []) (oCall (.tmp 13) (.con (.func 44 [] [])) [(.tmp 10),(.tmp 12)] (oVal .none (kStore 2 (.tmp 6) (.tmp 13)) oNil)))))))))
theorem res27:Try.f27.results.toList=[.cell 6 26]:=by kernel_rfl
def K27:K:=(kSeq (kRegion K27r0 [3,4,6]) (kSeq (kRegionD K27r1 []) kRet))
theorem enter27 (cl:CallF) (a0 a1 a2:AV) (s:St):enterA Try.prog X cl 27 [a0,a1,a2] s Try.f27=finA Try.prog Try.f27 (K27 cl ⟨27,none,Try.f27.ntmps,X 27⟩ (paramsEnv 0 [a0,a1,a2] .nil) [] s) :=
  enterA_eq (b:=Try.f27.body.getD .skip) (by kernel_rfl) (by kernel_rfl) (by kernel_rfl) (by kernel_rfl) (by kernel_rfl)
def K11r0:OpsF:=(oVal (.tmp 3) (kBox (tag 31) (.tmp 0)) (oVal (.tmp 4) (kBox (tag 35) (.tmp 1)) (oVal (.tmp 6) (kAlloc [(.int .i64 0),(.int .i64 0)] (tag 26)) (oVal (.tmp 7) (kMove (.con (.int .i64 0))) oNil))))
def K11r1:OpsF:=(oEnd [] (oVal (.tmp 9) (kLoad (some 5) (.tmp 3)) (oVal (.tmp 10) (kLoad (some 3) (.tmp 4)) (oCallT (some [15]) (.tmp 11) (.con (.func 23 [] [])) [(.tmp 9),(.tmp 10)] (oVal (.tmp 12) (kMove (.tmp 2)) (oCallT (some [15]) (.tmp 13) (.con (.func 24 [] [])) [(.tmp 12),(.con (.int .i64 0)),(.con (.int .i64 240))] (oVal (.tmp 14) (kMove (.tmp 2)) (oVal (.tmp 15) (kUn (fadA 0) (.tmp 4)) (oVal (.tmp 16) (kLoad none (.tmp 15)) (oVal (.tmp 17) (kInt aGeq (.tmp 14) (.tmp 16)) (oCall (.tmp 18) (.con (.func 25 [] [])) [(.tmp 17),(.con (.int .i64 12))] (oVal (.tmp 19) (kBuildSlice [(.int .i64 0),(.int .i64 0),(.int .i64 0)] 3 [(0,1,(.tmp 11)),(1,1,(.tmp 13)),(2,1,(.tmp 18))]) (oCall (.tmp 20) (.con (.func 22 [] [])) [(.tmp 19)] (oVal (.tmp 8) (kMove (.tmp 20)) oNil))))))))))))))
def K11r2:OpsF:=(oVal (.tmp 21) (kMove (.tmp 8)) (oVal (.tmp 22) (kInt aNeq (.tmp 21) (.con (.int .i64 0))) oNil))
def K11r3:OpsF:=(oVal (.tmp 23) (kBuild [(.int .i64 0),(.int .i64 0)] []) (oVal (.tmp 24) (kMove (.tmp 8)) (oVal .none (kStore 2 (.tmp 6) (.tmp 23)) (oVal (.tmp 7) (kMove (.tmp 24)) oNil))))
def K11r4:OpsF:=(oEnd [] (oVal (.tmp 25) (kLoad (some 5) (.tmp 3)) (oCallT (some [4]) (.tmp 26) (.con (.func 26 [] [])) [(.tmp 25)] (oVal (.tmp 27) (kLoad (some 3) (.tmp 4)) (oVal (.tmp 28) (kMove (.tmp 2)) (oCall (.tmp 29) (.con (.func 27 [] [])) [(.tmp 26),(.tmp 27),(.tmp 28)] (oVal .none (kStore 2 (.tmp 6) (.tmp 29)) (oVal (.tmp 7) (kMove (.con (.int .i64 0))) oNil))))))))
theorem res11:Try.f11.results.toList=[.cell 6 26,.tmp 7]:=by kernel_rfl
def K11:K:=(kSeq (kRegion K11r0 [3,4,6,7]) (kSeq (kRegionD K11r1 [8]) (kSeq (kSeq (kRegion K11r2 [22]) (kCond (.tmp 22) (kSeq (kRegion K11r3 [7]) kRet) kSkip)) (kSeq (kRegionD K11r4 [7]) kRet))))
theorem enter11 (cl:CallF) (a0 a1 a2:AV) (s:St):enterA Try.prog X cl 11 [a0,a1,a2] s Try.f11=finA Try.prog Try.f11 (K11 cl ⟨11,none,Try.f11.ntmps,X 11⟩ (paramsEnv 0 [a0,a1,a2] .nil) [] s) :=
  enterA_eq (b:=Try.f11.body.getD .skip) (by kernel_rfl) (by kernel_rfl) (by kernel_rfl) (by kernel_rfl) (by kernel_rfl)
def K12r0:OpsF:=(oVal (.tmp 3) (kBox (tag 31) (.tmp 0)) (oVal (.tmp 4) (kBox (tag 35) (.tmp 1)) (oVal (.tmp 6) (kMove (.con (.int .i64 0))) (oVal (.tmp 7) (kMove (.con (.int .i64 0))) oNil))))
def K12r1:OpsF:=(oVal (.tmp 11) (kLoad (some 5) (.tmp 3)) (oVal (.tmp 12) (kLoad (some 3) (.tmp 4)) (oVal (.tmp 13) (kMove (.tmp 2)) (oCall (.tmp 14) (.con (.func 11 [] [])) [(.tmp 11),(.tmp 12),(.tmp 13)] (oVal (.tmp 10) (kMove (.tmp 14)) (oVal (.tmp 15) (kUn (extA 0) (.tmp 10)) (oVal (.tmp 16) (kUn (extA 1) (.tmp 10)) (oVal (.tmp 8) (kAlloc [(.int .i64 0),(.int .i64 0)] (tag 26)) (oVal .none (kStore 2 (.tmp 8) (.tmp 15)) (oVal (.tmp 9) (kMove (.tmp 16)) oNil))))))))))
def K12r2:OpsF:=(oVal (.tmp 17) (kMove (.tmp 9)) (oVal (.tmp 18) (kInt aNeq (.tmp 17) (.con (.int .i64 0))) oNil))
def K12r3:OpsF:=(oVal (.tmp 19) (kMove (.tmp 9)) (oVal (.tmp 6) (kMove (.con (.int .i64 0))) (oVal (.tmp 7) (kMove (.tmp 19)) oNil)))
def K12r4:OpsF:=(oVal (.tmp 20) (kUn (fadA 0) (.tmp 8)) (oVal (.tmp 21) (kLoad none (.tmp 20)) (oVal (.tmp 22) (kUn (fadA 1) (.tmp 4)) (oVal (.tmp 23) (kLoad none (.tmp 22)) (oVal (.tmp 24) (kInt aLeq (.tmp 21) (.tmp 23)) (oVal (.tmp 25) (kUn (fadA 1) (.tmp 8)) (oVal (.tmp 26) (kLoad none (.tmp 25)) (oVal (.tmp 27) (kUn (fadA 1) (.tmp 4)) (oVal (.tmp 28) (kLoad none (.tmp 27)) (oVal (.tmp 29) (kInt aLeq (.tmp 26) (.tmp 28)) (oCall (.tmp 30) (.con (.func 28 [] [])) [(.tmp 24),(.tmp 29)] (oVal (.tmp 6) (kMove (.tmp 30)) (oVal (.tmp 7) (kMove (.con (.int .i64 0))) oNil)))))))))))))
theorem res12:Try.f12.results.toList=[.tmp 6,.tmp 7]:=by kernel_rfl
def K12:K:=(kSeq (kRegion K12r0 [3,4,6,7]) (kSeq (kRegion K12r1 [8,9]) (kSeq (kSeq (kRegion K12r2 [18]) (kCond (.tmp 18) (kSeq (kRegion K12r3 [6,7]) kRet) kSkip)) (kSeq (kRegion K12r4 [6,7]) kRet))))
theorem enter12 (cl:CallF) (a0 a1 a2:AV) (s:St):enterA Try.prog X cl 12 [a0,a1,a2] s Try.f12=finA Try.prog Try.f12 (K12 cl ⟨12,none,Try.f12.ntmps,X 12⟩ (paramsEnv 0 [a0,a1,a2] .nil) [] s) :=
  enterA_eq (b:=Try.f12.body.getD .skip) (by kernel_rfl) (by kernel_rfl) (by kernel_rfl) (by kernel_rfl) (by kernel_rfl)
def K42r0:OpsF:=(oVal (.tmp 3) (kBox (tag 100) (.tmp 1)) (oVal (.tmp 4) (kMove (.con .nilslice)) oNil))
def K42r1:OpsF:=(oVal (.tmp 5) (kAlloc [.nilslice] (tag 98)) oNil)
def K42r2:OpsF:=(oVal (.tmp 8) (kMove (.tmp 0)) oNil)
def K42r3:OpsF:=(oVal (.tmp 17) (kLoad none (.tmp 5)) (oVal (.tmp 4) (kMove (.tmp 17)) oNil))
theorem res42:Try.f42.results.toList=[.tmp 4]:=by kernel_rfl
def K42:K:=(kSeq (kRegion K42r0 [3,4]) (kSeq (kRegion K42r1 [5]) (kSeq (kSeq (kRegion K42r2 [8]) (kBlock 0 (kRange (.tmp 8) [9,10] (rangeAt Try.f42 0).1 (rangeAt Try.f42 0).2))) (kSeq (kRegion K42r3 [4]) kRet))))
theorem enter42 (cl:CallF) (a0 a1:AV) (s:St):enterA Try.prog X cl 42 [a0,a1] s Try.f42=finA Try.prog Try.f42 (K42 cl ⟨42,none,Try.f42.ntmps,X 42⟩ (paramsEnv 0 [a0,a1] .nil) [] s) :=
  enterA_eq (b:=Try.f42.body.getD .skip) (by kernel_rfl) (by kernel_rfl) (by kernel_rfl) (by kernel_rfl) (by kernel_rfl)
def K42a0r0:OpsF:=(oVal (.tmp 7) (kAlloc [(.int .i64 0),(.int .i64 0)] (tag 89)) (oVal .none (kStore 2 (.tmp 7) (.tmp 10)) oNil))
def K42a0:K:=(kRegion K42a0r0 [7])
theorem code42a0:codeK Try.prog (X 42) Try.f42.ntmps (rangeAt Try.f42 0).1=some K42a0:=by kernel_rfl
def K42b0r0:OpsF:=(oEnd [] (oVal (.tmp 11) (kLoad none (.tmp 5)) (oVal (.tmp 12) (kLoad none (.tmp 3)) (oVal (.tmp 13) (kLoad (some 2) (.tmp 7)) (oCallT (some [5]) (.tmp 14) (.tmp 12) [(.tmp 13)] (oVal (.tmp 15) (kBuildSlice [(.int .i64 0),(.int .i64 0)] 1 [(0,2,(.tmp 14))]) (oVal (.tmp 16) (kTwo (appendA false 2 16 (tag 89)) (.tmp 11) (.tmp 15)) (oVal .none (kStore 1 (.tmp 5) (.tmp 16)) oNil))))))))
def K42b0:K:=(kBlock 1 (kRegionD K42b0r0 []))
theorem code42b0:codeK Try.prog (X 42) Try.f42.ntmps (rangeAt Try.f42 0).2=some K42b0:=by kernel_rfl
def K43r0:OpsF:=(oVal (.tmp 3) (kBox (tag 89) (.tmp 1)) (oVal (.tmp 4) (kAlloc [(.int .i64 0),(.int .i64 0)] (tag 89)) oNil))
def K43r1:OpsF:=(oVal (.tmp 6) (kMove (.tmp 0)) (oVal (.tmp 7) (kUn nilA (.tmp 6)) (oVal (.tmp 8) (kUn (fadA 0) (.tmp 7)) (oVal (.tmp 9) (kUn (fadA 7) (.tmp 8)) (oVal (.tmp 10) (kLoad (some 2) (.tmp 9)) (oCall (.tmp 11) (.con (.func 57 [] [])) [(.tmp 10)] (oVal (.tmp 5) (kAlloc [(.int .i64 0),(.int .i64 0)] (tag 89)) (oVal .none (kStore 2 (.tmp 5) (.tmp 11)) oNil))))))))
def K43r2:OpsF:=(oVal (.tmp 12) (kTwo (ixaA 2 1) (.tmp 3) (.con (.int .i64 1))) (oVal (.tmp 13) (kLoad none (.tmp 12)) (oVal (.tmp 14) (kGtr (.tmp 13) (.con (.int .i64 0))) oNil)))
def K43r3:OpsF:=(oVal (.tmp 15) (kMove (.tmp 0)) (oVal (.tmp 16) (kUn nilA (.tmp 15)) (oVal (.tmp 17) (kUn (fadA 0) (.tmp 16)) (oVal (.tmp 18) (kUn (fadA 5) (.tmp 17)) (oVal (.tmp 19) (kUn (fadA 0) (.tmp 18)) (oVal (.tmp 20) (kLoad none (.tmp 19)) (oVal (.tmp 21) (kTwo (ixaA 2 1) (.tmp 5) (.con (.int .i64 0))) (oVal .none (kStore 1 (.tmp 21) (.tmp 20)) oNil))))))))
def K43r4:OpsF:=(oVal (.tmp 22) (kTwo (ixaA 2 1) (.tmp 3) (.con (.int .i64 0))) (oVal (.tmp 23) (kLoad none (.tmp 22)) (oVal (.tmp 24) (kGtr (.tmp 23) (.con (.int .i64 0))) oNil)))
def K43r5:OpsF:=(oVal (.tmp 25) (kMove (.tmp 0)) (oVal (.tmp 26) (kUn nilA (.tmp 25)) (oVal (.tmp 27) (kUn (fadA 0) (.tmp 26)) (oVal (.tmp 28) (kUn (fadA 5) (.tmp 27)) (oVal (.tmp 29) (kUn (fadA 1) (.tmp 28)) (oVal (.tmp 30) (kLoad none (.tmp 29)) (oVal (.tmp 31) (kTwo (ixaA 2 1) (.tmp 5) (.con (.int .i64 1))) (oVal .none (kStore 1 (.tmp 31) (.tmp 30)) oNil))))))))
def K43r6:OpsF:=(oVal (.tmp 32) (kLoad (some 2) (.tmp 5)) (oVal .none (kStore 2 (.tmp 4) (.tmp 32)) oNil))
theorem res43:Try.f43.results.toList=[.cell 4 89]:=by kernel_rfl
def K43:K:=(kSeq (kRegion K43r0 [3,4]) (kSeq (kRegion K43r1 [5]) (kSeq (kSeq (kRegion K43r2 [14]) (kCond (.tmp 14) (kRegion K43r3 []) kSkip)) (kSeq (kSeq (kRegion K43r4 [24]) (kCond (.tmp 24) (kRegion K43r5 []) kSkip)) (kSeq (kRegion K43r6 []) kRet)))))
theorem enter43 (cl:CallF) (a0 a1:AV) (s:St):enterA Try.prog X cl 43 [a0,a1] s Try.f43=finA Try.prog Try.f43 (K43 cl ⟨43,none,Try.f43.ntmps,X 43⟩ (paramsEnv 0 [a0,a1] .nil) [] s) :=
  enterA_eq (b:=Try.f43.body.getD .skip) (by kernel_rfl) (by kernel_rfl) (by kernel_rfl) (by kernel_rfl) (by kernel_rfl)
def K44r0:OpsF:=(oVal (.tmp 3) (kBox (tag 100) (.tmp 1)) (oVal (.tmp 4) (kAlloc [(.int .i64 0),(.int .i64 0)] (tag 26)) oNil))
def K44r1:OpsF:=(oVal (.tmp 5) (kAlloc [(.int .i64 0),(.int .i64 0)] (tag 26)) oNil)
def K44r2:OpsF:=(oVal (.tmp 8) (kMove (.tmp 0)) oNil)
def K44r3:OpsF:=(oVal (.tmp 25) (kLoad (some 2) (.tmp 5)) (oVal .none (kStore 2 (.tmp 4) (.tmp 25)) oNil))
theorem res44:Try.f44.results.toList=[.cell 4 26]:=by kernel_rfl
def K44:K:=(kSeq (kRegion K44r0 [3,4]) (kSeq (kRegion K44r1 [5]) (kSeq (kSeq (kRegion K44r2 [8]) (kBlock 0 (kRange (.tmp 8) [9] (rangeAt Try.f44 0).1 (rangeAt Try.f44 0).2))) (kSeq (kRegion K44r3 []) kRet))))
theorem enter44 (cl:CallF) (a0 a1:AV) (s:St):enterA Try.prog X cl 44 [a0,a1] s Try.f44=finA Try.prog Try.f44 (K44 cl ⟨44,none,Try.f44.ntmps,X 44⟩ (paramsEnv 0 [a0,a1] .nil) [] s) :=
  enterA_eq (b:=Try.f44.body.getD .skip) (by kernel_rfl) (by kernel_rfl) (by kernel_rfl) (by kernel_rfl) (by kernel_rfl)
def K44a0r0:OpsF:=(oVal (.tmp 6) (kAlloc [(.int .i64 0),(.int .i64 0)] (tag 89)) (oVal .none (kStore 2 (.tmp 6) (.tmp 9)) oNil))
def K44a0:K:=(kRegion K44a0r0 [6])
theorem code44a0:codeK Try.prog (X 44) Try.f44.ntmps (rangeAt Try.f44 0).1=some K44a0:=by kernel_rfl
def K44b0r0:OpsF:=(oVal (.tmp 10) (kLoad none (.tmp 3)) (oVal (.tmp 11) (kLoad (some 2) (.tmp 6)) (oCall (.tmp 12) (.tmp 10) [(.tmp 11)] (oVal (.tmp 7) (kAlloc [(.int .i64 0),(.int .i64 0)] (tag 89)) (oVal .none (kStore 2 (.tmp 7) (.tmp 12)) oNil)))))
def K44b0r1:OpsF:=(oVal (.tmp 13) (kUn (fadA 0) (.tmp 5)) (oVal (.tmp 14) (kLoad none (.tmp 13)) (oVal (.tmp 15) (kTwo (ixaA 2 1) (.tmp 7) (.con (.int .i64 0))) (oVal (.tmp 16) (kLoad none (.tmp 15)) (oVal (.tmp 17) (kInt aAdd (.tmp 14) (.tmp 16)) (oVal (.tmp 18) (kUn (fadA 0) (.tmp 5)) (oVal .none (kStore 1 (.tmp 18) (.tmp 17)) oNil)))))))
def K44b0r2:OpsF:=(oVal (.tmp 19) (kUn (fadA 1) (.tmp 5)) (oVal (.tmp 20) (kLoad none (.tmp 19)) (oVal (.tmp 21) (kTwo (ixaA 2 1) (.tmp 7) (.con (.int .i64 1))) (oVal (.tmp 22) (kLoad none (.tmp 21)) (oVal (.tmp 23) (kInt aAdd (.tmp 20) (.tmp 22)) (oVal (.tmp 24) (kUn (fadA 1) (.tmp 5)) (oVal .none (kStore 1 (.tmp 24) (.tmp 23)) oNil)))))))
def K44b0:K:=(kBlock 1 (kSeq (kRegion K44b0r0 [7]) (kSeq (kRegion K44b0r1 []) (kRegion K44b0r2 []))))
theorem code44b0:codeK Try.prog (X 44) Try.f44.ntmps (rangeAt Try.f44 0).2=some K44b0:=by kernel_rfl
def K45r0:OpsF:=(oVal (.tmp 3) (kBox (tag 75) (.tmp 0)) (oVal (.tmp 4) (kBox (tag 35) (.tmp 1)) (oVal (.tmp 5) (kBox (tag 3) (.tmp 2)) (oVal (.tmp 6) (kMove (.con .nilfunc)) oNil))))
def K45r1:OpsF:=(oVal (.tmp 7) (kFunc 64 [] [(.tmp 4),(.tmp 5),(.tmp 3)]) (oVal (.tmp 6) (kMove (.tmp 7)) oNil))
theorem res45:Try.f45.results.toList=[.tmp 6]:=by kernel_rfl
def K45:K:=(kSeq (kRegion K45r0 [3,4,5,6]) (kSeq (kRegion K45r1 [6]) kRet))
theorem enter45 (cl:CallF) (a0 a1 a2:AV) (s:St):enterA Try.prog X cl 45 [a0,a1,a2] s Try.f45=finA Try.prog Try.f45 (K45 cl ⟨45,none,Try.f45.ntmps,X 45⟩ (paramsEnv 0 [a0,a1,a2] .nil) [] s) :=
  enterA_eq (b:=Try.f45.body.getD .skip) (by kernel_rfl) (by kernel_rfl) (by kernel_rfl) (by kernel_rfl) (by kernel_rfl)
def K64r0:OpsF:=(oVal (.tmp 6) (kUn (fadA 0) (.tmp 1)) (oVal (.tmp 7) (kLoad none (.tmp 6)) (oVal (.tmp 5) (kMove (.tmp 7)) oNil)))
def K64r1:OpsF:=(oVal (.tmp 8) (kMove (.tmp 5)) (oVal (.tmp 9) (kLoad none (.tmp 2)) (oVal (.tmp 10) (kInt aLss (.tmp 8) (.tmp 9)) oNil)))
def K64r2:OpsF:=(oVal (.tmp 13) (kMove (.tmp 0)) (oVal (.tmp 14) (kLoad (some 6) (.tmp 3)) (oVal (.tmp 15) (kLoad (some 3) (.tmp 1)) (oVal (.tmp 16) (kMove (.tmp 5)) (oCall (.tmp 17) (.con (.func 65 [] [])) [(.tmp 14),(.tmp 15),(.tmp 16)] (oCall (.tmp 18) (.tmp 13) [(.tmp 17)] (oVal (.tmp 19) (kUn notA (.tmp 18)) oNil)))))))
def K64r3:OpsF:=(oVal (.tmp 11) (kMove (.tmp 5)) (oVal (.tmp 12) (kInt aAdd (.tmp 11) (.con (.int .i64 1))) (oVal (.tmp 5) (kMove (.tmp 12)) oNil)))
def K64l0:K:=(kSeq (kSeq (kRegion K64r1 [10]) (kCond (.tmp 10) kSkip (kExit 0))) (kSeq (kBlock 1 (kSeq (kRegion K64r2 [19]) (kCond (.tmp 19) kRet kSkip))) (kRegion K64r3 [5])))
theorem res64:Try.f64.results.toList=[]:=by kernel_rfl
def K64:K:=(kSeq (kRegion K64r0 [5]) (kBlock 0 (kLoop K64l0)))
theorem enter64 (cl:CallF) (a0 a1 a2 a3:AV) (s:St):enterA Try.prog X cl 64 [a0,a1,a2,a3] s Try.f64=finA Try.prog Try.f64 (K64 cl ⟨64,none,Try.f64.ntmps,X 64⟩ (paramsEnv 0 [a0,a1,a2,a3] .nil) [] s) :=
  enterA_eq (b:=Try.f64.body.getD .skip) (by kernel_rfl) (by kernel_rfl) (by kernel_rfl) (by kernel_rfl) (by kernel_rfl)
def K65r0:OpsF:=(oVal (.tmp 3) (kBox (tag 75) (.tmp 0)) (oVal (.tmp 4) (kBox (tag 35) (.tmp 1)) (oVal (.tmp 6) (kAlloc [(.int .i64 0),(.int .i64 0)] (tag 89)) oNil)))
def K65r1:OpsF:=(oVal (.tmp 9) (kUn (fadA 2) (.tmp 4)) (oVal (.tmp 10) (kLoad none (.tmp 9)) (oVal (.tmp 11) (kUn lenSlA (.tmp 10)) (oVal (.tmp 12) (kMove (.con (.int .i64 0))) oNil))))
def K65r2:OpsF:=(oVal (.tmp 13) (kInt aLss (.tmp 12) (.tmp 11)) oNil)
def K65r3:OpsF:=(oVal (.tmp 14) (kTwo (ixsA 3) (.tmp 10) (.tmp 12)) (oVal (.tmp 15) (kLoad (some 3) (.tmp 14)) (oVal (.tmp 8) (kAlloc [(.int .i64 0),(.int .i64 0),(.int .i64 0)] (tag 66)) (oVal .none (kStore 3 (.tmp 8) (.tmp 15)) oNil))))
def K65r4s9:OpsF:=(oVal (.tmp 25) (kPick (.tmp 20) (.tmp 24) (.con (.bool false))) oNil)
def K65r4s8:OpsF:=(oIf 20 true (oVal (.tmp 24) (kInt aLss (.tmp 21) (.tmp 23)) K65r4s9) (oSkip (.tmp 24) K65r4s9))
def K65r4s7:OpsF:=(oIf 20 true (oVal (.tmp 23) (kLoad none (.tmp 22)) K65r4s8) (oSkip (.tmp 23) K65r4s8))
def K65r4s6:OpsF:=(oIf 20 true (oVal (.tmp 22) (kUn (fadA 2) (.tmp 8)) K65r4s7) (oSkip (.tmp 22) K65r4s7))
def K65r4:OpsF:=(oVal (.tmp 16) (kUn (fadA 1) (.tmp 8)) (oVal (.tmp 17) (kLoad none (.tmp 16)) (oVal (.tmp 18) (kMove (.tmp 2)) (oVal (.tmp 19) (kInt aLeq (.tmp 17) (.tmp 18)) (oVal (.tmp 20) (kMove (.tmp 19)) (oIf 20 true (oVal (.tmp 21) (kMove (.tmp 2)) K65r4s6) (oSkip (.tmp 21) K65r4s6)))))))
def K65r5:OpsF:=(oVal (.tmp 26) (kUn (fadA 5) (.tmp 3)) (oVal (.tmp 27) (kLoad none (.tmp 26)) (oVal (.tmp 28) (kUn (fadA 0) (.tmp 8)) (oVal (.tmp 29) (kLoad none (.tmp 28)) (oVal (.tmp 30) (kTwo (ixsA 1) (.tmp 27) (.tmp 29)) (oVal (.tmp 31) (kLoad none (.tmp 30)) (oVal (.tmp 32) (kMove (.tmp 2)) (oVal (.tmp 33) (kTwo (ixsA 2) (.tmp 31) (.tmp 32)) (oVal (.tmp 34) (kLoad (some 2) (.tmp 33)) (oVal .none (kStore 2 (.tmp 6) (.tmp 34)) oNil))))))))))
def K65r6:OpsF:=(oVal (.tmp 35) (kInt aAdd (.tmp 12) (.con (.int .i64 1))) (oVal (.tmp 12) (kMove (.tmp 35)) oNil))
def K65l0:K:=(kSeq (kRegion K65r2 [13]) (kSeq (kCond (.tmp 13) kSkip (kExit 0)) (kSeq (kBlock 1 (kSeq (kRegion K65r3 [8]) (kSeq (kRegion K65r4 [25]) (kCond (.tmp 25) (kSeq (kRegion K65r5 []) kRet) kSkip)))) (kRegion K65r6 [12]))))
def K65r7:OpsF:=(oVal (.tmp 36) (kUn (fadA 0) (.tmp 3)) (oVal (.tmp 37) (kUn (fadA 0) (.tmp 36)) (oVal (.tmp 38) (kLoad (some 2) (.tmp 37)) (oCall (.tmp 39) (.con (.func 57 [] [])) [(.tmp 38)] (oVal .none (kStore 2 (.tmp 6) (.tmp 39)) oNil)))))
theorem res65:Try.f65.results.toList=[.cell 6 89]:=by kernel_rfl
def K65:K:=(kSeq (kRegion K65r0 [3,4,6]) (kSeq (kSeq (kRegion K65r1 [10,11,12]) (kBlock 0 (kLoop K65l0))) (kSeq (kRegion K65r7 []) kRet)))
theorem enter65 (cl:CallF) (a0 a1 a2:AV) (s:St):enterA Try.prog X cl 65 [a0,a1,a2] s Try.f65=finA Try.prog Try.f65 (K65 cl ⟨65,none,Try.f65.ntmps,X 65⟩ (paramsEnv 0 [a0,a1,a2] .nil) [] s) :=
  enterA_eq (b:=Try.f65.body.getD .skip) (by kernel_rfl) (by kernel_rfl) (by kernel_rfl) (by kernel_rfl) (by kernel_rfl)
def K46r0:OpsF:=(oVal (.tmp 2) (kBox (tag 75) (.tmp 0)) (oVal (.tmp 3) (kBox (tag 89) (.tmp 1)) (oVal (.tmp 4) (kAlloc [(.int .i64 0),(.int .i64 0)] (tag 89)) oNil)))
def K46r1:OpsF:=(oVal (.tmp 5) (kAlloc [(.int .i64 0),(.int .i64 0)] (tag 89)) oNil)
def K46r2:OpsF:=(oVal (.tmp 10) (kLoad (some 2) (.tmp 3)) (oVal (.tmp 11) (kMove (.con (.int .i64 0))) oNil))
def K46r3:OpsF:=(oVal (.tmp 12) (kInt aLss (.tmp 11) (.con (.int .i64 2))) oNil)
def K46r4:OpsF:=(oVal (.tmp 13) (kMove (.tmp 11)) (oVal (.tmp 14) (kTwo (indA 2 1 none) (.tmp 10) (.tmp 11)) (oVal (.tmp 6) (kMove (.tmp 13)) (oVal (.tmp 7) (kMove (.tmp 14)) oNil))))
def K46r5:OpsF:=(oVal (.tmp 15) (kUn (fadA 0) (.tmp 2)) (oVal (.tmp 16) (kUn (fadA 4) (.tmp 15)) (oVal (.tmp 17) (kLoad none (.tmp 16)) (oVal (.tmp 18) (kUn lenSlA (.tmp 17)) (oVal (.tmp 19) (kMove (.con (.int .i64 0))) oNil)))))
def K46r6:OpsF:=(oVal (.tmp 20) (kInt aLss (.tmp 19) (.tmp 18)) oNil)
def K46r7:OpsF:=(oVal (.tmp 21) (kTwo (ixsA 2) (.tmp 17) (.tmp 19)) (oVal (.tmp 22) (kLoad (some 2) (.tmp 21)) (oVal (.tmp 9) (kAlloc [(.int .i64 0),(.int .i64 0)] (tag 64)) (oVal .none (kStore 2 (.tmp 9) (.tmp 22)) oNil))))
def K46r8:OpsF:=(oVal (.tmp 23) (kUn (fadA 0) (.tmp 9)) (oVal (.tmp 24) (kLoad none (.tmp 23)) (oVal (.tmp 25) (kMove (.tmp 7)) (oVal (.tmp 26) (kGtr (.tmp 24) (.tmp 25)) oNil))))
def K46r9:OpsF:=(oVal (.tmp 27) (kMove (.tmp 6)) (oVal (.tmp 28) (kUn (fadA 1) (.tmp 9)) (oVal (.tmp 29) (kLoad none (.tmp 28)) (oVal (.tmp 30) (kTwo (ixaA 2 1) (.tmp 5) (.tmp 27)) (oVal .none (kStore 1 (.tmp 30) (.tmp 29)) oNil)))))
def K46r10:OpsF:=(oVal (.tmp 31) (kInt aAdd (.tmp 19) (.con (.int .i64 1))) (oVal (.tmp 19) (kMove (.tmp 31)) oNil))
def K46l0:K:=(kSeq (kRegion K46r6 [20]) (kSeq (kCond (.tmp 20) kSkip (kExit 2)) (kSeq (kBlock 3 (kSeq (kRegion K46r7 [9]) (kSeq (kSeq (kRegion K46r8 [26]) (kCond (.tmp 26) (kExit 1) kSkip)) (kRegion K46r9 [])))) (kRegion K46r10 [19]))))
def K46r11:OpsF:=(oVal (.tmp 32) (kInt aAdd (.tmp 11) (.con (.int .i64 1))) (oVal (.tmp 11) (kMove (.tmp 32)) oNil))
def K46l1:K:=(kSeq (kRegion K46r3 [12]) (kSeq (kCond (.tmp 12) kSkip (kExit 0)) (kSeq (kBlock 1 (kSeq (kRegion K46r4 [6,7]) (kSeq (kRegion K46r5 [17,18,19]) (kBlock 2 (kLoop K46l0))))) (kRegion K46r11 [11]))))
def K46r12:OpsF:=(oVal (.tmp 33) (kLoad (some 2) (.tmp 5)) (oVal .none (kStore 2 (.tmp 4) (.tmp 33)) oNil))
theorem res46:Try.f46.results.toList=[.cell 4 89]:=by kernel_rfl
def K46:K:=(kSeq (kRegion K46r0 [2,3,4]) (kSeq (kRegion K46r1 [5]) (kSeq kSkip (kSeq (kSeq (kRegion K46r2 [10,11]) (kBlock 0 (kLoop K46l1))) (kSeq (kRegion K46r12 []) kRet)))))
theorem enter46 (cl:CallF) (a0 a1:AV) (s:St):enterA Try.prog X cl 46 [a0,a1] s Try.f46=finA Try.prog Try.f46 (K46 cl ⟨46,none,Try.f46.ntmps,X 46⟩ (paramsEnv 0 [a0,a1] .nil) [] s) :=
  enterA_eq (b:=Try.f46.body.getD .skip) (by kernel_rfl) (by kernel_rfl) (by kernel_rfl) (by kernel_rfl) (by kernel_rfl)
end
end Go.Proofs.Ytlfalcghhckanaa.code
set_option maxRecDepth 100000
namespace Go.Proofs.Ytlfalcghhckanaa.code
open Go.Abs
noncomputable section
def K17r0:OpsF:=(oVal (.tmp 2) (kMove (.con (.int .u64 0))) oNil)
def K17r1:OpsF:=(oVal (.tmp 4) (kMove (.tmp 0)) (oVal (.tmp 5) (kMove (.tmp 0)) (oVal (.tmp 6) (kUn nilA (.tmp 5)) (oVal (.tmp 7) (kUn (fadA 0) (.tmp 6)) (oVal (.tmp 8) (kLoad none (.tmp 7)) (oVal (.tmp 9) (kInt aAdd (.tmp 8) (.con (.int .u64 11562461410679940143))) (oVal (.tmp 10) (kUn nilA (.tmp 4)) (oVal (.tmp 11) (kUn (fadA 0) (.tmp 10)) (oVal .none (kStore 1 (.tmp 11) (.tmp 9)) oNil)))))))))
def K17r2:OpsF:=(oVal (.tmp 12) (kMove (.tmp 0)) (oVal (.tmp 13) (kUn nilA (.tmp 12)) (oVal (.tmp 14) (kUn (fadA 0) (.tmp 13)) (oVal (.tmp 15) (kLoad none (.tmp 14)) (oVal (.tmp 3) (kMove (.tmp 15)) oNil)))))
def K17r3:OpsF:=(oVal (.tmp 16) (kMove (.tmp 3)) (oVal (.tmp 17) (kMove (.tmp 3)) (oVal (.tmp 18) (kShr (.tmp 17) (.con (.int .u64 30))) (oVal (.tmp 19) (kInt aXor (.tmp 16) (.tmp 18)) (oVal (.tmp 20) (kInt aMul (.tmp 19) (.con (.int .u64 13787848793156543929))) (oVal (.tmp 3) (kMove (.tmp 20)) oNil))))))
def K17r4:OpsF:=(oVal (.tmp 21) (kMove (.tmp 3)) (oVal (.tmp 22) (kMove (.tmp 3)) (oVal (.tmp 23) (kShr (.tmp 22) (.con (.int .u64 27))) (oVal (.tmp 24) (kInt aXor (.tmp 21) (.tmp 23)) (oVal (.tmp 25) (kInt aMul (.tmp 24) (.con (.int .u64 10723151780598845931))) (oVal (.tmp 3) (kMove (.tmp 25)) oNil))))))
def K17r5:OpsF:=(oVal (.tmp 26) (kMove (.tmp 3)) (oVal (.tmp 27) (kMove (.tmp 3)) (oVal (.tmp 28) (kShr (.tmp 27) (.con (.int .u64 31))) (oVal (.tmp 29) (kInt aXor (.tmp 26) (.tmp 28)) (oVal (.tmp 2) (kMove (.tmp 29)) oNil)))))
theorem res17:Try.f17.results.toList=[.tmp 2]:=by kernel_rfl
def K17:K:=(kSeq (kRegion K17r0 [2]) (kSeq (kRegion K17r1 []) (kSeq (kRegion K17r2 [3]) (kSeq (kRegion K17r3 [3]) (kSeq (kRegion K17r4 [3]) (kSeq (kRegion K17r5 [2]) kRet))))))
theorem enter17 (cl:CallF) (a0:AV) (s:St):enterA Try.prog X cl 17 [a0] s Try.f17=finA Try.prog Try.f17 (K17 cl ⟨17,none,Try.f17.ntmps,X 17⟩ (paramsEnv 0 [a0] .nil) [] s) :=
  enterA_eq (b:=Try.f17.body.getD .skip) (by kernel_rfl) (by kernel_rfl) (by kernel_rfl) (by kernel_rfl) (by kernel_rfl)
def K8r0:OpsF:=(oVal (.tmp 4) (kMove (.con (.int .i64 0))) oNil)
def K8r1:OpsF:=(oVal (.tmp 5) (kMove (.tmp 1)) (oVal (.tmp 6) (kInt aLss (.tmp 5) (.con (.int .i64 2))) oNil))
def K8r2:OpsF:=(oVal (.tmp 4) (kMove (.con (.int .i64 0))) oNil)
def K8r3:OpsF:=(oVal (.tmp 7) (kMove (.tmp 0)) (oCall (.tmp 8) (.con (.func 17 [] [])) [(.tmp 7)] (oVal (.tmp 9) (kShr (.tmp 8) (.con (.int .u64 2))) (oVal (.tmp 10) (kMove (.tmp 1)) (oVal (.tmp 11) (kUn (cviA .u64) (.tmp 10)) (oVal (.tmp 12) (kInt aRem (.tmp 9) (.tmp 11)) (oVal (.tmp 13) (kUn (cviA .i64) (.tmp 12)) (oVal (.tmp 4) (kMove (.tmp 13)) oNil))))))))
theorem res8:Try.f8.results.toList=[.tmp 4]:=by kernel_rfl
def K8:K:=(kSeq (kRegion K8r0 [4]) (kSeq (kSeq (kRegion K8r1 [6]) (kCond (.tmp 6) (kSeq (kRegion K8r2 [4]) kRet) kSkip)) (kSeq (kRegion K8r3 [4]) kRet)))
theorem enter8 (cl:CallF) (a0 a1:AV) (s:St):enterA Try.prog X cl 8 [a0,a1] s Try.f8=finA Try.prog Try.f8 (K8 cl ⟨8,none,Try.f8.ntmps,X 8⟩ (paramsEnv 0 [a0,a1] .nil) [] s) :=
  enterA_eq (b:=Try.f8.body.getD .skip) (by kernel_rfl) (by kernel_rfl) (by kernel_rfl) (by kernel_rfl) (by kernel_rfl)
def K19r0:OpsF:=(oVal (.tmp 6) (kMove (.con (.int .i64 0))) oNil)
def K19r1:OpsF:=(oVal (.tmp 7) (kMove (.tmp 1)) (oVal (.tmp 8) (kMove (.tmp 0)) (oVal (.tmp 9) (kMove (.tmp 2)) (oVal (.tmp 10) (kMove (.tmp 1)) (oVal (.tmp 11) (kInt aSub (.tmp 9) (.tmp 10)) (oVal (.tmp 12) (kInt aAdd (.tmp 11) (.con (.int .i64 1))) (oCall (.tmp 13) (.con (.func 8 [] [])) [(.tmp 8),(.tmp 12)] (oVal (.tmp 14) (kInt aAdd (.tmp 7) (.tmp 13)) (oVal (.tmp 6) (kMove (.tmp 14)) oNil)))))))))
theorem res19:Try.f19.results.toList=[.tmp 6]:=by kernel_rfl
def K19:K:=(kSeq (kRegion K19r0 [6]) (kSeq (kRegion K19r1 [6]) kRet))
theorem enter19 (cl:CallF) (a0 a1 a2:AV) (s:St):enterA Try.prog X cl 19 [a0,a1,a2] s Try.f19=finA Try.prog Try.f19 (K19 cl ⟨19,none,Try.f19.ntmps,X 19⟩ (paramsEnv 0 [a0,a1,a2] .nil) [] s) :=
  enterA_eq (b:=Try.f19.body.getD .skip) (by kernel_rfl) (by kernel_rfl) (by kernel_rfl) (by kernel_rfl) (by kernel_rfl)
def K20r0:OpsF:=(oVal (.tmp 4) (kMove (.con (.int .i64 0))) oNil)
def K20r1:OpsF:=(oVal (.tmp 5) (kMove (.tmp 1)) (oVal (.tmp 6) (kUn lenSlA (.tmp 5)) (oVal (.tmp 7) (kInt aEql (.tmp 6) (.con (.int .i64 0))) oNil)))
def K20r2:OpsF:=(oVal (.tmp 4) (kMove (.con (.int .i64 0))) oNil)
def K20r3:OpsF:=(oVal (.tmp 8) (kMove (.tmp 1)) (oVal (.tmp 9) (kMove (.tmp 0)) (oVal (.tmp 10) (kMove (.tmp 1)) (oVal (.tmp 11) (kUn lenSlA (.tmp 10)) (oCall (.tmp 12) (.con (.func 8 [] [])) [(.tmp 9),(.tmp 11)] (oVal (.tmp 13) (kTwo (ixsA 1) (.tmp 8) (.tmp 12)) (oVal (.tmp 14) (kLoad none (.tmp 13)) (oVal (.tmp 4) (kMove (.tmp 14)) oNil))))))))
theorem res20:Try.f20.results.toList=[.tmp 4]:=by kernel_rfl
def K20:K:=(kSeq (kRegion K20r0 [4]) (kSeq (kSeq (kRegion K20r1 [7]) (kCond (.tmp 7) (kSeq (kRegion K20r2 [4]) kRet) kSkip)) (kSeq (kRegion K20r3 [4]) kRet)))
theorem enter20 (cl:CallF) (a0 a1:AV) (s:St):enterA Try.prog X cl 20 [a0,a1] s Try.f20=finA Try.prog Try.f20 (K20 cl ⟨20,none,Try.f20.ntmps,X 20⟩ (paramsEnv 0 [a0,a1] .nil) [] s) :=
  enterA_eq (b:=Try.f20.body.getD .skip) (by kernel_rfl) (by kernel_rfl) (by kernel_rfl) (by kernel_rfl) (by kernel_rfl)
def K18r0:OpsF:=(oVal (.tmp 6) (kAlloc [(.int .i64 0),(.int .i64 0)] (tag 26)) oNil)
def K18r1:OpsF:=(oVal (.tmp 9) (kMove (.tmp 0)) (oVal (.tmp 10) (kMove (.tmp 1)) (oVal (.tmp 11) (kMove (.tmp 2)) (oCall (.tmp 12) (.con (.func 19 [] [])) [(.tmp 9),(.tmp 10),(.tmp 11)] (oVal (.tmp 7) (kMove (.tmp 12)) oNil)))))
def K18r2:OpsF:=(oVal (.tmp 13) (kMove (.tmp 0)) (oVal (.tmp 14) (kMove (.tmp 7)) (oVal (.tmp 15) (kMove (.tmp 2)) (oVal (.tmp 16) (kMove (.tmp 7)) (oVal (.tmp 17) (kInt aAdd (.tmp 16) (.con (.int .i64 4))) (oVal (.tmp 18) (kFold minA (.tmp 15) [(.tmp 17)]) (oVal (.tmp 19) (kMove (.tmp 2)) (oVal (.tmp 20) (kBuildSlice [(.int .i64 0),(.int .i64 0),(.int .i64 0)] 3 [(0,1,(.tmp 14)),(1,1,(.tmp 18)),(2,1,(.tmp 19))]) (oCall (.tmp 21) (.con (.func 20 [] [])) [(.tmp 13),(.tmp 20)] (oVal (.tmp 8) (kMove (.tmp 21)) oNil))))))))))
def K18r3:OpsF:=(oVal (.tmp 22) (kMove (.tmp 7)) (oVal (.tmp 23) (kMove (.tmp 0)) (oVal (.tmp 24) (kMove (.tmp 7)) (oVal (.tmp 25) (kMove (.tmp 8)) (oCall (.tmp 26) (.con (.func 19 [] [])) [(.tmp 23),(.tmp 24),(.tmp 25)] (oVal (.tmp 27) (kBuild [(.int .i64 0),(.int .i64 0)] [(0,1,(.tmp 22)),(1,1,(.tmp 26))]) (oVal .none (kStore 2 (.tmp 6) (.tmp 27)) oNil)))))))
theorem res18:Try.f18.results.toList=[.cell 6 26]:=by kernel_rfl
def K18:K:=(kSeq (kRegion K18r0 [6]) (kSeq (kRegion K18r1 [7]) (kSeq (kRegion K18r2 [8]) (kSeq (kRegion K18r3 []) kRet))))
theorem enter18 (cl:CallF) (a0 a1 a2:AV) (s:St):enterA Try.prog X cl 18 [a0,a1,a2] s Try.f18=finA Try.prog Try.f18 (K18 cl ⟨18,none,Try.f18.ntmps,X 18⟩ (paramsEnv 0 [a0,a1,a2] .nil) [] s) :=
  enterA_eq (b:=Try.f18.body.getD .skip) (by kernel_rfl) (by kernel_rfl) (by kernel_rfl) (by kernel_rfl) (by kernel_rfl)
def K21r0:OpsF:=(oVal (.tmp 3) (kBox (tag 26) (.tmp 1)) (oVal (.tmp 4) (kMove (.con (.int .i64 0))) oNil))
def K21r1:OpsF:=(oEnd [] (oVal (.tmp 5) (kMove (.tmp 0)) (oVal (.tmp 6) (kUn (fadA 0) (.tmp 3)) (oVal (.tmp 7) (kLoad none (.tmp 6)) (oVal (.tmp 8) (kUn (fadA 1) (.tmp 3)) (oVal (.tmp 9) (kLoad none (.tmp 8)) (oVal (.tmp 10) (kMove (.tmp 0)) (oVal (.tmp 11) (kUn (fadA 0) (.tmp 3)) (oVal (.tmp 12) (kLoad none (.tmp 11)) (oVal (.tmp 13) (kUn (fadA 1) (.tmp 3)) (oVal (.tmp 14) (kLoad none (.tmp 13)) (oCallT (some [6,8,17,19]) (.tmp 15) (.con (.func 19 [] [])) [(.tmp 10),(.tmp 12),(.tmp 14)] (oVal (.tmp 16) (kMove (.tmp 0)) (oVal (.tmp 17) (kUn (fadA 0) (.tmp 3)) (oVal (.tmp 18) (kLoad none (.tmp 17)) (oVal (.tmp 19) (kUn (fadA 1) (.tmp 3)) (oVal (.tmp 20) (kLoad none (.tmp 19)) (oCallT (some [6,8]) (.tmp 21) (.con (.func 19 [] [])) [(.tmp 16),(.tmp 18),(.tmp 20)] (oVal (.tmp 22) (kBuildSlice [(.int .i64 0),(.int .i64 0),(.int .i64 0),(.int .i64 0)] 4 [(0,1,(.tmp 7)),(1,1,(.tmp 9)),(2,1,(.tmp 15)),(3,1,(.tmp 21))]) (oCall (.tmp 23) (.con (.func 20 [] [])) [(.tmp 5),(.tmp 22)] (oVal (.tmp 4) (kMove (.tmp 23)) oNil)))))))))))))))))))))
theorem res21:Try.f21.results.toList=[.tmp 4]:=by kernel_rfl
def K21:K:=(kSeq (kRegion K21r0 [3,4]) (kSeq (kRegionD K21r1 [4]) kRet))
theorem enter21 (cl:CallF) (a0 a1:AV) (s:St):enterA Try.prog X cl 21 [a0,a1] s Try.f21=finA Try.prog Try.f21 (K21 cl ⟨21,none,Try.f21.ntmps,X 21⟩ (paramsEnv 0 [a0,a1] .nil) [] s) :=
  enterA_eq (b:=Try.f21.body.getD .skip) (by kernel_rfl) (by kernel_rfl) (by kernel_rfl) (by kernel_rfl) (by kernel_rfl)
def K10r0:OpsF:=(oVal (.tmp 3) (kBox (tag 26) (.tmp 1)) (oVal (.tmp 4) (kAlloc [(.int .i64 0),(.int .i64 0)] (tag 26)) oNil))
def K10r1:OpsF:=(oEnd [] (oVal (.tmp 7) (kMove (.tmp 0)) (oVal (.tmp 8) (kLoad (some 2) (.tmp 3)) (oCallT (some [3]) (.tmp 9) (.con (.func 21 [] [])) [(.tmp 7),(.tmp 8)] (oVal (.tmp 10) (kMove (.tmp 0)) (oVal (.tmp 11) (kLoad (some 2) (.tmp 3)) (oCall (.tmp 12) (.con (.func 21 [] [])) [(.tmp 10),(.tmp 11)] (oVal (.tmp 5) (kMove (.tmp 9)) (oVal (.tmp 6) (kMove (.tmp 12)) oNil)))))))))
def K10r2:OpsF:=(oVal (.tmp 13) (kMove (.tmp 5)) (oVal (.tmp 14) (kMove (.tmp 6)) (oVal (.tmp 15) (kFold minA (.tmp 13) [(.tmp 14)]) (oVal (.tmp 16) (kMove (.tmp 5)) (oVal (.tmp 17) (kMove (.tmp 6)) (oVal (.tmp 18) (kFold maxA (.tmp 16) [(.tmp 17)]) (oVal (.tmp 19) (kBuild [(.int .i64 0),(.int .i64 0)] [(0,1,(.tmp 15)),(1,1,(.tmp 18))]) (oVal .none (kStore 2 (.tmp 4) (.tmp 19)) oNil))))))))
theorem res10:Try.f10.results.toList=[.cell 4 26]:=by kernel_rfl
def K10:K:=(kSeq (kRegion K10r0 [3,4]) (kSeq (kRegionD K10r1 [5,6]) (kSeq (kRegion K10r2 []) kRet)))
theorem enter10 (cl:CallF) (a0 a1:AV) (s:St):enterA Try.prog X cl 10 [a0,a1] s Try.f10=finA Try.prog Try.f10 (K10 cl ⟨10,none,Try.f10.ntmps,X 10⟩ (paramsEnv 0 [a0,a1] .nil) [] s) :=
  enterA_eq (b:=Try.f10.body.getD .skip) (by kernel_rfl) (by kernel_rfl) (by kernel_rfl) (by kernel_rfl) (by kernel_rfl)
end
end Go.Proofs.Ytlfalcghhckanaa.code
set_option maxRecDepth 100000
namespace Go.Proofs.Ytlfalcghhckanaa.code
open Go.Abs
noncomputable section
def K5r0:OpsF:=(oVal (.tmp 6) (kAlloc [(.int .i64 0),(.int .i64 0),.nilslice,.nilslice,.nilslice] (tag 31)) oNil)
def K5r1:OpsF:=(oVal (.tmp 16) (kMove (.tmp 0)) (oCall (.tmp 17) (.con (.func 18 [] [])) [(.tmp 16),(.con (.int .i64 (-20))),(.con (.int .i64 200))] (oVal (.tmp 18) (kBuild [(.int .i64 0),(.int .i64 0),.nilslice,.nilslice,.nilslice] [(0,2,(.tmp 17))]) (oVal (.tmp 7) (kAlloc [(.int .i64 0),(.int .i64 0),.nilslice,.nilslice,.nilslice] (tag 31)) (oVal .none (kStore 5 (.tmp 7) (.tmp 18)) oNil)))))
def K5r2:OpsF:=(oVal (.tmp 19) (kMove (.tmp 0)) (oVal (.tmp 20) (kMove (.tmp 1)) (oVal (.tmp 21) (kInt aAdd (.tmp 20) (.con (.int .i64 1))) (oCall (.tmp 22) (.con (.func 8 [] [])) [(.tmp 19),(.tmp 21)] (oVal (.tmp 8) (kMove (.tmp 22)) oNil)))))
def K5r3:OpsF:=(oVal (.tmp 23) (kMove (.tmp 8)) (oVal (.tmp 24) (kGtr (.tmp 23) (.con (.int .i64 0))) oNil))
def K5r4:OpsF:=(oVal (.tmp 27) (kMove (.tmp 0)) (oVal (.tmp 28) (kMove (.tmp 0)) (oVal (.tmp 29) (kBuildSlice [(.int .i64 0),(.int .i64 0)] 2 [(0,1,(.con (.int .i64 30))),(1,1,(.con (.int .i64 500)))]) (oCall (.tmp 30) (.con (.func 20 [] [])) [(.tmp 28),(.tmp 29)] (oCall (.tmp 31) (.con (.func 19 [] [])) [(.tmp 27),(.con (.int .i64 1)),(.tmp 30)] (oVal (.tmp 32) (kBuild [(.int .i64 0),(.int .i64 0),(.int .i64 0),(.int .i64 0),(.int .i64 0),(.int .i64 0),(.int .i64 0),(.int .i64 0),(.int .i64 0)] [(0,1,(.tmp 31))]) (oVal (.tmp 9) (kAlloc [(.int .i64 0),(.int .i64 0),(.int .i64 0),(.int .i64 0),(.int .i64 0),(.int .i64 0),(.int .i64 0),(.int .i64 0),(.int .i64 0)] (tag 43)) (oVal .none (kStore 9 (.tmp 9) (.tmp 32)) oNil))))))))
def K5r5:OpsF:=(oEnd [] (oVal (.tmp 33) (kMove (.tmp 0)) (oVal (.tmp 34) (kUn (fadA 0) (.tmp 9)) (oVal (.tmp 35) (kLoad none (.tmp 34)) (oCallT (some [39]) (.tmp 36) (.con (.func 18 [] [])) [(.tmp 33),(.con (.int .i64 0)),(.tmp 35)] (oVal (.tmp 37) (kMove (.tmp 0)) (oVal (.tmp 38) (kMove (.tmp 0)) (oVal (.tmp 39) (kUn (fadA 0) (.tmp 9)) (oVal (.tmp 40) (kLoad none (.tmp 39)) (oVal (.tmp 41) (kInt aQuo (.tmp 40) (.con (.int .i64 4))) (oVal (.tmp 42) (kInt aAdd (.con (.int .i64 1)) (.tmp 41)) (oVal (.tmp 43) (kBuildSlice [(.int .i64 0),(.int .i64 0)] 2 [(0,1,(.con (.int .i64 2))),(1,1,(.tmp 42))]) (oCall (.tmp 44) (.con (.func 20 [] [])) [(.tmp 38),(.tmp 43)] (oCall (.tmp 45) (.con (.func 18 [] [])) [(.tmp 37),(.con (.int .i64 0)),(.tmp 44)] (oVal (.tmp 46) (kUn (fadA 1) (.tmp 9)) (oVal .none (kStore 2 (.tmp 46) (.tmp 36)) (oVal (.tmp 47) (kUn (fadA 3) (.tmp 9)) (oVal .none (kStore 2 (.tmp 47) (.tmp 45)) oNil))))))))))))))))))
def K5r6:OpsF:=(oVal (.tmp 48) (kMove (.tmp 0)) (oCall (.tmp 49) (.con (.func 18 [] [])) [(.tmp 48),(.con (.int .i64 (-50))),(.con (.int .i64 30))] (oVal (.tmp 50) (kUn (fadA 5) (.tmp 9)) (oVal .none (kStore 2 (.tmp 50) (.tmp 49)) oNil))))
def K5r7:OpsF:=(oVal (.tmp 51) (kMove (.tmp 0)) (oVal (.tmp 52) (kUn (fadA 5) (.tmp 9)) (oVal (.tmp 53) (kUn (fadA 1) (.tmp 52)) (oVal (.tmp 54) (kLoad none (.tmp 53)) (oVal (.tmp 55) (kUn (fadA 5) (.tmp 9)) (oVal (.tmp 56) (kUn (fadA 1) (.tmp 55)) (oVal (.tmp 57) (kLoad none (.tmp 56)) (oVal (.tmp 58) (kInt aAdd (.tmp 57) (.con (.int .i64 120))) (oCall (.tmp 59) (.con (.func 18 [] [])) [(.tmp 51),(.tmp 54),(.tmp 58)] (oVal (.tmp 60) (kUn (fadA 7) (.tmp 9)) (oVal .none (kStore 2 (.tmp 60) (.tmp 59)) oNil)))))))))))
def K5r8:OpsF:=(oVal (.tmp 61) (kUn (fadA 2) (.tmp 7)) (oVal (.tmp 62) (kLoad none (.tmp 61)) (oVal (.tmp 63) (kLoad (some 9) (.tmp 9)) (oVal (.tmp 64) (kBuildSlice [(.int .i64 0),(.int .i64 0),(.int .i64 0),(.int .i64 0),(.int .i64 0),(.int .i64 0),(.int .i64 0),(.int .i64 0),(.int .i64 0)] 1 [(0,9,(.tmp 63))]) (oVal (.tmp 65) (kTwo (appendA false 9 72 (tag 43)) (.tmp 62) (.tmp 64)) (oVal (.tmp 66) (kUn (fadA 2) (.tmp 7)) (oVal .none (kStore 1 (.tmp 66) (.tmp 65)) oNil)))))))
def K5r9:OpsF:=(oVal (.tmp 25) (kMove (.tmp 8)) (oVal (.tmp 26) (kInt aSub (.tmp 25) (.con (.int .i64 1))) (oVal (.tmp 8) (kMove (.tmp 26)) oNil)))
def K5l0:K:=(kSeq (kSeq (kRegion K5r3 [24]) (kCond (.tmp 24) kSkip (kExit 0))) (kSeq (kBlock 1 (kSeq (kRegion K5r4 [9]) (kSeq (kRegionD K5r5 []) (kSeq (kRegion K5r6 []) (kSeq (kRegion K5r7 []) (kRegion K5r8 [])))))) (kRegion K5r9 [8])))
def K5r10:OpsF:=(oVal (.tmp 10) (kMove (.con (.int .i64 0))) oNil)
def K5r11:OpsF:=(oVal (.tmp 67) (kMove (.tmp 0)) (oVal (.tmp 68) (kMove (.tmp 2)) (oVal (.tmp 69) (kInt aAdd (.tmp 68) (.con (.int .i64 1))) (oCall (.tmp 70) (.con (.func 8 [] [])) [(.tmp 67),(.tmp 69)] (oVal (.tmp 11) (kMove (.tmp 70)) oNil)))))
def K5r12s7:OpsF:=(oVal (.tmp 78) (kPick (.tmp 73) (.tmp 77) (.con (.bool false))) oNil)
def K5r12s6:OpsF:=(oIf 73 true (oVal (.tmp 77) (kGtr (.tmp 76) (.con (.int .i64 0))) K5r12s7) (oSkip (.tmp 77) K5r12s7))
def K5r12s5:OpsF:=(oIf 73 true (oVal (.tmp 76) (kUn lenSlA (.tmp 75)) K5r12s6) (oSkip (.tmp 76) K5r12s6))
def K5r12s4:OpsF:=(oIf 73 true (oVal (.tmp 75) (kLoad none (.tmp 74)) K5r12s5) (oSkip (.tmp 75) K5r12s5))
def K5r12:OpsF:=(oVal (.tmp 71) (kMove (.tmp 11)) (oVal (.tmp 72) (kGtr (.tmp 71) (.con (.int .i64 0))) (oVal (.tmp 73) (kMove (.tmp 72)) (oIf 73 true (oVal (.tmp 74) (kUn (fadA 2) (.tmp 7)) K5r12s4) (oSkip (.tmp 74) K5r12s4)))))
def K5r13:OpsF:=(oVal (.tmp 81) (kMove (.tmp 10)) (oVal (.tmp 82) (kMove (.tmp 0)) (oCall (.tmp 83) (.con (.func 8 [] [])) [(.tmp 82),(.con (.int .i64 6))] (oVal (.tmp 84) (kInt aAdd (.tmp 81) (.tmp 83)) (oVal (.tmp 10) (kMove (.tmp 84)) oNil)))))
def K5r14:OpsF:=(oVal (.tmp 85) (kMove (.tmp 0)) (oVal (.tmp 86) (kUn (fadA 2) (.tmp 7)) (oVal (.tmp 87) (kLoad none (.tmp 86)) (oVal (.tmp 88) (kUn lenSlA (.tmp 87)) (oCall (.tmp 89) (.con (.func 8 [] [])) [(.tmp 85),(.tmp 88)] (oVal (.tmp 12) (kMove (.tmp 89)) oNil))))))
def K5r15:OpsF:=(oEnd [] (oVal (.tmp 90) (kUn (fadA 3) (.tmp 7)) (oVal (.tmp 91) (kLoad none (.tmp 90)) (oVal (.tmp 92) (kMove (.tmp 12)) (oVal (.tmp 93) (kMove (.tmp 10)) (oVal (.tmp 94) (kMove (.tmp 0)) (oVal (.tmp 95) (kUn (fadA 2) (.tmp 7)) (oVal (.tmp 96) (kLoad none (.tmp 95)) (oVal (.tmp 97) (kMove (.tmp 12)) (oVal (.tmp 98) (kTwo (ixsA 9) (.tmp 96) (.tmp 97)) (oVal (.tmp 99) (kUn (fadA 0) (.tmp 98)) (oVal (.tmp 100) (kLoad none (.tmp 99)) (oVal (.tmp 101) (kInt aAdd (.tmp 100) (.con (.int .i64 5))) (oCallT (some [90]) (.tmp 102) (.con (.func 8 [] [])) [(.tmp 94),(.tmp 101)] (oVal (.tmp 103) (kBuild [(.int .i64 0),(.int .i64 0),(.int .i64 0)] [(0,1,(.tmp 92)),(1,1,(.tmp 93)),(2,1,(.tmp 102))]) (oVal (.tmp 104) (kBuildSlice [(.int .i64 0),(.int .i64 0),(.int .i64 0)] 1 [(0,3,(.tmp 103))]) (oVal (.tmp 105) (kTwo (appendA false 3 24 (tag 62)) (.tmp 91) (.tmp 104)) (oVal (.tmp 106) (kUn (fadA 3) (.tmp 7)) (oVal .none (kStore 1 (.tmp 106) (.tmp 105)) oNil)))))))))))))))))))
def K5r16:OpsF:=(oVal (.tmp 79) (kMove (.tmp 11)) (oVal (.tmp 80) (kInt aSub (.tmp 79) (.con (.int .i64 1))) (oVal (.tmp 11) (kMove (.tmp 80)) oNil)))
def K5l1:K:=(kSeq (kSeq (kRegion K5r12 [78]) (kCond (.tmp 78) kSkip (kExit 2))) (kSeq (kBlock 3 (kSeq (kRegion K5r13 [10]) (kSeq (kRegion K5r14 [12]) (kRegionD K5r15 [])))) (kRegion K5r16 [11])))
def K5r17:OpsF:=(oVal (.tmp 107) (kMove (.tmp 0)) (oCall (.tmp 108) (.con (.func 19 [] [])) [(.tmp 107),(.con (.int .i64 (-60))),(.con (.int .i64 20))] (oVal (.tmp 109) (kMove (.tmp 0)) (oCall (.tmp 110) (.con (.func 8 [] [])) [(.tmp 109),(.con (.int .i64 3))] (oVal (.tmp 13) (kMove (.tmp 108)) (oVal (.tmp 14) (kMove (.tmp 110)) oNil))))))
def K5r18:OpsF:=(oVal (.tmp 111) (kMove (.tmp 0)) (oCall (.tmp 112) (.con (.func 19 [] [])) [(.tmp 111),(.con (.int .i64 1)),(.con (.int .i64 4))] (oVal (.tmp 15) (kMove (.tmp 112)) oNil)))
def K5r19:OpsF:=(oVal (.tmp 113) (kMove (.tmp 15)) (oVal (.tmp 114) (kGtr (.tmp 113) (.con (.int .i64 0))) oNil))
def K5r20:OpsF:=(oVal (.tmp 117) (kUn (fadA 4) (.tmp 7)) (oVal (.tmp 118) (kLoad none (.tmp 117)) (oVal (.tmp 119) (kMove (.tmp 13)) (oVal (.tmp 120) (kMove (.tmp 14)) (oVal (.tmp 121) (kBuild [(.int .i64 0),(.int .i64 0)] [(0,1,(.tmp 119)),(1,1,(.tmp 120))]) (oVal (.tmp 122) (kBuildSlice [(.int .i64 0),(.int .i64 0)] 1 [(0,2,(.tmp 121))]) (oVal (.tmp 123) (kTwo (appendA false 2 16 (tag 64)) (.tmp 118) (.tmp 122)) (oVal (.tmp 124) (kUn (fadA 4) (.tmp 7)) (oVal .none (kStore 1 (.tmp 124) (.tmp 123)) oNil)))))))))
def K5r21:OpsF:=(oVal (.tmp 125) (kMove (.tmp 13)) (oVal (.tmp 126) (kMove (.tmp 0)) (oCall (.tmp 127) (.con (.func 19 [] [])) [(.tmp 126),(.con (.int .i64 1)),(.con (.int .i64 60))] (oVal (.tmp 128) (kInt aAdd (.tmp 125) (.tmp 127)) (oVal (.tmp 129) (kMove (.tmp 14)) (oVal (.tmp 130) (kMove (.tmp 0)) (oCall (.tmp 131) (.con (.func 8 [] [])) [(.tmp 130),(.con (.int .i64 8))] (oVal (.tmp 132) (kInt aAdd (.tmp 129) (.tmp 131)) (oVal (.tmp 13) (kMove (.tmp 128)) (oVal (.tmp 14) (kMove (.tmp 132)) oNil))))))))))
def K5r22:OpsF:=(oVal (.tmp 115) (kMove (.tmp 15)) (oVal (.tmp 116) (kInt aSub (.tmp 115) (.con (.int .i64 1))) (oVal (.tmp 15) (kMove (.tmp 116)) oNil)))
def K5l2:K:=(kSeq (kSeq (kRegion K5r19 [114]) (kCond (.tmp 114) kSkip (kExit 4))) (kSeq (kBlock 5 (kSeq (kRegion K5r20 []) (kRegion K5r21 [13,14]))) (kRegion K5r22 [15])))
def K5r23:OpsF:=(oVal (.tmp 133) (kLoad (some 5) (.tmp 7)) (oVal .none (kStore 5 (.tmp 6) (.tmp 133)) oNil))
theorem res5:Try.f5.results.toList=[.cell 6 31]:=by kernel_rfl
def K5:K:=(kSeq (kRegion K5r0 [6]) (kSeq (kRegion K5r1 [7]) (kSeq (kSeq (kRegion K5r2 [8]) (kBlock 0 (kLoop K5l0))) (kSeq (kRegion K5r10 [10]) (kSeq (kSeq (kRegion K5r11 [11]) (kBlock 2 (kLoop K5l1))) (kSeq (kRegion K5r17 [13,14]) (kSeq (kSeq (kRegion K5r18 [15]) (kBlock 4 (kLoop K5l2))) (kSeq (kRegion K5r23 []) kRet))))))))
theorem enter5 (cl:CallF) (a0 a1 a2:AV) (s:St):enterA Try.prog X cl 5 [a0,a1,a2] s Try.f5=finA Try.prog Try.f5 (K5 cl ⟨5,none,Try.f5.ntmps,X 5⟩ (paramsEnv 0 [a0,a1,a2] .nil) [] s) :=
  enterA_eq (b:=Try.f5.body.getD .skip) (by kernel_rfl) (by kernel_rfl) (by kernel_rfl) (by kernel_rfl) (by kernel_rfl)
def K6r0:OpsF:=(oVal (.tmp 4) (kBox (tag 31) (.tmp 1)) (oVal (.tmp 6) (kAlloc [(.int .i64 0),(.int .i64 0),.nilslice] (tag 35)) oNil))
def K6r1:OpsF:=(oVal (.tmp 11) (kMove (.tmp 0)) (oCall (.tmp 12) (.con (.func 8 [] [])) [(.tmp 11),(.con (.int .i64 10))] (oVal (.tmp 13) (kMove (.tmp 0)) (oVal (.tmp 14) (kMove (.tmp 0)) (oCall (.tmp 15) (.con (.func 8 [] [])) [(.tmp 14),(.con (.int .i64 40))] (oVal (.tmp 16) (kMove (.tmp 0)) (oCall (.tmp 17) (.con (.func 8 [] [])) [(.tmp 16),(.con (.int .i64 200))] (oVal (.tmp 18) (kBuildSlice [(.int .i64 0),(.int .i64 0),(.int .i64 0)] 3 [(0,1,(.con (.int .i64 0))),(1,1,(.tmp 15)),(2,1,(.tmp 17))]) (oCall (.tmp 19) (.con (.func 20 [] [])) [(.tmp 13),(.tmp 18)] (oVal (.tmp 20) (kBuild [(.int .i64 0),(.int .i64 0),.nilslice] [(0,1,(.tmp 12)),(1,1,(.tmp 19))]) (oVal (.tmp 7) (kAlloc [(.int .i64 0),(.int .i64 0),.nilslice] (tag 35)) (oVal .none (kStore 3 (.tmp 7) (.tmp 20)) oNil))))))))))))
def K6r2:OpsF:=(oVal (.tmp 21) (kUn (fadA 0) (.tmp 7)) (oVal (.tmp 22) (kLoad none (.tmp 21)) (oVal (.tmp 8) (kMove (.tmp 22)) oNil)))
def K6r3:OpsF:=(oVal (.tmp 23) (kMove (.tmp 0)) (oVal (.tmp 24) (kMove (.tmp 2)) (oVal (.tmp 25) (kInt aAdd (.tmp 24) (.con (.int .i64 1))) (oCall (.tmp 26) (.con (.func 8 [] [])) [(.tmp 23),(.tmp 25)] (oVal (.tmp 9) (kMove (.tmp 26)) oNil)))))
def K6r4s7:OpsF:=(oVal (.tmp 34) (kPick (.tmp 29) (.tmp 33) (.con (.bool false))) oNil)
def K6r4s6:OpsF:=(oIf 29 true (oVal (.tmp 33) (kGtr (.tmp 32) (.con (.int .i64 0))) K6r4s7) (oSkip (.tmp 33) K6r4s7))
def K6r4s5:OpsF:=(oIf 29 true (oVal (.tmp 32) (kUn lenSlA (.tmp 31)) K6r4s6) (oSkip (.tmp 32) K6r4s6))
def K6r4s4:OpsF:=(oIf 29 true (oVal (.tmp 31) (kLoad none (.tmp 30)) K6r4s5) (oSkip (.tmp 31) K6r4s5))
def K6r4:OpsF:=(oVal (.tmp 27) (kMove (.tmp 9)) (oVal (.tmp 28) (kGtr (.tmp 27) (.con (.int .i64 0))) (oVal (.tmp 29) (kMove (.tmp 28)) (oIf 29 true (oVal (.tmp 30) (kUn (fadA 2) (.tmp 4)) K6r4s4) (oSkip (.tmp 30) K6r4s4)))))
def K6r5:OpsF:=(oVal (.tmp 37) (kMove (.tmp 0)) (oVal (.tmp 38) (kUn (fadA 2) (.tmp 4)) (oVal (.tmp 39) (kLoad none (.tmp 38)) (oVal (.tmp 40) (kUn lenSlA (.tmp 39)) (oCall (.tmp 41) (.con (.func 8 [] [])) [(.tmp 37),(.tmp 40)] (oVal (.tmp 42) (kMove (.tmp 8)) (oVal (.tmp 43) (kMove (.tmp 0)) (oVal (.tmp 44) (kMove (.tmp 0)) (oCall (.tmp 45) (.con (.func 8 [] [])) [(.tmp 44),(.con (.int .i64 3))] (oVal (.tmp 46) (kBuildSlice [(.int .i64 0),(.int .i64 0)] 2 [(0,1,(.con (.int .i64 0))),(1,1,(.tmp 45))]) (oCall (.tmp 47) (.con (.func 20 [] [])) [(.tmp 43),(.tmp 46)] (oVal (.tmp 48) (kInt aAdd (.tmp 42) (.tmp 47)) (oVal (.tmp 49) (kBuild [(.int .i64 0),(.int .i64 0),(.int .i64 0)] [(0,1,(.tmp 41)),(1,1,(.tmp 48))]) (oVal (.tmp 10) (kAlloc [(.int .i64 0),(.int .i64 0),(.int .i64 0)] (tag 66)) (oVal .none (kStore 3 (.tmp 10) (.tmp 49)) oNil)))))))))))))))
def K6r6:OpsF:=(oEnd [] (oVal (.tmp 50) (kUn (fadA 1) (.tmp 10)) (oVal (.tmp 51) (kLoad none (.tmp 50)) (oVal (.tmp 52) (kMove (.tmp 0)) (oCallT (some [50]) (.tmp 53) (.con (.func 19 [] [])) [(.tmp 52),(.con (.int .i64 1)),(.con (.int .i64 8))] (oVal (.tmp 54) (kInt aAdd (.tmp 51) (.tmp 53)) (oVal (.tmp 55) (kUn (fadA 2) (.tmp 10)) (oVal .none (kStore 1 (.tmp 55) (.tmp 54)) oNil))))))))
def K6r7:OpsF:=(oVal (.tmp 56) (kUn (fadA 2) (.tmp 7)) (oVal (.tmp 57) (kLoad none (.tmp 56)) (oVal (.tmp 58) (kLoad (some 3) (.tmp 10)) (oVal (.tmp 59) (kBuildSlice [(.int .i64 0),(.int .i64 0),(.int .i64 0)] 1 [(0,3,(.tmp 58))]) (oVal (.tmp 60) (kTwo (appendA false 3 24 (tag 66)) (.tmp 57) (.tmp 59)) (oVal (.tmp 61) (kUn (fadA 2) (.tmp 7)) (oVal .none (kStore 1 (.tmp 61) (.tmp 60)) oNil)))))))
def K6r8:OpsF:=(oVal (.tmp 62) (kUn (fadA 2) (.tmp 10)) (oVal (.tmp 63) (kLoad none (.tmp 62)) (oVal (.tmp 8) (kMove (.tmp 63)) oNil)))
def K6r9:OpsF:=(oVal (.tmp 35) (kMove (.tmp 9)) (oVal (.tmp 36) (kInt aSub (.tmp 35) (.con (.int .i64 1))) (oVal (.tmp 9) (kMove (.tmp 36)) oNil)))
def K6l0:K:=(kSeq (kSeq (kRegion K6r4 [34]) (kCond (.tmp 34) kSkip (kExit 0))) (kSeq (kBlock 1 (kSeq (kRegion K6r5 [10]) (kSeq (kRegionD K6r6 []) (kSeq (kRegion K6r7 []) (kRegion K6r8 [8]))))) (kRegion K6r9 [9])))
def K6r10:OpsF:=(oVal (.tmp 64) (kLoad (some 3) (.tmp 7)) (oVal .none (kStore 3 (.tmp 6) (.tmp 64)) oNil))
theorem res6:Try.f6.results.toList=[.cell 6 35]:=by kernel_rfl
def K6:K:=(kSeq (kRegion K6r0 [4,6]) (kSeq (kRegion K6r1 [7]) (kSeq (kRegion K6r2 [8]) (kSeq (kSeq (kRegion K6r3 [9]) (kBlock 0 (kLoop K6l0))) (kSeq (kRegion K6r10 []) kRet)))))
theorem enter6 (cl:CallF) (a0 a1 a2:AV) (s:St):enterA Try.prog X cl 6 [a0,a1,a2] s Try.f6=finA Try.prog Try.f6 (K6 cl ⟨6,none,Try.f6.ntmps,X 6⟩ (paramsEnv 0 [a0,a1,a2] .nil) [] s) :=
  enterA_eq (b:=Try.f6.body.getD .skip) (by kernel_rfl) (by kernel_rfl) (by kernel_rfl) (by kernel_rfl) (by kernel_rfl)
end
end Go.Proofs.Ytlfalcghhckanaa.code
set_option maxRecDepth 100000
namespace Go.Proofs.Ytlfalcghhckanaa.code
open Go.Abs
noncomputable section
end
end Go.Proofs.Ytlfalcghhckanaa.code
set_option maxRecDepth 100000
namespace Go.Proofs.Ytlfalcghhckanaa.code
open Go.Abs
noncomputable section
def K7r0:OpsF:=(oVal (.tmp 3) (kBox (tag 35) (.tmp 1)) (oVal (.tmp 4) (kMove (.con (.int .i64 0))) oNil))
def K7r1:OpsF:=(oEnd [] (oVal (.tmp 5) (kUn (fadA 0) (.tmp 3)) (oVal (.tmp 6) (kLoad none (.tmp 5)) (oVal (.tmp 7) (kMove (.tmp 0)) (oVal (.tmp 8) (kMove (.tmp 0)) (oVal (.tmp 9) (kBuildSlice [(.int .i64 0),(.int .i64 0),(.int .i64 0)] 3 [(0,1,(.con (.int .i64 6))),(1,1,(.con (.int .i64 30))),(2,1,(.con (.int .i64 60)))]) (oCallT (some [5]) (.tmp 10) (.con (.func 20 [] [])) [(.tmp 8),(.tmp 9)] (oCallT (some [5]) (.tmp 11) (.con (.func 8 [] [])) [(.tmp 7),(.tmp 10)] (oVal (.tmp 12) (kInt aAdd (.tmp 6) (.tmp 11)) (oVal (.tmp 13) (kFold minA (.con (.int .i64 240)) [(.tmp 12)]) (oVal (.tmp 4) (kMove (.tmp 13)) oNil)))))))))))
theorem res7:Try.f7.results.toList=[.tmp 4]:=by kernel_rfl
def K7:K:=(kSeq (kRegion K7r0 [3,4]) (kSeq (kRegionD K7r1 [4]) kRet))
theorem enter7 (cl:CallF) (a0 a1:AV) (s:St):enterA Try.prog X cl 7 [a0,a1] s Try.f7=finA Try.prog Try.f7 (K7 cl ⟨7,none,Try.f7.ntmps,X 7⟩ (paramsEnv 0 [a0,a1] .nil) [] s) :=
  enterA_eq (b:=Try.f7.body.getD .skip) (by kernel_rfl) (by kernel_rfl) (by kernel_rfl) (by kernel_rfl) (by kernel_rfl)
def K9r0:OpsF:=(oVal (.tmp 1) (kBox (tag 31) (.tmp 0)) (oVal (.tmp 2) (kAlloc [(.int .i64 0),(.int .i64 0),.nilslice,.nilslice,.nilslice] (tag 31)) oNil))
def K9r1:OpsF:=(oEnd [(3,8),(3,12),(7,12)] (oVal (.tmp 3) (kBuildSlice [] 0 []) (oVal (.tmp 4) (kUn (fadA 2) (.tmp 1)) (oVal (.tmp 5) (kLoad none (.tmp 4)) (oVal (.tmp 6) (kTwo (appendA false 9 72 (tag 43)) (.tmp 3) (.tmp 5)) (oVal (.tmp 7) (kBuildSlice [] 0 []) (oVal (.tmp 8) (kUn (fadA 3) (.tmp 1)) (oVal (.tmp 9) (kLoad none (.tmp 8)) (oVal (.tmp 10) (kTwo (appendA false 3 24 (tag 62)) (.tmp 7) (.tmp 9)) (oVal (.tmp 11) (kBuildSlice [] 0 []) (oVal (.tmp 12) (kUn (fadA 4) (.tmp 1)) (oVal (.tmp 13) (kLoad none (.tmp 12)) (oVal (.tmp 14) (kTwo (appendA false 2 16 (tag 64)) (.tmp 11) (.tmp 13)) (oVal (.tmp 15) (kUn (fadA 2) (.tmp 1)) (oVal .none (kStore 1 (.tmp 15) (.tmp 6)) (oVal (.tmp 16) (kUn (fadA 3) (.tmp 1)) (oVal .none (kStore 1 (.tmp 16) (.tmp 10)) (oVal (.tmp 17) (kUn (fadA 4) (.tmp 1)) (oVal .none (kStore 1 (.tmp 17) (.tmp 14)) oNil)))))))))))))))))))
def K9r2:OpsF:=(oVal (.tmp 18) (kLoad (some 5) (.tmp 1)) (oVal .none (kStore 5 (.tmp 2) (.tmp 18)) oNil))
theorem res9:Try.f9.results.toList=[.cell 2 31]:=by kernel_rfl
def K9:K:=(kSeq (kRegion K9r0 [1,2]) (kSeq (kRegionD K9r1 []) (kSeq (kRegion K9r2 []) kRet)))
theorem enter9 (cl:CallF) (a0:AV) (s:St):enterA Try.prog X cl 9 [a0] s Try.f9=finA Try.prog Try.f9 (K9 cl ⟨9,none,Try.f9.ntmps,X 9⟩ (paramsEnv 0 [a0] .nil) [] s) :=
  enterA_eq (b:=Try.f9.body.getD .skip) (by kernel_rfl) (by kernel_rfl) (by kernel_rfl) (by kernel_rfl) (by kernel_rfl)
end
end Go.Proofs.Ytlfalcghhckanaa.code
set_option maxRecDepth 100000
namespace Go.Proofs.Ytlfalcghhckanaa.code
open Go.Abs
noncomputable section
def K3r2:OpsF:=(oVal (.tmp 24) (kMove (.tmp 3)) (oCall (.tmp 25) (.con (.func 5 [] [])) [(.tmp 24),(.con (.int .i64 3)),(.con (.int .i64 5))] (oVal (.tmp 4) (kAlloc [(.int .i64 0),(.int .i64 0),.nilslice,.nilslice,.nilslice] (tag 31)) (oVal .none (kStore 5 (.tmp 4) (.tmp 25)) oNil))))
def K3r3:OpsF:=(oVal (.tmp 26) (kMove (.tmp 3)) (oVal (.tmp 27) (kLoad (some 5) (.tmp 4)) (oCall (.tmp 28) (.con (.func 6 [] [])) [(.tmp 26),(.tmp 27),(.con (.int .i64 4))] (oVal (.tmp 5) (kAlloc [(.int .i64 0),(.int .i64 0),.nilslice] (tag 35)) (oVal .none (kStore 3 (.tmp 5) (.tmp 28)) oNil)))))
def K3r4:OpsF:=(oEnd [] (oVal (.tmp 29) (kMove (.tmp 3)) (oVal (.tmp 30) (kLoad (some 3) (.tmp 5)) (oCallT (some [33,34]) (.tmp 31) (.con (.func 7 [] [])) [(.tmp 29),(.tmp 30)] (oVal (.tmp 32) (kMove (.tmp 3)) (oVal (.tmp 33) (kUn (fadA 2) (.tmp 4)) (oVal (.tmp 34) (kLoad none (.tmp 33)) (oVal (.tmp 35) (kUn lenSlA (.tmp 34)) (oCall (.tmp 36) (.con (.func 8 [] [])) [(.tmp 32),(.tmp 35)] (oVal (.tmp 6) (kMove (.tmp 31)) (oVal (.tmp 7) (kMove (.tmp 36)) oNil)))))))))))
def K3r5:OpsF:=(oVal (.tmp 37) (kLoad (some 5) (.tmp 4)) (oCall (.tmp 38) (.con (.func 9 [] [])) [(.tmp 37)] (oVal (.tmp 8) (kAlloc [(.int .i64 0),(.int .i64 0),.nilslice,.nilslice,.nilslice] (tag 31)) (oVal .none (kStore 5 (.tmp 8) (.tmp 38)) oNil))))
def K3r6:OpsF:=(oVal (.tmp 39) (kMove (.tmp 3)) (oVal (.tmp 40) (kUn (fadA 0) (.tmp 4)) (oVal (.tmp 41) (kLoad (some 2) (.tmp 40)) (oCall (.tmp 42) (.con (.func 10 [] [])) [(.tmp 39),(.tmp 41)] (oVal (.tmp 43) (kUn (fadA 0) (.tmp 8)) (oVal .none (kStore 2 (.tmp 43) (.tmp 42)) oNil))))))
def K3r7:OpsF:=(oVal (.tmp 9) (kMove (.con (.int .i64 0))) oNil)
def K3r8:OpsF:=(oVal (.tmp 44) (kMove (.tmp 9)) (oVal (.tmp 45) (kUn (fadA 2) (.tmp 8)) (oVal (.tmp 46) (kLoad none (.tmp 45)) (oVal (.tmp 47) (kUn lenSlA (.tmp 46)) (oVal (.tmp 48) (kInt aLss (.tmp 44) (.tmp 47)) oNil)))))
def K3r9:OpsF:=(oVal (.tmp 51) (kUn (fadA 2) (.tmp 8)) (oVal (.tmp 52) (kLoad none (.tmp 51)) (oVal (.tmp 53) (kMove (.tmp 9)) (oVal (.tmp 54) (kTwo (ixsA 9) (.tmp 52) (.tmp 53)) (oVal (.tmp 10) (kMove (.tmp 54)) oNil)))))
def K3r10:OpsF:=(oEnd [] (oVal (.tmp 55) (kMove (.tmp 10)) (oVal (.tmp 56) (kMove (.tmp 10)) (oVal (.tmp 57) (kMove (.tmp 10)) (oVal (.tmp 58) (kMove (.tmp 10)) (oVal (.tmp 59) (kMove (.tmp 3)) (oVal (.tmp 60) (kMove (.tmp 10)) (oVal (.tmp 61) (kUn nilA (.tmp 60)) (oVal (.tmp 62) (kUn (fadA 1) (.tmp 61)) (oVal (.tmp 63) (kLoad (some 2) (.tmp 62)) (oCallT (some [68,74,80]) (.tmp 64) (.con (.func 10 [] [])) [(.tmp 59),(.tmp 63)] (oVal (.tmp 65) (kMove (.tmp 3)) (oVal (.tmp 66) (kMove (.tmp 10)) (oVal (.tmp 67) (kUn nilA (.tmp 66)) (oVal (.tmp 68) (kUn (fadA 3) (.tmp 67)) (oVal (.tmp 69) (kLoad (some 2) (.tmp 68)) (oCallT (some [74,80]) (.tmp 70) (.con (.func 10 [] [])) [(.tmp 65),(.tmp 69)] (oVal (.tmp 71) (kMove (.tmp 3)) (oVal (.tmp 72) (kMove (.tmp 10)) (oVal (.tmp 73) (kUn nilA (.tmp 72)) (oVal (.tmp 74) (kUn (fadA 5) (.tmp 73)) (oVal (.tmp 75) (kLoad (some 2) (.tmp 74)) (oCallT (some [80]) (.tmp 76) (.con (.func 10 [] [])) [(.tmp 71),(.tmp 75)] (oVal (.tmp 77) (kMove (.tmp 3)) (oVal (.tmp 78) (kMove (.tmp 10)) (oVal (.tmp 79) (kUn nilA (.tmp 78)) (oVal (.tmp 80) (kUn (fadA 7) (.tmp 79)) (oVal (.tmp 81) (kLoad (some 2) (.tmp 80)) (oCall (.tmp 82) (.con (.func 10 [] [])) [(.tmp 77),(.tmp 81)] (oVal (.tmp 83) (kUn nilA (.tmp 55)) (oVal (.tmp 84) (kUn (fadA 1) (.tmp 83)) (oVal .none (kStore 2 (.tmp 84) (.tmp 64)) (oVal (.tmp 85) (kUn nilA (.tmp 56)) (oVal (.tmp 86) (kUn (fadA 3) (.tmp 85)) (oVal .none (kStore 2 (.tmp 86) (.tmp 70)) (oVal (.tmp 87) (kUn nilA (.tmp 57)) (oVal (.tmp 88) (kUn (fadA 5) (.tmp 87)) (oVal .none (kStore 2 (.tmp 88) (.tmp 76)) (oVal (.tmp 89) (kUn nilA (.tmp 58)) (oVal (.tmp 90) (kUn (fadA 7) (.tmp 89)) (oVal .none (kStore 2 (.tmp 90) (.tmp 82)) oNil)))))))))))))))))))))))))))))))))))))))))
def K3r11:OpsF:=(oVal (.tmp 49) (kMove (.tmp 9)) (oVal (.tmp 50) (kInt aAdd (.tmp 49) (.con (.int .i64 1))) (oVal (.tmp 9) (kMove (.tmp 50)) oNil)))
def K3l0:K:=(kSeq (kSeq (kRegion K3r8 [48]) (kCond (.tmp 48) kSkip (kExit 0))) (kSeq (kBlock 1 (kSeq (kRegion K3r9 [10]) (kRegionD K3r10 []))) (kRegion K3r11 [9])))
def K3r12:OpsF:=(oVal (.tmp 92) (kLoad (some 5) (.tmp 4)) (oVal (.tmp 93) (kLoad (some 3) (.tmp 5)) (oVal (.tmp 94) (kMove (.tmp 6)) (oCall (.tmp 95) (.con (.func 11 [] [])) [(.tmp 92),(.tmp 93),(.tmp 94)] (oVal (.tmp 91) (kMove (.tmp 95)) (oVal (.tmp 96) (kUn (extA 0) (.tmp 91)) (oVal (.tmp 97) (kUn (extA 1) (.tmp 91)) (oVal (.tmp 11) (kAlloc [(.int .i64 0),(.int .i64 0)] (tag 26)) (oVal .none (kStore 2 (.tmp 11) (.tmp 96)) (oVal (.tmp 12) (kMove (.tmp 97)) oNil))))))))))
def K3r13:OpsF:=(oVal (.tmp 99) (kLoad (some 5) (.tmp 8)) (oVal (.tmp 100) (kLoad (some 3) (.tmp 5)) (oVal (.tmp 101) (kMove (.tmp 6)) (oCall (.tmp 102) (.con (.func 11 [] [])) [(.tmp 99),(.tmp 100),(.tmp 101)] (oVal (.tmp 98) (kMove (.tmp 102)) (oVal (.tmp 103) (kUn (extA 0) (.tmp 98)) (oVal (.tmp 104) (kUn (extA 1) (.tmp 98)) (oVal (.tmp 13) (kAlloc [(.int .i64 0),(.int .i64 0)] (tag 26)) (oVal .none (kStore 2 (.tmp 13) (.tmp 103)) (oVal (.tmp 14) (kMove (.tmp 104)) oNil))))))))))
def K3r14:OpsF:=(oVal (.tmp 106) (kLoad (some 5) (.tmp 4)) (oVal (.tmp 107) (kLoad (some 3) (.tmp 5)) (oVal (.tmp 108) (kMove (.tmp 6)) (oCall (.tmp 109) (.con (.func 12 [] [])) [(.tmp 106),(.tmp 107),(.tmp 108)] (oVal (.tmp 105) (kMove (.tmp 109)) (oVal (.tmp 110) (kUn (extA 0) (.tmp 105)) (oVal (.tmp 111) (kUn (extA 1) (.tmp 105)) (oVal (.tmp 15) (kMove (.tmp 110)) (oVal (.tmp 16) (kMove (.tmp 111)) oNil)))))))))
def K3r15:OpsF:=(oVal (.tmp 113) (kLoad (some 5) (.tmp 8)) (oVal (.tmp 114) (kLoad (some 3) (.tmp 5)) (oVal (.tmp 115) (kMove (.tmp 6)) (oCall (.tmp 116) (.con (.func 12 [] [])) [(.tmp 113),(.tmp 114),(.tmp 115)] (oVal (.tmp 112) (kMove (.tmp 116)) (oVal (.tmp 117) (kUn (extA 0) (.tmp 112)) (oVal (.tmp 118) (kUn (extA 1) (.tmp 112)) (oVal (.tmp 17) (kMove (.tmp 117)) (oVal (.tmp 18) (kMove (.tmp 118)) oNil)))))))))
def K3r16s28:OpsF:=(oVal (.tmp 147) (kPick (.tmp 139) (.con (.bool true)) (.tmp 146)) oNil)
def K3r16s27:OpsF:=(oIf 139 false (oVal (.tmp 146) (kPick (.tmp 142) (.tmp 145) (.con (.bool false))) K3r16s28) (oSkip (.tmp 146) K3r16s28))
def K3r16s26:OpsF:=(oIf 142 true (oVal (.tmp 145) (kInt aNeq (.tmp 143) (.tmp 144)) K3r16s27) (oSkip (.tmp 145) K3r16s27))
def K3r16s25:OpsF:=(oIf 142 true (oVal (.tmp 144) (kMove (.tmp 17)) K3r16s26) (oSkip (.tmp 144) K3r16s26))
def K3r16s24:OpsF:=(oIf 142 true (oVal (.tmp 143) (kMove (.tmp 15)) K3r16s25) (oSkip (.tmp 143) K3r16s25))
def K3r16s23:OpsF:=(oIf 139 false (oVal (.tmp 142) (kMove (.tmp 141)) K3r16s24) (oSkip (.tmp 142) K3r16s24))
def K3r16s22:OpsF:=(oIf 139 false (oVal (.tmp 141) (kInt aNeq (.tmp 140) (.con (.int .i64 3))) K3r16s23) (oSkip (.tmp 141) K3r16s23))
def K3r16s19:OpsF:=(oVal (.tmp 138) (kPick (.tmp 133) (.con (.bool true)) (.tmp 137)) (oVal (.tmp 139) (kMove (.tmp 138)) (oIf 139 false (oVal (.tmp 140) (kMove (.tmp 15)) K3r16s22) (oSkip (.tmp 140) K3r16s22))))
def K3r16s18:OpsF:=(oIf 133 false (oVal (.tmp 137) (kUn notA (.tmp 136)) K3r16s19) (oSkip (.tmp 137) K3r16s19))
def K3r16s17:OpsF:=(oIf 133 false (oCall (.tmp 136) (.con (.func 13 [] [])) [(.tmp 134),(.tmp 135)] K3r16s18) (oSkip (.tmp 136) K3r16s18))
def K3r16s16:OpsF:=(oIf 133 false (oVal (.tmp 135) (kLoad (some 2) (.tmp 11)) K3r16s17) (oSkip (.tmp 135) K3r16s17))
def K3r16s13:OpsF:=(oVal (.tmp 132) (kPick (.tmp 129) (.con (.bool true)) (.tmp 131)) (oVal (.tmp 133) (kMove (.tmp 132)) (oIf 133 false (oVal (.tmp 134) (kLoad (some 2) (.tmp 13)) K3r16s16) (oSkip (.tmp 134) K3r16s16))))
def K3r16s12:OpsF:=(oIf 129 false (oVal (.tmp 131) (kInt aNeq (.tmp 130) (.con (.int .i64 0))) K3r16s13) (oSkip (.tmp 131) K3r16s13))
def K3r16s9:OpsF:=(oVal (.tmp 128) (kPick (.tmp 125) (.con (.bool true)) (.tmp 127)) (oVal (.tmp 129) (kMove (.tmp 128)) (oIf 129 false (oVal (.tmp 130) (kMove (.tmp 18)) K3r16s12) (oSkip (.tmp 130) K3r16s12))))
def K3r16s8:OpsF:=(oIf 125 false (oVal (.tmp 127) (kInt aNeq (.tmp 126) (.con (.int .i64 0))) K3r16s9) (oSkip (.tmp 127) K3r16s9))
def K3r16s5:OpsF:=(oVal (.tmp 124) (kPick (.tmp 121) (.con (.bool true)) (.tmp 123)) (oVal (.tmp 125) (kMove (.tmp 124)) (oIf 125 false (oVal (.tmp 126) (kMove (.tmp 16)) K3r16s8) (oSkip (.tmp 126) K3r16s8))))
def K3r16s4:OpsF:=(oIf 121 false (oVal (.tmp 123) (kInt aNeq (.tmp 122) (.con (.int .i64 0))) K3r16s5) (oSkip (.tmp 123) K3r16s5))
def K3r16:OpsF:=(oVal (.tmp 119) (kMove (.tmp 12)) (oVal (.tmp 120) (kInt aNeq (.tmp 119) (.con (.int .i64 0))) (oVal (.tmp 121) (kMove (.tmp 120)) (oIf 121 false (oVal (.tmp 122) (kMove (.tmp 14)) K3r16s4) (oSkip (.tmp 122) K3r16s4)))))
def K3r17:OpsF:=(oVal (.tmp 2) (kMove (.con (.bool false))) oNil)
def K3r18:OpsF:=(oVal (.tmp 148) (kUn (fadA 2) (.tmp 4)) (oVal (.tmp 149) (kLoad none (.tmp 148)) (oVal (.tmp 150) (kUn lenSlA (.tmp 149)) (oVal (.tmp 151) (kInt aEql (.tmp 150) (.con (.int .i64 0))) oNil))))
def K3r19:OpsF:=(oCall (.tmp 152) (.con (.func 14 [] [])) [] (oVal (.tmp 2) (kMove (.tmp 152)) oNil))
def K3r20:OpsF:=(oVal (.tmp 153) (kMove (.tmp 6)) (oVal (.tmp 154) (kFold minA (.tmp 153) [(.con (.int .i64 239))]) (oVal (.tmp 19) (kMove (.tmp 154)) oNil)))
def K3r21:OpsF:=(oVal (.tmp 156) (kLoad (some 5) (.tmp 4)) (oVal (.tmp 157) (kMove (.tmp 7)) (oVal (.tmp 158) (kMove (.tmp 19)) (oCall (.tmp 159) (.con (.func 15 [] [])) [(.tmp 156),(.tmp 157),(.tmp 158)] (oVal (.tmp 155) (kMove (.tmp 159)) (oVal (.tmp 160) (kUn (extA 0) (.tmp 155)) (oVal (.tmp 161) (kUn (extA 1) (.tmp 155)) (oVal (.tmp 20) (kAlloc [(.int .i64 0),(.int .i64 0)] (tag 26)) (oVal .none (kStore 2 (.tmp 20) (.tmp 160)) (oVal (.tmp 12) (kMove (.tmp 161)) oNil))))))))))
def K3r22:OpsF:=(oVal (.tmp 163) (kLoad (some 5) (.tmp 8)) (oVal (.tmp 164) (kMove (.tmp 7)) (oVal (.tmp 165) (kMove (.tmp 19)) (oCall (.tmp 166) (.con (.func 15 [] [])) [(.tmp 163),(.tmp 164),(.tmp 165)] (oVal (.tmp 162) (kMove (.tmp 166)) (oVal (.tmp 167) (kUn (extA 0) (.tmp 162)) (oVal (.tmp 168) (kUn (extA 1) (.tmp 162)) (oVal (.tmp 21) (kAlloc [(.int .i64 0),(.int .i64 0)] (tag 26)) (oVal .none (kStore 2 (.tmp 21) (.tmp 167)) (oVal (.tmp 14) (kMove (.tmp 168)) oNil))))))))))
def K3r23:OpsF:=(oVal (.tmp 170) (kLoad (some 5) (.tmp 4)) (oVal (.tmp 171) (kMove (.tmp 7)) (oVal (.tmp 172) (kMove (.tmp 19)) (oCall (.tmp 173) (.con (.func 16 [] [])) [(.tmp 170),(.tmp 171),(.tmp 172)] (oVal (.tmp 169) (kMove (.tmp 173)) (oVal (.tmp 174) (kUn (extA 0) (.tmp 169)) (oVal (.tmp 175) (kUn (extA 1) (.tmp 169)) (oVal (.tmp 15) (kMove (.tmp 174)) (oVal (.tmp 16) (kMove (.tmp 175)) oNil)))))))))
def K3r24:OpsF:=(oVal (.tmp 177) (kLoad (some 5) (.tmp 8)) (oVal (.tmp 178) (kMove (.tmp 7)) (oVal (.tmp 179) (kMove (.tmp 19)) (oCall (.tmp 180) (.con (.func 16 [] [])) [(.tmp 177),(.tmp 178),(.tmp 179)] (oVal (.tmp 176) (kMove (.tmp 180)) (oVal (.tmp 181) (kUn (extA 0) (.tmp 176)) (oVal (.tmp 182) (kUn (extA 1) (.tmp 176)) (oVal (.tmp 17) (kMove (.tmp 181)) (oVal (.tmp 18) (kMove (.tmp 182)) oNil)))))))))
def K3r25s30:OpsF:=(oVal (.tmp 213) (kPick (.tmp 211) (.tmp 212) (.con (.bool false))) (oVal (.tmp 2) (kMove (.tmp 213)) oNil))
def K3r25s27:OpsF:=(oVal (.tmp 210) (kPick (.tmp 202) (.tmp 209) (.con (.bool false))) (oVal (.tmp 211) (kMove (.tmp 210)) (oIf 211 true (oCall (.tmp 212) (.con (.func 14 [] [])) [] K3r25s30) (oSkip (.tmp 212) K3r25s30))))
def K3r25s26:OpsF:=(oIf 202 true (oVal (.tmp 209) (kPick (.tmp 205) (.con (.bool true)) (.tmp 208)) K3r25s27) (oSkip (.tmp 209) K3r25s27))
def K3r25s25:OpsF:=(oIf 205 false (oVal (.tmp 208) (kInt aEql (.tmp 206) (.tmp 207)) K3r25s26) (oSkip (.tmp 208) K3r25s26))
def K3r25s24:OpsF:=(oIf 205 false (oVal (.tmp 207) (kMove (.tmp 17)) K3r25s25) (oSkip (.tmp 207) K3r25s25))
def K3r25s23:OpsF:=(oIf 205 false (oVal (.tmp 206) (kMove (.tmp 15)) K3r25s24) (oSkip (.tmp 206) K3r25s24))
def K3r25s22:OpsF:=(oIf 202 true (oVal (.tmp 205) (kMove (.tmp 204)) K3r25s23) (oSkip (.tmp 205) K3r25s23))
def K3r25s21:OpsF:=(oIf 202 true (oVal (.tmp 204) (kInt aEql (.tmp 203) (.con (.int .i64 3))) K3r25s22) (oSkip (.tmp 204) K3r25s22))
def K3r25s18:OpsF:=(oVal (.tmp 201) (kPick (.tmp 197) (.tmp 200) (.con (.bool false))) (oVal (.tmp 202) (kMove (.tmp 201)) (oIf 202 true (oVal (.tmp 203) (kMove (.tmp 15)) K3r25s21) (oSkip (.tmp 203) K3r25s21))))
def K3r25s17:OpsF:=(oIf 197 true (oCall (.tmp 200) (.con (.func 13 [] [])) [(.tmp 198),(.tmp 199)] K3r25s18) (oSkip (.tmp 200) K3r25s18))
def K3r25s16:OpsF:=(oIf 197 true (oVal (.tmp 199) (kLoad (some 2) (.tmp 20)) K3r25s17) (oSkip (.tmp 199) K3r25s17))
def K3r25s13:OpsF:=(oVal (.tmp 196) (kPick (.tmp 193) (.tmp 195) (.con (.bool false))) (oVal (.tmp 197) (kMove (.tmp 196)) (oIf 197 true (oVal (.tmp 198) (kLoad (some 2) (.tmp 21)) K3r25s16) (oSkip (.tmp 198) K3r25s16))))
def K3r25s12:OpsF:=(oIf 193 true (oVal (.tmp 195) (kInt aEql (.tmp 194) (.con (.int .i64 0))) K3r25s13) (oSkip (.tmp 195) K3r25s13))
def K3r25s9:OpsF:=(oVal (.tmp 192) (kPick (.tmp 189) (.tmp 191) (.con (.bool false))) (oVal (.tmp 193) (kMove (.tmp 192)) (oIf 193 true (oVal (.tmp 194) (kMove (.tmp 18)) K3r25s12) (oSkip (.tmp 194) K3r25s12))))
def K3r25s8:OpsF:=(oIf 189 true (oVal (.tmp 191) (kInt aEql (.tmp 190) (.con (.int .i64 0))) K3r25s9) (oSkip (.tmp 191) K3r25s9))
def K3r25s5:OpsF:=(oVal (.tmp 188) (kPick (.tmp 185) (.tmp 187) (.con (.bool false))) (oVal (.tmp 189) (kMove (.tmp 188)) (oIf 189 true (oVal (.tmp 190) (kMove (.tmp 16)) K3r25s8) (oSkip (.tmp 190) K3r25s8))))
def K3r25s4:OpsF:=(oIf 185 true (oVal (.tmp 187) (kInt aEql (.tmp 186) (.con (.int .i64 0))) K3r25s5) (oSkip (.tmp 187) K3r25s5))
def K3r25:OpsF:=(oVal (.tmp 183) (kMove (.tmp 12)) (oVal (.tmp 184) (kInt aEql (.tmp 183) (.con (.int .i64 0))) (oVal (.tmp 185) (kMove (.tmp 184)) (oIf 185 true (oVal (.tmp 186) (kMove (.tmp 14)) K3r25s4) (oSkip (.tmp 186) K3r25s4)))))
theorem res3:Try.f3.results.toList=[.tmp 2]:=by kernel_rfl
def K13r0:OpsF:=(oVal (.tmp 2) (kBox (tag 26) (.tmp 0)) (oVal (.tmp 3) (kBox (tag 26) (.tmp 1)) (oVal (.tmp 4) (kMove (.con (.bool false))) oNil)))
def K13r1s11:OpsF:=(oVal (.tmp 16) (kPick (.tmp 10) (.tmp 15) (.con (.bool false))) (oVal (.tmp 4) (kMove (.tmp 16)) oNil))
def K13r1s10:OpsF:=(oIf 10 true (oVal (.tmp 15) (kInt aLeq (.tmp 12) (.tmp 14)) K13r1s11) (oSkip (.tmp 15) K13r1s11))
def K13r1s9:OpsF:=(oIf 10 true (oVal (.tmp 14) (kLoad none (.tmp 13)) K13r1s10) (oSkip (.tmp 14) K13r1s10))
def K13r1s8:OpsF:=(oIf 10 true (oVal (.tmp 13) (kUn (fadA 1) (.tmp 3)) K13r1s9) (oSkip (.tmp 13) K13r1s9))
def K13r1s7:OpsF:=(oIf 10 true (oVal (.tmp 12) (kLoad none (.tmp 11)) K13r1s8) (oSkip (.tmp 12) K13r1s8))
def K13r1:OpsF:=(oVal (.tmp 5) (kUn (fadA 0) (.tmp 3)) (oVal (.tmp 6) (kLoad none (.tmp 5)) (oVal (.tmp 7) (kUn (fadA 0) (.tmp 2)) (oVal (.tmp 8) (kLoad none (.tmp 7)) (oVal (.tmp 9) (kInt aLeq (.tmp 6) (.tmp 8)) (oVal (.tmp 10) (kMove (.tmp 9)) (oIf 10 true (oVal (.tmp 11) (kUn (fadA 1) (.tmp 2)) K13r1s7) (oSkip (.tmp 11) K13r1s7))))))))
theorem res13:Try.f13.results.toList=[.tmp 4]:=by kernel_rfl
def K13:K:=(kSeq (kRegion K13r0 [2,3,4]) (kSeq (kRegion K13r1 [4]) kRet))
theorem enter13 (cl:CallF) (a0 a1:AV) (s:St):enterA Try.prog X cl 13 [a0,a1] s Try.f13=finA Try.prog Try.f13 (K13 cl ⟨13,none,Try.f13.ntmps,X 13⟩ (paramsEnv 0 [a0,a1] .nil) [] s) :=
  enterA_eq (b:=Try.f13.body.getD .skip) (by kernel_rfl) (by kernel_rfl) (by kernel_rfl) (by kernel_rfl) (by kernel_rfl)
end
end Go.Proofs.Ytlfalcghhckanaa.code
