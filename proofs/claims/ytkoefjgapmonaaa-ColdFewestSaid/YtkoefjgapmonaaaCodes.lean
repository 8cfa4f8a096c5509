/- The code of functions as the interpreter has it, region by region. -/
import Derived.Test.YtkoefjgapmonaaaAbsTab
import Derived.Test.YtkoefjgapmonaaaAbsWalk
import Derived.KernelRfl
set_option maxRecDepth 100000
namespace Go.Proofs.Ytkoefjgapmonaaa.code
open Go.Abs
noncomputable section
def K24r0:OpsF:=(oVal (.tmp 2) (kMove (.con (.int .i64 0))) oNil)
def K24r1:OpsF:=(oVal (.tmp 3) (kMove (.con (.int .i64 0))) oNil)
def K24r2:OpsF:=(oVal (.tmp 6) (kMove (.tmp 0)) (oVal (.tmp 7) (kUn lenSlA (.tmp 6)) (oVal (.tmp 8) (kMove (.con (.int .i64 0))) oNil)))
def K24r3:OpsF:=(oVal (.tmp 9) (kInt aLss (.tmp 8) (.tmp 7)) oNil)
def K24r4:OpsF:=(oVal (.tmp 10) (kTwo (ixsA 1) (.tmp 6) (.tmp 8)) (oVal (.tmp 11) (kLoad none (.tmp 10)) (oVal (.tmp 5) (kMove (.tmp 11)) oNil)))
def K24r5:OpsF:=(oVal (.tmp 12) (kMove (.tmp 5)) (oVal (.tmp 13) (kMove (.tmp 3)) (oVal (.tmp 14) (kInt aNeq (.tmp 12) (.tmp 13)) oNil)))
def K24r6:OpsF:=(oVal (.tmp 15) (kMove (.tmp 5)) (oVal (.tmp 2) (kMove (.tmp 15)) oNil))
def K24r7:OpsF:=(oVal (.tmp 16) (kInt aAdd (.tmp 8) (.con (.int .i64 1))) (oVal (.tmp 8) (kMove (.tmp 16)) oNil))
def K24l0:K:=(kSeq (kRegion K24r3 [9]) (kSeq (kCond (.tmp 9) kSkip (kExit 0)) (kSeq (kBlock 1 (kSeq (kRegion K24r4 [5]) (kSeq (kRegion K24r5 [14]) (kCond (.tmp 14) (kSeq (kRegion K24r6 [2]) kRet) kSkip)))) (kRegion K24r7 [8]))))
def K24r8:OpsF:=(oVal (.tmp 17) (kMove (.tmp 3)) (oVal (.tmp 2) (kMove (.tmp 17)) oNil))
theorem res24:Try.f24.results.toList=[.tmp 2]:=by kernel_rfl
def K24:K:=(kSeq (kRegion K24r0 [2]) (kSeq (kRegion K24r1 [3]) (kSeq (kSeq (kRegion K24r2 [6,7,8]) (kBlock 0 (kLoop K24l0))) (kSeq (kRegion K24r8 [2]) kRet))))
theorem enter24 (cl:CallF) (a0:AV) (s:St):enterA Try.prog X cl 24 [a0] s Try.f24=finA Try.prog Try.f24 (K24 cl ⟨24,none,Try.f24.ntmps,X 24⟩ (paramsEnv 0 [a0] .nil) [] s) :=
  enterA_eq (b:=Try.f24.body.getD .skip) (by kernel_rfl) (by kernel_rfl) (by kernel_rfl) (by kernel_rfl) (by kernel_rfl)
def K48r0:OpsF:=(oVal (.tmp 6) (kMove (.con (.int .i64 0))) oNil)
def K48r1:OpsF:=(oVal (.tmp 8) (kMove (.tmp 0)) (oVal (.tmp 9) (kMove (.tmp 1)) (oVal (.tmp 10) (kInt aLss (.tmp 8) (.tmp 9)) (oVal (.tmp 7) (kMove (.tmp 10)) oNil))))
def K48r2:OpsF:=(oVal (.tmp 6) (kMove (.con (.int .i64 7))) oNil)
def K48r3:OpsF:=(oVal (.tmp 12) (kMove (.tmp 0)) (oVal (.tmp 13) (kMove (.tmp 2)) (oVal (.tmp 14) (kGtr (.tmp 12) (.tmp 13)) (oVal (.tmp 11) (kMove (.tmp 14)) oNil))))
def K48r4:OpsF:=(oVal (.tmp 6) (kMove (.con (.int .i64 6))) oNil)
def K48r5:OpsF:=(oVal (.tmp 6) (kMove (.con (.int .i64 0))) oNil)
theorem res48:Try.f48.results.toList=[.tmp 6]:=by kernel_rfl
def K48:K:=(kSeq (kRegion K48r0 [6]) (kSeq (kBlock 0 (kSeq (kRegion K48r1 [7]) (kCond (.tmp 7) (kSeq (kRegion K48r2 [6]) kRet) (kSeq (kRegion K48r3 [11]) (kCond (.tmp 11) (kSeq (kRegion K48r4 [6]) kRet) kSkip))))) (kSeq (kRegion K48r5 [6]) kRet)))
theorem enter48 (cl:CallF) (a0 a1 a2:AV) (s:St):enterA Try.prog X cl 48 [a0,a1,a2] s Try.f48=finA Try.prog Try.f48 (K48 cl ⟨48,none,Try.f48.ntmps,X 48⟩ (paramsEnv 0 [a0,a1,a2] .nil) [] s) :=
  enterA_eq (b:=Try.f48.body.getD .skip) (by kernel_rfl) (by kernel_rfl) (by kernel_rfl) (by kernel_rfl) (by kernel_rfl)
def K47r0:OpsF:=(oVal (.tmp 4) (kMove (.con (.int .i64 0))) oNil)
def K47r1s6:OpsF:=(oVal (.tmp 11) (kPick (.tmp 7) (.con (.bool true)) (.tmp 10)) oNil)
def K47r1s5:OpsF:=(oIf 7 false (oVal (.tmp 10) (kInt aGeq (.tmp 8) (.tmp 9)) K47r1s6) (oSkip (.tmp 10) K47r1s6))
def K47r1s4:OpsF:=(oIf 7 false (oVal (.tmp 9) (kMove (.tmp 1)) K47r1s5) (oSkip (.tmp 9) K47r1s5))
def K47r1:OpsF:=(oVal (.tmp 5) (kMove (.tmp 0)) (oVal (.tmp 6) (kInt aLss (.tmp 5) (.con (.int .i64 0))) (oVal (.tmp 7) (kMove (.tmp 6)) (oIf 7 false (oVal (.tmp 8) (kMove (.tmp 0)) K47r1s4) (oSkip (.tmp 8) K47r1s4)))))
def K47r2:OpsF:=(oVal (.tmp 4) (kMove (.con (.int .i64 3))) oNil)
def K47r3:OpsF:=(oVal (.tmp 4) (kMove (.con (.int .i64 0))) oNil)
theorem res47:Try.f47.results.toList=[.tmp 4]:=by kernel_rfl
def K47:K:=(kSeq (kRegion K47r0 [4]) (kSeq (kSeq (kRegion K47r1 [11]) (kCond (.tmp 11) (kSeq (kRegion K47r2 [4]) kRet) kSkip)) (kSeq (kRegion K47r3 [4]) kRet)))
theorem enter47 (cl:CallF) (a0 a1:AV) (s:St):enterA Try.prog X cl 47 [a0,a1] s Try.f47=finA Try.prog Try.f47 (K47 cl ⟨47,none,Try.f47.ntmps,X 47⟩ (paramsEnv 0 [a0,a1] .nil) [] s) :=
  enterA_eq (b:=Try.f47.body.getD .skip) (by kernel_rfl) (by kernel_rfl) (by kernel_rfl) (by kernel_rfl) (by kernel_rfl)
def K66r0:OpsF:=(oVal (.tmp 3) (kBox (tag 26) (.tmp 0)) (oVal (.tmp 6) (kMove (.con (.int .i64 0))) oNil))
def K66r1:OpsF:=(oEnd [] (oVal (.tmp 8) (kUn (fadA 0) (.tmp 3)) (oVal (.tmp 9) (kLoad none (.tmp 8)) (oVal (.tmp 10) (kMove (.tmp 1)) (oVal (.tmp 11) (kMove (.tmp 2)) (oCallT (some [13]) (.tmp 12) (.con (.func 28 [] [])) [(.tmp 9),(.tmp 10),(.tmp 11)] (oVal (.tmp 13) (kUn (fadA 1) (.tmp 3)) (oVal (.tmp 14) (kLoad none (.tmp 13)) (oVal (.tmp 15) (kMove (.tmp 1)) (oVal (.tmp 16) (kMove (.tmp 2)) (oCall (.tmp 17) (.con (.func 28 [] [])) [(.tmp 14),(.tmp 15),(.tmp 16)] (oVal (.tmp 18) (kBuildSlice [(.int .i64 0),(.int .i64 0)] 2 [(0,1,(.tmp 12)),(1,1,(.tmp 17))]) (oCall (.tmp 19) (.con (.func 24 [] [])) [(.tmp 18)] (oVal (.tmp 7) (kMove (.tmp 19)) oNil))))))))))))))
def K66r2:OpsF:=(oVal (.tmp 20) (kMove (.tmp 7)) (oVal (.tmp 21) (kInt aNeq (.tmp 20) (.con (.int .i64 0))) oNil))
def K66r3:OpsF:=(oVal (.tmp 22) (kMove (.tmp 7)) (oVal (.tmp 6) (kMove (.tmp 22)) oNil))
def K66r4:OpsF:=(oVal (.tmp 23) (kUn (fadA 0) (.tmp 3)) (oVal (.tmp 24) (kLoad none (.tmp 23)) (oVal (.tmp 25) (kUn (fadA 1) (.tmp 3)) (oVal (.tmp 26) (kLoad none (.tmp 25)) (oVal (.tmp 27) (kGtr (.tmp 24) (.tmp 26)) oNil)))))
def K66r5:OpsF:=(oVal (.tmp 6) (kMove (.con (.int .i64 5))) oNil)
def K66r6:OpsF:=(oVal (.tmp 6) (kMove (.con (.int .i64 0))) oNil)
theorem res66:Try.f66.results.toList=[.tmp 6]:=by kernel_rfl
def K66:K:=(kSeq (kRegion K66r0 [3,6]) (kSeq (kSeq (kRegionD K66r1 [7]) (kSeq (kRegion K66r2 [21]) (kCond (.tmp 21) (kSeq (kRegion K66r3 [6]) kRet) kSkip))) (kSeq (kSeq (kRegion K66r4 [27]) (kCond (.tmp 27) (kSeq (kRegion K66r5 [6]) kRet) kSkip)) (kSeq (kRegion K66r6 [6]) kRet))))
theorem enter66 (cl:CallF) (a0 a1 a2:AV) (s:St):enterA Try.prog X cl 66 [a0,a1,a2] s Try.f66=finA Try.prog Try.f66 (K66 cl ⟨66,none,Try.f66.ntmps,X 66⟩ (paramsEnv 0 [a0,a1,a2] .nil) [] s) :=
  enterA_eq (b:=Try.f66.body.getD .skip) (by kernel_rfl) (by kernel_rfl) (by kernel_rfl) (by kernel_rfl) (by kernel_rfl)
def K31r0:OpsF:=(oVal (.tmp 4) (kMove (.con (.int .i64 0))) oNil)
def K31r1:OpsF:=(oVal (.tmp 5) (kMove (.tmp 0)) oNil)
def K31r2:OpsF:=(oVal (.tmp 4) (kMove (.con (.int .i64 0))) oNil)
def K31r3:OpsF:=(oVal (.tmp 6) (kMove (.tmp 1)) (oVal (.tmp 4) (kMove (.tmp 6)) oNil))
theorem res31:Try.f31.results.toList=[.tmp 4]:=by kernel_rfl
def K31:K:=(kSeq (kRegion K31r0 [4]) (kSeq (kSeq (kRegion K31r1 [5]) (kCond (.tmp 5) (kSeq (kRegion K31r2 [4]) kRet) kSkip)) (kSeq (kRegion K31r3 [4]) kRet)))
theorem enter31 (cl:CallF) (a0 a1:AV) (s:St):enterA Try.prog X cl 31 [a0,a1] s Try.f31=finA Try.prog Try.f31 (K31 cl ⟨31,none,Try.f31.ntmps,X 31⟩ (paramsEnv 0 [a0,a1] .nil) [] s) :=
  enterA_eq (b:=Try.f31.body.getD .skip) (by kernel_rfl) (by kernel_rfl) (by kernel_rfl) (by kernel_rfl) (by kernel_rfl)
def K28r0:OpsF:=(oVal (.tmp 6) (kMove (.con (.int .i64 0))) oNil)
def K28r1s7:OpsF:=(oVal (.tmp 14) (kPick (.tmp 10) (.con (.bool true)) (.tmp 13)) oNil)
def K28r1s6:OpsF:=(oIf 10 false (oVal (.tmp 13) (kGtr (.tmp 11) (.tmp 12)) K28r1s7) (oSkip (.tmp 13) K28r1s7))
def K28r1s5:OpsF:=(oIf 10 false (oVal (.tmp 12) (kMove (.tmp 2)) K28r1s6) (oSkip (.tmp 12) K28r1s6))
def K28r1:OpsF:=(oVal (.tmp 7) (kMove (.tmp 0)) (oVal (.tmp 8) (kMove (.tmp 1)) (oVal (.tmp 9) (kInt aLss (.tmp 7) (.tmp 8)) (oVal (.tmp 10) (kMove (.tmp 9)) (oIf 10 false (oVal (.tmp 11) (kMove (.tmp 0)) K28r1s5) (oSkip (.tmp 11) K28r1s5))))))
def K28r2:OpsF:=(oVal (.tmp 6) (kMove (.con (.int .i64 1))) oNil)
def K28r3:OpsF:=(oVal (.tmp 6) (kMove (.con (.int .i64 0))) oNil)
theorem res28:Try.f28.results.toList=[.tmp 6]:=by kernel_rfl
def K28:K:=(kSeq (kRegion K28r0 [6]) (kSeq (kSeq (kRegion K28r1 [14]) (kCond (.tmp 14) (kSeq (kRegion K28r2 [6]) kRet) kSkip)) (kSeq (kRegion K28r3 [6]) kRet)))
theorem enter28 (cl:CallF) (a0 a1 a2:AV) (s:St):enterA Try.prog X cl 28 [a0,a1,a2] s Try.f28=finA Try.prog Try.f28 (K28 cl ⟨28,none,Try.f28.ntmps,X 28⟩ (paramsEnv 0 [a0,a1,a2] .nil) [] s) :=
  enterA_eq (b:=Try.f28.body.getD .skip) (by kernel_rfl) (by kernel_rfl) (by kernel_rfl) (by kernel_rfl) (by kernel_rfl)
def K25r0:OpsF:=(oVal (.tmp 1) (kBox (tag 31) (.tmp 0)) (oVal (.tmp 2) (kMove (.con (.int .i64 0))) oNil))
def K25r1:OpsF:=(oEnd [] (oVal (.tmp 3) (kUn (fadA 0) (.tmp 1)) (oVal (.tmp 4) (kLoad (some 2) (.tmp 3)) (oCallT (some [6,1,11]) (.tmp 5) (.con (.func 43 [] [])) [(.tmp 4)] (oVal (.tmp 6) (kUn (fadA 2) (.tmp 1)) (oVal (.tmp 7) (kLoad none (.tmp 6)) (oCallT (some [1,11]) (.tmp 8) (.con (.func 44 [] [])) [(.tmp 7)] (oVal (.tmp 9) (kLoad (some 5) (.tmp 1)) (oCallT (some [11]) (.tmp 10) (.con (.func 45 [] [])) [(.tmp 9)] (oVal (.tmp 11) (kUn (fadA 4) (.tmp 1)) (oVal (.tmp 12) (kLoad none (.tmp 11)) (oCall (.tmp 13) (.con (.func 46 [] [])) [(.tmp 12)] (oVal (.tmp 14) (kBuildSlice [(.int .i64 0),(.int .i64 0),(.int .i64 0),(.int .i64 0)] 4 [(0,1,(.tmp 5)),(1,1,(.tmp 8)),(2,1,(.tmp 10)),(3,1,(.tmp 13))]) (oCall (.tmp 15) (.con (.func 24 [] [])) [(.tmp 14)] (oVal (.tmp 2) (kMove (.tmp 15)) oNil)))))))))))))))
theorem res25:Try.f25.results.toList=[.tmp 2]:=by kernel_rfl
def K25:K:=(kSeq (kRegion K25r0 [1,2]) (kSeq (kRegionD K25r1 [2]) kRet))
theorem enter25 (cl:CallF) (a0:AV) (s:St):enterA Try.prog X cl 25 [a0] s Try.f25=finA Try.prog Try.f25 (K25 cl ⟨25,none,Try.f25.ntmps,X 25⟩ (paramsEnv 0 [a0] .nil) [] s) :=
  enterA_eq (b:=Try.f25.body.getD .skip) (by kernel_rfl) (by kernel_rfl) (by kernel_rfl) (by kernel_rfl) (by kernel_rfl)
def K26r0:OpsF:=(oVal (.tmp 2) (kBox (tag 31) (.tmp 0)) (oVal (.tmp 4) (kMove (.con (.int .i64 0))) oNil))
def K26r1:OpsF:=(oVal (.tmp 5) (kMove (.tmp 1)) (oVal (.tmp 6) (kUn (fadA 2) (.tmp 2)) (oVal (.tmp 7) (kLoad none (.tmp 6)) (oVal (.tmp 8) (kUn lenSlA (.tmp 7)) (oCall (.tmp 9) (.con (.func 47 [] [])) [(.tmp 5),(.tmp 8)] (oVal (.tmp 4) (kMove (.tmp 9)) oNil))))))
theorem res26:Try.f26.results.toList=[.tmp 4]:=by kernel_rfl
def K26:K:=(kSeq (kRegion K26r0 [2,4]) (kSeq (kRegion K26r1 [4]) kRet))
theorem enter26 (cl:CallF) (a0 a1:AV) (s:St):enterA Try.prog X cl 26 [a0,a1] s Try.f26=finA Try.prog Try.f26 (K26 cl ⟨26,none,Try.f26.ntmps,X 26⟩ (paramsEnv 0 [a0,a1] .nil) [] s) :=
  enterA_eq (b:=Try.f26.body.getD .skip) (by kernel_rfl) (by kernel_rfl) (by kernel_rfl) (by kernel_rfl) (by kernel_rfl)
def K44r0:OpsF:=(oVal (.tmp 2) (kMove (.con (.int .i64 0))) oNil)
def K44r1:OpsF:=(oVal (.tmp 7) (kMove (.tmp 0)) (oVal (.tmp 8) (kUn lenSlA (.tmp 7)) (oCall (.tmp 9) (.con (.func 48 [] [])) [(.tmp 8),(.con (.int .i64 0)),(.con (.int .i64 6))] (oVal (.tmp 3) (kMove (.tmp 9)) oNil))))
def K44r2:OpsF:=(oVal (.tmp 10) (kMove (.tmp 3)) (oVal (.tmp 11) (kInt aNeq (.tmp 10) (.con (.int .i64 0))) oNil))
def K44r3:OpsF:=(oVal (.tmp 12) (kMove (.tmp 3)) (oVal (.tmp 2) (kMove (.tmp 12)) oNil))
def K44r4:OpsF:=(oVal (.tmp 13) (kMove (.tmp 0)) (oVal (.tmp 14) (kUn lenSlA (.tmp 13)) (oVal (.tmp 15) (kMove (.con (.int .i64 0))) oNil)))
def K44r5:OpsF:=(oVal (.tmp 16) (kInt aLss (.tmp 15) (.tmp 14)) oNil)
def K44r6:OpsF:=(oVal (.tmp 17) (kTwo (ixsA 9) (.tmp 13) (.tmp 15)) (oVal (.tmp 18) (kLoad (some 9) (.tmp 17)) (oVal (.tmp 5) (kAlloc [(.int .i64 0),(.int .i64 0),(.int .i64 0),(.int .i64 0),(.int .i64 0),(.int .i64 0),(.int .i64 0),(.int .i64 0),(.int .i64 0)] (tag 53)) (oVal .none (kStore 9 (.tmp 5) (.tmp 18)) oNil))))
def K44r7:OpsF:=(oEnd [] (oVal (.tmp 19) (kUn (fadA 0) (.tmp 5)) (oVal (.tmp 20) (kLoad none (.tmp 19)) (oCallT (some [22,24,27,30,33,37,40]) (.tmp 21) (.con (.func 28 [] [])) [(.tmp 20),(.con (.int .i64 0)),(.con (.int .i64 100000))] (oVal (.tmp 22) (kUn (fadA 1) (.tmp 5)) (oVal (.tmp 23) (kLoad (some 2) (.tmp 22)) (oVal (.tmp 24) (kUn (fadA 0) (.tmp 5)) (oVal (.tmp 25) (kLoad none (.tmp 24)) (oCallT (some [27,30,33,37,40]) (.tmp 26) (.con (.func 66 [] [])) [(.tmp 23),(.con (.int .i64 0)),(.tmp 25)] (oVal (.tmp 27) (kUn (fadA 3) (.tmp 5)) (oVal (.tmp 28) (kLoad (some 2) (.tmp 27)) (oCallT (some [30,33,37,40]) (.tmp 29) (.con (.func 66 [] [])) [(.tmp 28),(.con (.int .i64 0)),(.con (.int .i64 100000))] (oVal (.tmp 30) (kUn (fadA 5) (.tmp 5)) (oVal (.tmp 31) (kLoad (some 2) (.tmp 30)) (oCallT (some [33,37,40]) (.tmp 32) (.con (.func 43 [] [])) [(.tmp 31)] (oVal (.tmp 33) (kUn (fadA 7) (.tmp 5)) (oVal (.tmp 34) (kLoad (some 2) (.tmp 33)) (oCallT (some [37,40]) (.tmp 35) (.con (.func 43 [] [])) [(.tmp 34)] (oVal (.tmp 36) (kUn (fadA 5) (.tmp 5)) (oVal (.tmp 37) (kUn (fadA 1) (.tmp 36)) (oVal (.tmp 38) (kLoad none (.tmp 37)) (oVal (.tmp 39) (kUn (fadA 7) (.tmp 5)) (oVal (.tmp 40) (kUn (fadA 0) (.tmp 39)) (oVal (.tmp 41) (kLoad none (.tmp 40)) (oVal (.tmp 42) (kInt aLeq (.tmp 38) (.tmp 41)) (oCall (.tmp 43) (.con (.func 31 [] [])) [(.tmp 42),(.con (.int .i64 9))] (oVal (.tmp 44) (kBuildSlice [(.int .i64 0),(.int .i64 0),(.int .i64 0),(.int .i64 0),(.int .i64 0),(.int .i64 0)] 6 [(0,1,(.tmp 21)),(1,1,(.tmp 26)),(2,1,(.tmp 29)),(3,1,(.tmp 32)),(4,1,(.tmp 35)),(5,1,(.tmp 43))]) (oCall (.tmp 45) (.con (.func 24 [] [])) [(.tmp 44)] (oVal (.tmp 6) (kMove (.tmp 45)) oNil)))))))))))))))))))))))))))))
def K44r8:OpsF:=(oVal (.tmp 46) (kMove (.tmp 6)) (oVal (.tmp 47) (kInt aNeq (.tmp 46) (.con (.int .i64 0))) oNil))
def K44r9:OpsF:=(oVal (.tmp 48) (kMove (.tmp 6)) (oVal (.tmp 2) (kMove (.tmp 48)) oNil))
def K44r10:OpsF:=(oVal (.tmp 49) (kInt aAdd (.tmp 15) (.con (.int .i64 1))) (oVal (.tmp 15) (kMove (.tmp 49)) oNil))
def K44l0:K:=(kSeq (kRegion K44r5 [16]) (kSeq (kCond (.tmp 16) kSkip (kExit 0)) (kSeq (kBlock 1 (kSeq (kRegion K44r6 [5]) (kSeq (kRegionD K44r7 [6]) (kSeq (kRegion K44r8 [47]) (kCond (.tmp 47) (kSeq (kRegion K44r9 [2]) kRet) kSkip))))) (kRegion K44r10 [15]))))
def K44r11:OpsF:=(oVal (.tmp 2) (kMove (.con (.int .i64 0))) oNil)
theorem res44:Try.f44.results.toList=[.tmp 2]:=by kernel_rfl
def K44:K:=(kSeq (kRegion K44r0 [2]) (kSeq (kSeq (kRegion K44r1 [3]) (kSeq (kRegion K44r2 [11]) (kCond (.tmp 11) (kSeq (kRegion K44r3 [2]) kRet) kSkip))) (kSeq (kSeq (kRegion K44r4 [13,14,15]) (kBlock 0 (kLoop K44l0))) (kSeq (kRegion K44r11 [2]) kRet))))
theorem enter44 (cl:CallF) (a0:AV) (s:St):enterA Try.prog X cl 44 [a0] s Try.f44=finA Try.prog Try.f44 (K44 cl ⟨44,none,Try.f44.ntmps,X 44⟩ (paramsEnv 0 [a0] .nil) [] s) :=
  enterA_eq (b:=Try.f44.body.getD .skip) (by kernel_rfl) (by kernel_rfl) (by kernel_rfl) (by kernel_rfl) (by kernel_rfl)
def K45r0:OpsF:=(oVal (.tmp 1) (kBox (tag 31) (.tmp 0)) (oVal (.tmp 2) (kMove (.con (.int .i64 0))) oNil))
def K45r1:OpsF:=(oVal (.tmp 8) (kUn (fadA 3) (.tmp 1)) (oVal (.tmp 9) (kLoad none (.tmp 8)) (oVal (.tmp 10) (kUn lenSlA (.tmp 9)) (oCall (.tmp 11) (.con (.func 48 [] [])) [(.tmp 10),(.con (.int .i64 0)),(.con (.int .i64 20))] (oVal (.tmp 3) (kMove (.tmp 11)) oNil)))))
def K45r2:OpsF:=(oVal (.tmp 12) (kMove (.tmp 3)) (oVal (.tmp 13) (kInt aNeq (.tmp 12) (.con (.int .i64 0))) oNil))
def K45r3:OpsF:=(oVal (.tmp 14) (kMove (.tmp 3)) (oVal (.tmp 2) (kMove (.tmp 14)) oNil))
def K45r4:OpsF:=(oVal (.tmp 4) (kMove (.con (.int .i64 0))) oNil)
def K45r5:OpsF:=(oVal (.tmp 15) (kUn (fadA 3) (.tmp 1)) (oVal (.tmp 16) (kLoad none (.tmp 15)) (oVal (.tmp 17) (kUn lenSlA (.tmp 16)) (oVal (.tmp 18) (kMove (.con (.int .i64 0))) oNil))))
def K45r6:OpsF:=(oVal (.tmp 19) (kInt aLss (.tmp 18) (.tmp 17)) oNil)
def K45r7:OpsF:=(oVal (.tmp 20) (kTwo (ixsA 3) (.tmp 16) (.tmp 18)) (oVal (.tmp 21) (kLoad (some 3) (.tmp 20)) (oVal (.tmp 6) (kAlloc [(.int .i64 0),(.int .i64 0),(.int .i64 0)] (tag 55)) (oVal .none (kStore 3 (.tmp 6) (.tmp 21)) oNil))))
def K45r8:OpsF:=(oEnd [] (oVal (.tmp 22) (kLoad (some 5) (.tmp 1)) (oVal (.tmp 23) (kUn (fadA 0) (.tmp 6)) (oVal (.tmp 24) (kLoad none (.tmp 23)) (oCallT (some [26,29,32]) (.tmp 25) (.con (.func 26 [] [])) [(.tmp 22),(.tmp 24)] (oVal (.tmp 26) (kUn (fadA 1) (.tmp 6)) (oVal (.tmp 27) (kLoad none (.tmp 26)) (oCallT (some [29,32]) (.tmp 28) (.con (.func 35 [] [])) [(.tmp 27)] (oVal (.tmp 29) (kUn (fadA 2) (.tmp 6)) (oVal (.tmp 30) (kLoad none (.tmp 29)) (oCallT (some [32]) (.tmp 31) (.con (.func 28 [] [])) [(.tmp 30),(.con (.int .i64 0)),(.con (.int .i64 100000))] (oVal (.tmp 32) (kUn (fadA 1) (.tmp 6)) (oVal (.tmp 33) (kLoad none (.tmp 32)) (oVal (.tmp 34) (kMove (.tmp 4)) (oVal (.tmp 35) (kInt aGeq (.tmp 33) (.tmp 34)) (oCall (.tmp 36) (.con (.func 31 [] [])) [(.tmp 35),(.con (.int .i64 5))] (oVal (.tmp 37) (kBuildSlice [(.int .i64 0),(.int .i64 0),(.int .i64 0),(.int .i64 0)] 4 [(0,1,(.tmp 25)),(1,1,(.tmp 28)),(2,1,(.tmp 31)),(3,1,(.tmp 36))]) (oCall (.tmp 38) (.con (.func 24 [] [])) [(.tmp 37)] (oVal (.tmp 7) (kMove (.tmp 38)) oNil)))))))))))))))))))
def K45r9:OpsF:=(oVal (.tmp 39) (kMove (.tmp 7)) (oVal (.tmp 40) (kInt aNeq (.tmp 39) (.con (.int .i64 0))) oNil))
def K45r10:OpsF:=(oVal (.tmp 41) (kMove (.tmp 7)) (oVal (.tmp 2) (kMove (.tmp 41)) oNil))
def K45r11:OpsF:=(oVal (.tmp 42) (kUn (fadA 1) (.tmp 6)) (oVal (.tmp 43) (kLoad none (.tmp 42)) (oVal (.tmp 4) (kMove (.tmp 43)) oNil)))
def K45r12:OpsF:=(oVal (.tmp 44) (kInt aAdd (.tmp 18) (.con (.int .i64 1))) (oVal (.tmp 18) (kMove (.tmp 44)) oNil))
def K45l0:K:=(kSeq (kRegion K45r6 [19]) (kSeq (kCond (.tmp 19) kSkip (kExit 0)) (kSeq (kBlock 1 (kSeq (kRegion K45r7 [6]) (kSeq (kRegionD K45r8 [7]) (kSeq (kSeq (kRegion K45r9 [40]) (kCond (.tmp 40) (kSeq (kRegion K45r10 [2]) kRet) kSkip)) (kRegion K45r11 [4]))))) (kRegion K45r12 [18]))))
def K45r13:OpsF:=(oVal (.tmp 2) (kMove (.con (.int .i64 0))) oNil)
theorem res45:Try.f45.results.toList=[.tmp 2]:=by kernel_rfl
def K45:K:=(kSeq (kRegion K45r0 [1,2]) (kSeq (kSeq (kRegion K45r1 [3]) (kSeq (kRegion K45r2 [13]) (kCond (.tmp 13) (kSeq (kRegion K45r3 [2]) kRet) kSkip))) (kSeq (kRegion K45r4 [4]) (kSeq (kSeq (kRegion K45r5 [16,17,18]) (kBlock 0 (kLoop K45l0))) (kSeq (kRegion K45r13 [2]) kRet)))))
theorem enter45 (cl:CallF) (a0:AV) (s:St):enterA Try.prog X cl 45 [a0] s Try.f45=finA Try.prog Try.f45 (K45 cl ⟨45,none,Try.f45.ntmps,X 45⟩ (paramsEnv 0 [a0] .nil) [] s) :=
  enterA_eq (b:=Try.f45.body.getD .skip) (by kernel_rfl) (by kernel_rfl) (by kernel_rfl) (by kernel_rfl) (by kernel_rfl)
def K35r0:OpsF:=(oVal (.tmp 2) (kMove (.con (.int .i64 0))) oNil)
def K35r1:OpsF:=(oVal (.tmp 3) (kMove (.tmp 0)) (oCall (.tmp 4) (.con (.func 28 [] [])) [(.tmp 3),(.con (.int .i64 0)),(.con (.int .i64 239))] (oVal (.tmp 2) (kMove (.tmp 4)) oNil)))
theorem res35:Try.f35.results.toList=[.tmp 2]:=by kernel_rfl
def K35:K:=(kSeq (kRegion K35r0 [2]) (kSeq (kRegion K35r1 [2]) kRet))
theorem enter35 (cl:CallF) (a0:AV) (s:St):enterA Try.prog X cl 35 [a0] s Try.f35=finA Try.prog Try.f35 (K35 cl ⟨35,none,Try.f35.ntmps,X 35⟩ (paramsEnv 0 [a0] .nil) [] s) :=
  enterA_eq (b:=Try.f35.body.getD .skip) (by kernel_rfl) (by kernel_rfl) (by kernel_rfl) (by kernel_rfl) (by kernel_rfl)
def K46r0:OpsF:=(oVal (.tmp 2) (kMove (.con (.int .i64 0))) oNil)
def K46r1:OpsF:=(oVal (.tmp 8) (kMove (.tmp 0)) (oVal (.tmp 9) (kUn lenSlA (.tmp 8)) (oCall (.tmp 10) (.con (.func 48 [] [])) [(.tmp 9),(.con (.int .i64 1)),(.con (.int .i64 6))] (oVal (.tmp 3) (kMove (.tmp 10)) oNil))))
def K46r2:OpsF:=(oVal (.tmp 11) (kMove (.tmp 3)) (oVal (.tmp 12) (kInt aNeq (.tmp 11) (.con (.int .i64 0))) oNil))
def K46r3:OpsF:=(oVal (.tmp 13) (kMove (.tmp 3)) (oVal (.tmp 2) (kMove (.tmp 13)) oNil))
def K46r4:OpsF:=(oVal (.tmp 14) (kBuild [(.int .i64 0),(.int .i64 0)] [(0,1,(.con (.int .i64 (-301))))]) (oVal (.tmp 4) (kAlloc [(.int .i64 0),(.int .i64 0)] (tag 57)) (oVal .none (kStore 2 (.tmp 4) (.tmp 14)) oNil)))
def K46r5:OpsF:=(oVal (.tmp 15) (kMove (.tmp 0)) (oVal (.tmp 16) (kUn lenSlA (.tmp 15)) (oVal (.tmp 17) (kMove (.con (.int .i64 0))) oNil)))
def K46r6:OpsF:=(oVal (.tmp 18) (kInt aLss (.tmp 17) (.tmp 16)) oNil)
def K46r7:OpsF:=(oVal (.tmp 19) (kTwo (ixsA 2) (.tmp 15) (.tmp 17)) (oVal (.tmp 20) (kLoad (some 2) (.tmp 19)) (oVal (.tmp 6) (kAlloc [(.int .i64 0),(.int .i64 0)] (tag 57)) (oVal .none (kStore 2 (.tmp 6) (.tmp 20)) oNil))))
def K46r8s17:OpsF:=(oVal (.tmp 38) (kPick (.tmp 32) (.tmp 37) (.con (.bool false))) (oCall (.tmp 39) (.con (.func 31 [] [])) [(.tmp 38),(.con (.int .i64 5))] (oVal (.tmp 40) (kBuildSlice [(.int .i64 0),(.int .i64 0),(.int .i64 0)] 3 [(0,1,(.tmp 23)),(1,1,(.tmp 26)),(2,1,(.tmp 39))]) (oCall (.tmp 41) (.con (.func 24 [] [])) [(.tmp 40)] (oVal (.tmp 7) (kMove (.tmp 41)) oNil)))))
def K46r8s16:OpsF:=(oIf 32 true (oVal (.tmp 37) (kInt aGeq (.tmp 34) (.tmp 36)) K46r8s17) (oSkip (.tmp 37) K46r8s17))
def K46r8s15:OpsF:=(oIf 32 true (oVal (.tmp 36) (kLoad none (.tmp 35)) K46r8s16) (oSkip (.tmp 36) K46r8s16))
def K46r8s14:OpsF:=(oIf 32 true (oVal (.tmp 35) (kUn (fadA 1) (.tmp 4)) K46r8s15) (oSkip (.tmp 35) K46r8s15))
def K46r8s13:OpsF:=(oIf 32 true (oVal (.tmp 34) (kLoad none (.tmp 33)) K46r8s14) (oSkip (.tmp 34) K46r8s14))
def K46r8:OpsF:=(oEnd [] (oVal (.tmp 21) (kUn (fadA 0) (.tmp 6)) (oVal (.tmp 22) (kLoad none (.tmp 21)) (oCallT (some [24,27,29]) (.tmp 23) (.con (.func 28 [] [])) [(.tmp 22),(.con (.int .i64 (-300))),(.con (.int .i64 400))] (oVal (.tmp 24) (kUn (fadA 1) (.tmp 6)) (oVal (.tmp 25) (kLoad none (.tmp 24)) (oCallT (some [27,29]) (.tmp 26) (.con (.func 28 [] [])) [(.tmp 25),(.con (.int .i64 0)),(.con (.int .i64 1000))] (oVal (.tmp 27) (kUn (fadA 0) (.tmp 6)) (oVal (.tmp 28) (kLoad none (.tmp 27)) (oVal (.tmp 29) (kUn (fadA 0) (.tmp 4)) (oVal (.tmp 30) (kLoad none (.tmp 29)) (oVal (.tmp 31) (kGtr (.tmp 28) (.tmp 30)) (oVal (.tmp 32) (kMove (.tmp 31)) (oIf 32 true (oVal (.tmp 33) (kUn (fadA 1) (.tmp 6)) K46r8s13) (oSkip (.tmp 33) K46r8s13)))))))))))))))
def K46r9:OpsF:=(oVal (.tmp 42) (kMove (.tmp 7)) (oVal (.tmp 43) (kInt aNeq (.tmp 42) (.con (.int .i64 0))) oNil))
def K46r10:OpsF:=(oVal (.tmp 44) (kMove (.tmp 7)) (oVal (.tmp 2) (kMove (.tmp 44)) oNil))
def K46r11:OpsF:=(oVal (.tmp 45) (kLoad (some 2) (.tmp 6)) (oVal .none (kStore 2 (.tmp 4) (.tmp 45)) oNil))
def K46r12:OpsF:=(oVal (.tmp 46) (kInt aAdd (.tmp 17) (.con (.int .i64 1))) (oVal (.tmp 17) (kMove (.tmp 46)) oNil))
def K46l0:K:=(kSeq (kRegion K46r6 [18]) (kSeq (kCond (.tmp 18) kSkip (kExit 0)) (kSeq (kBlock 1 (kSeq (kRegion K46r7 [6]) (kSeq (kRegionD K46r8 [7]) (kSeq (kSeq (kRegion K46r9 [43]) (kCond (.tmp 43) (kSeq (kRegion K46r10 [2]) kRet) kSkip)) (kRegion K46r11 []))))) (kRegion K46r12 [17]))))
def K46r13:OpsF:=(oVal (.tmp 2) (kMove (.con (.int .i64 0))) oNil)
theorem res46:Try.f46.results.toList=[.tmp 2]:=by kernel_rfl
def K46:K:=(kSeq (kRegion K46r0 [2]) (kSeq (kSeq (kRegion K46r1 [3]) (kSeq (kRegion K46r2 [12]) (kCond (.tmp 12) (kSeq (kRegion K46r3 [2]) kRet) kSkip))) (kSeq (kRegion K46r4 [4]) (kSeq (kSeq (kRegion K46r5 [15,16,17]) (kBlock 0 (kLoop K46l0))) (kSeq (kRegion K46r13 [2]) kRet)))))
theorem enter46 (cl:CallF) (a0:AV) (s:St):enterA Try.prog X cl 46 [a0] s Try.f46=finA Try.prog Try.f46 (K46 cl ⟨46,none,Try.f46.ntmps,X 46⟩ (paramsEnv 0 [a0] .nil) [] s) :=
  enterA_eq (b:=Try.f46.body.getD .skip) (by kernel_rfl) (by kernel_rfl) (by kernel_rfl) (by kernel_rfl) (by kernel_rfl)
def K43r0:OpsF:=(oVal (.tmp 1) (kBox (tag 26) (.tmp 0)) (oVal (.tmp 2) (kMove (.con (.int .i64 0))) oNil))
def K43r1:OpsF:=(oVal (.tmp 3) (kLoad (some 2) (.tmp 1)) (oCall (.tmp 4) (.con (.func 66 [] [])) [(.tmp 3),(.con (.int .i64 (-300))),(.con (.int .i64 400))] (oVal (.tmp 2) (kMove (.tmp 4)) oNil)))
theorem res43:Try.f43.results.toList=[.tmp 2]:=by kernel_rfl
def K43:K:=(kSeq (kRegion K43r0 [1,2]) (kSeq (kRegion K43r1 [2]) kRet))
theorem enter43 (cl:CallF) (a0:AV) (s:St):enterA Try.prog X cl 43 [a0] s Try.f43=finA Try.prog Try.f43 (K43 cl ⟨43,none,Try.f43.ntmps,X 43⟩ (paramsEnv 0 [a0] .nil) [] s) :=
  enterA_eq (b:=Try.f43.body.getD .skip) (by kernel_rfl) (by kernel_rfl) (by kernel_rfl) (by kernel_rfl) (by kernel_rfl)
end
end Go.Proofs.Ytkoefjgapmonaaa.code
set_option maxRecDepth 100000
namespace Go.Proofs.Ytkoefjgapmonaaa.code
open Go.Abs
noncomputable section
def K18r0:OpsF:=(oVal (.tmp 3) (kBox (tag 31) (.tmp 0)) (oVal (.tmp 6) (kAlloc [(.int .i64 0),(.int .i64 0)] (tag 26)) (oVal (.tmp 7) (kMove (.con (.int .i64 0))) oNil)))
def K18r1:OpsF:=(oEnd [] (oVal (.tmp 13) (kLoad (some 5) (.tmp 3)) (oCallT (some [3]) (.tmp 14) (.con (.func 25 [] [])) [(.tmp 13)] (oVal (.tmp 15) (kLoad (some 5) (.tmp 3)) (oVal (.tmp 16) (kMove (.tmp 1)) (oCall (.tmp 17) (.con (.func 26 [] [])) [(.tmp 15),(.tmp 16)] (oVal (.tmp 18) (kMove (.tmp 2)) (oCall (.tmp 19) (.con (.func 35 [] [])) [(.tmp 18)] (oVal (.tmp 20) (kBuildSlice [(.int .i64 0),(.int .i64 0),(.int .i64 0)] 3 [(0,1,(.tmp 14)),(1,1,(.tmp 17)),(2,1,(.tmp 19))]) (oCall (.tmp 21) (.con (.func 24 [] [])) [(.tmp 20)] (oVal (.tmp 8) (kMove (.tmp 21)) oNil)))))))))))
def K18r2:OpsF:=(oVal (.tmp 22) (kMove (.tmp 8)) (oVal (.tmp 23) (kInt aNeq (.tmp 22) (.con (.int .i64 0))) oNil))
def K18r3:OpsF:=(oVal (.tmp 24) (kBuild [(.int .i64 0),(.int .i64 0)] []) (oVal (.tmp 25) (kMove (.tmp 8)) (oVal .none (kStore 2 (.tmp 6) (.tmp 24)) (oVal (.tmp 7) (kMove (.tmp 25)) oNil))))
def K18r4:OpsF:=(oVal (.tmp 26) (kLoad (some 5) (.tmp 3)) (oVal (.tmp 27) (kMove (.tmp 1)) (oCall (.tmp 28) (.con (.func 29 [] [])) [(.tmp 26),(.tmp 27)] (oVal (.tmp 9) (kAlloc [(.int .i64 0),(.int .i64 0),(.int .i64 0),(.int .i64 0),(.int .i64 0),(.int .i64 0),(.int .i64 0),(.int .i64 0),(.int .i64 0),(.int .i64 0),(.int .i64 0),(.int .i64 0),.nilslice] (tag 77)) (oVal .none (kStore 13 (.tmp 9) (.tmp 28)) oNil)))))
def K18r5:OpsF:=(oVal (.tmp 10) (kAlloc [(.int .i64 0),(.int .i64 0)] (tag 75)) oNil)
def K18r6:OpsF:=(oVal (.tmp 29) (kMove (.tmp 2)) (oVal (.tmp 30) (kInt aAdd (.tmp 29) (.con (.int .i64 1))) (oCall (.tmp 31) (.con (.func 36 [] [])) [(.tmp 9),(.tmp 30)] oNil)))
def K18r7:OpsF:=(oVal (.tmp 35) (kLoad (some 2) (.tmp 10)) (oCall (.tmp 36) (.con (.func 37 [] [])) [(.tmp 35)] (oVal .none (kStore 2 (.tmp 6) (.tmp 36)) (oVal (.tmp 7) (kMove (.con (.int .i64 0))) oNil))))
theorem res18:Try.f18.results.toList=[.cell 6 26,.tmp 7]:=by kernel_rfl
def K18:K:=(kSeq (kRegion K18r0 [3,6,7]) (kSeq (kRegionD K18r1 [8]) (kSeq (kSeq (kRegion K18r2 [23]) (kCond (.tmp 23) (kSeq (kRegion K18r3 [7]) kRet) kSkip)) (kSeq (kRegion K18r4 [9]) (kSeq (kRegion K18r5 [10]) (kSeq (kSeq (kRegion K18r6 [31]) (kBlock 0 (kRange (.tmp 31) [32,33] (rangeAt Try.f18 0).1 (rangeAt Try.f18 0).2))) (kSeq (kRegion K18r7 [7]) kRet)))))))
theorem enter18 (cl:CallF) (a0 a1 a2:AV) (s:St):enterA Try.prog X cl 18 [a0,a1,a2] s Try.f18=finA Try.prog Try.f18 (K18 cl ⟨18,none,Try.f18.ntmps,X 18⟩ (paramsEnv 0 [a0,a1,a2] .nil) [] s) :=
  enterA_eq (b:=Try.f18.body.getD .skip) (by kernel_rfl) (by kernel_rfl) (by kernel_rfl) (by kernel_rfl) (by kernel_rfl)
def K18a0r0:OpsF:=(oVal (.tmp 12) (kAlloc [(.int .i64 0),(.int .i64 0)] (tag 75)) (oVal .none (kStore 2 (.tmp 12) (.tmp 33)) oNil))
def K18a0:K:=(kRegion K18a0r0 [12])
theorem code18a0:codeK Try.prog (X 18) Try.f18.ntmps (rangeAt Try.f18 0).1=some K18a0:=by kernel_rfl
def K18b0r0:OpsF:=(oVal (.tmp 34) (kLoad (some 2) (.tmp 12)) (oVal .none (kStore 2 (.tmp 10) (.tmp 34)) oNil))
def K18b0:K:=(kBlock 1 (kRegion K18b0r0 []))
theorem code18b0:codeK Try.prog (X 18) Try.f18.ntmps (rangeAt Try.f18 0).2=some K18b0:=by kernel_rfl
def K33r0:OpsF:=(oVal (.tmp 3) (kBox (tag 31) (.tmp 0)) (oVal (.tmp 6) (kMove (.con (.int .i64 0))) (oVal (.tmp 7) (kMove (.con (.int .i64 0))) oNil)))
def K33r1:OpsF:=(oVal (.tmp 11) (kLoad (some 5) (.tmp 3)) (oVal (.tmp 12) (kMove (.tmp 1)) (oVal (.tmp 13) (kMove (.tmp 2)) (oCall (.tmp 14) (.con (.func 18 [] [])) [(.tmp 11),(.tmp 12),(.tmp 13)] (oVal (.tmp 10) (kMove (.tmp 14)) (oVal (.tmp 15) (kUn (extA 0) (.tmp 10)) (oVal (.tmp 16) (kUn (extA 1) (.tmp 10)) (oVal (.tmp 8) (kAlloc [(.int .i64 0),(.int .i64 0)] (tag 26)) (oVal .none (kStore 2 (.tmp 8) (.tmp 15)) (oVal (.tmp 9) (kMove (.tmp 16)) oNil))))))))))
def K33r2:OpsF:=(oVal (.tmp 17) (kMove (.tmp 9)) (oVal (.tmp 18) (kInt aNeq (.tmp 17) (.con (.int .i64 0))) oNil))
def K33r3:OpsF:=(oVal (.tmp 19) (kMove (.tmp 9)) (oVal (.tmp 6) (kMove (.con (.int .i64 0))) (oVal (.tmp 7) (kMove (.tmp 19)) oNil)))
def K33r4:OpsF:=(oVal (.tmp 20) (kUn (fadA 1) (.tmp 8)) (oVal (.tmp 21) (kLoad none (.tmp 20)) (oVal (.tmp 22) (kGtr (.tmp 21) (.con (.int .i64 0))) (oVal (.tmp 23) (kUn (fadA 0) (.tmp 8)) (oVal (.tmp 24) (kLoad none (.tmp 23)) (oVal (.tmp 25) (kGtr (.tmp 24) (.con (.int .i64 0))) (oCall (.tmp 26) (.con (.func 56 [] [])) [(.tmp 22),(.tmp 25)] (oVal (.tmp 6) (kMove (.tmp 26)) (oVal (.tmp 7) (kMove (.con (.int .i64 0))) oNil)))))))))
theorem res33:Try.f33.results.toList=[.tmp 6,.tmp 7]:=by kernel_rfl
def K33:K:=(kSeq (kRegion K33r0 [3,6,7]) (kSeq (kRegion K33r1 [8,9]) (kSeq (kSeq (kRegion K33r2 [18]) (kCond (.tmp 18) (kSeq (kRegion K33r3 [6,7]) kRet) kSkip)) (kSeq (kRegion K33r4 [6,7]) kRet))))
theorem enter33 (cl:CallF) (a0 a1 a2:AV) (s:St):enterA Try.prog X cl 33 [a0,a1,a2] s Try.f33=finA Try.prog Try.f33 (K33 cl ⟨33,none,Try.f33.ntmps,X 33⟩ (paramsEnv 0 [a0,a1,a2] .nil) [] s) :=
  enterA_eq (b:=Try.f33.body.getD .skip) (by kernel_rfl) (by kernel_rfl) (by kernel_rfl) (by kernel_rfl) (by kernel_rfl)
def K29r0:OpsF:=(oVal (.tmp 2) (kBox (tag 31) (.tmp 0)) (oVal (.tmp 3) (kBox (tag 3) (.tmp 1)) (oVal (.tmp 4) (kAlloc [(.int .i64 0),(.int .i64 0),(.int .i64 0),(.int .i64 0),(.int .i64 0),(.int .i64 0),(.int .i64 0),(.int .i64 0),(.int .i64 0),(.int .i64 0),(.int .i64 0),(.int .i64 0),.nilslice] (tag 77)) oNil)))
def K29r1:OpsF:=(oVal (.tmp 6) (kFunc 49 [] [(.tmp 3)]) (oVal (.tmp 5) (kMove (.tmp 6)) oNil))
def K29r2:OpsF:=(oEnd [] (oVal (.tmp 7) (kUn (fadA 2) (.tmp 2)) (oVal (.tmp 8) (kLoad none (.tmp 7)) (oVal (.tmp 9) (kLoad none (.tmp 3)) (oVal (.tmp 10) (kTwo (ixsA 9) (.tmp 8) (.tmp 9)) (oVal (.tmp 11) (kLoad (some 9) (.tmp 10)) (oVal (.tmp 12) (kUn (fadA 2) (.tmp 2)) (oVal (.tmp 13) (kLoad none (.tmp 12)) (oVal (.tmp 14) (kLoad none (.tmp 3)) (oVal (.tmp 15) (kTwo (ixsA 9) (.tmp 13) (.tmp 14)) (oVal (.tmp 16) (kUn (fadA 1) (.tmp 15)) (oVal (.tmp 17) (kLoad (some 2) (.tmp 16)) (oCallT (some [7,3,10,19]) (.tmp 18) (.con (.func 50 [] [])) [(.tmp 17)] (oVal (.tmp 19) (kUn (fadA 3) (.tmp 2)) (oVal (.tmp 20) (kLoad none (.tmp 19)) (oCallT (some [7,3,10]) (.tmp 21) (.con (.func 52 [] [])) [(.tmp 20)] (oVal (.tmp 22) (kMove (.tmp 5)) (oCallT (some [7,3,10]) (.tmp 23) (.con (.func 51 [] [])) [(.tmp 21),(.tmp 22)] (oVal (.tmp 24) (kBuild [(.int .i64 0),(.int .i64 0),(.int .i64 0),(.int .i64 0),(.int .i64 0),(.int .i64 0),(.int .i64 0),(.int .i64 0),(.int .i64 0),(.int .i64 0),(.int .i64 0),(.int .i64 0),.nilslice] [(0,9,(.tmp 11)),(10,2,(.tmp 18)),(12,1,(.tmp 23))]) (oVal .none (kStore 13 (.tmp 4) (.tmp 24)) oNil))))))))))))))))))))
theorem res29:Try.f29.results.toList=[.cell 4 77]:=by kernel_rfl
def K29:K:=(kSeq (kRegion K29r0 [2,3,4]) (kSeq (kRegion K29r1 [5]) (kSeq (kRegionD K29r2 []) kRet)))
theorem enter29 (cl:CallF) (a0 a1:AV) (s:St):enterA Try.prog X cl 29 [a0,a1] s Try.f29=finA Try.prog Try.f29 (K29 cl ⟨29,none,Try.f29.ntmps,X 29⟩ (paramsEnv 0 [a0,a1] .nil) [] s) :=
  enterA_eq (b:=Try.f29.body.getD .skip) (by kernel_rfl) (by kernel_rfl) (by kernel_rfl) (by kernel_rfl) (by kernel_rfl)
def K36r0:OpsF:=(oVal (.tmp 2) (kBox (tag 111) (.tmp 0)) (oVal (.tmp 3) (kBox (tag 3) (.tmp 1)) (oVal (.tmp 4) (kMove (.con .nilfunc)) oNil)))
def K36r1:OpsF:=(oVal (.tmp 5) (kFunc 57 [] [(.tmp 2),(.tmp 3)]) (oVal (.tmp 4) (kMove (.tmp 5)) oNil))
theorem res36:Try.f36.results.toList=[.tmp 4]:=by kernel_rfl
def K36:K:=(kSeq (kRegion K36r0 [2,3,4]) (kSeq (kRegion K36r1 [4]) kRet))
theorem enter36 (cl:CallF) (a0 a1:AV) (s:St):enterA Try.prog X cl 36 [a0,a1] s Try.f36=finA Try.prog Try.f36 (K36 cl ⟨36,none,Try.f36.ntmps,X 36⟩ (paramsEnv 0 [a0,a1] .nil) [] s) :=
  enterA_eq (b:=Try.f36.body.getD .skip) (by kernel_rfl) (by kernel_rfl) (by kernel_rfl) (by kernel_rfl) (by kernel_rfl)
def K37r0:OpsF:=(oVal (.tmp 1) (kBox (tag 75) (.tmp 0)) (oVal (.tmp 2) (kAlloc [(.int .i64 0),(.int .i64 0)] (tag 26)) oNil))
def K37r1:OpsF:=(oVal (.tmp 3) (kTwo (ixaA 2 1) (.tmp 1) (.con (.int .i64 0))) (oVal (.tmp 4) (kLoad none (.tmp 3)) (oVal (.tmp 5) (kTwo (ixaA 2 1) (.tmp 1) (.con (.int .i64 1))) (oVal (.tmp 6) (kLoad none (.tmp 5)) (oVal (.tmp 7) (kBuild [(.int .i64 0),(.int .i64 0)] [(0,1,(.tmp 4)),(1,1,(.tmp 6))]) (oVal .none (kStore 2 (.tmp 2) (.tmp 7)) oNil))))))
theorem res37:Try.f37.results.toList=[.cell 2 26]:=by kernel_rfl
def K37:K:=(kSeq (kRegion K37r0 [1,2]) (kSeq (kRegion K37r1 []) kRet))
theorem enter37 (cl:CallF) (a0:AV) (s:St):enterA Try.prog X cl 37 [a0] s Try.f37=finA Try.prog Try.f37 (K37 cl ⟨37,none,Try.f37.ntmps,X 37⟩ (paramsEnv 0 [a0] .nil) [] s) :=
  enterA_eq (b:=Try.f37.body.getD .skip) (by kernel_rfl) (by kernel_rfl) (by kernel_rfl) (by kernel_rfl) (by kernel_rfl)
def K56r0:OpsF:=(oVal (.tmp 4) (kMove (.con (.int .i64 0))) oNil)
def K56r1:OpsF:=(oVal (.tmp 6) (kMove (.tmp 1)) (oVal (.tmp 5) (kMove (.tmp 6)) oNil))
def K56r2:OpsF:=(oVal (.tmp 4) (kMove (.con (.int .i64 1))) oNil)
def K56r3:OpsF:=(oVal (.tmp 8) (kMove (.tmp 0)) (oVal (.tmp 7) (kMove (.tmp 8)) oNil))
def K56r4:OpsF:=(oVal (.tmp 4) (kMove (.con (.int .i64 3))) oNil)
def K56r5:OpsF:=(oVal (.tmp 4) (kMove (.con (.int .i64 2))) oNil)
theorem res56:Try.f56.results.toList=[.tmp 4]:=by kernel_rfl
def K56:K:=(kSeq (kRegion K56r0 [4]) (kSeq (kBlock 0 (kSeq (kRegion K56r1 [5]) (kCond (.tmp 5) (kSeq (kRegion K56r2 [4]) kRet) (kSeq (kRegion K56r3 [7]) (kCond (.tmp 7) (kSeq (kRegion K56r4 [4]) kRet) kSkip))))) (kSeq (kRegion K56r5 [4]) kRet)))
theorem enter56 (cl:CallF) (a0 a1:AV) (s:St):enterA Try.prog X cl 56 [a0,a1] s Try.f56=finA Try.prog Try.f56 (K56 cl ⟨56,none,Try.f56.ntmps,X 56⟩ (paramsEnv 0 [a0,a1] .nil) [] s) :=
  enterA_eq (b:=Try.f56.body.getD .skip) (by kernel_rfl) (by kernel_rfl) (by kernel_rfl) (by kernel_rfl) (by kernel_rfl)
def K49r0:OpsF:=(oVal (.tmp 2) (kBox (tag 55) (.tmp 0)) (oVal (.tmp 3) (kMove (.con (.bool false))) oNil))
def K49r1:OpsF:=(oVal (.tmp 4) (kUn (fadA 0) (.tmp 2)) (oVal (.tmp 5) (kLoad none (.tmp 4)) (oVal (.tmp 6) (kLoad none (.tmp 1)) (oVal (.tmp 7) (kInt aNeq (.tmp 5) (.tmp 6)) (oVal (.tmp 3) (kMove (.tmp 7)) oNil)))))
theorem res49:Try.f49.results.toList=[.tmp 3]:=by kernel_rfl
def K49:K:=(kSeq (kRegion K49r0 [2,3]) (kSeq (kRegion K49r1 [3]) kRet))
theorem enter49 (cl:CallF) (a0 a1:AV) (s:St):enterA Try.prog X cl 49 [a0,a1] s Try.f49=finA Try.prog Try.f49 (K49 cl ⟨49,none,Try.f49.ntmps,X 49⟩ (paramsEnv 0 [a0,a1] .nil) [] s) :=
  enterA_eq (b:=Try.f49.body.getD .skip) (by kernel_rfl) (by kernel_rfl) (by kernel_rfl) (by kernel_rfl) (by kernel_rfl)
def K50r0:OpsF:=(oVal (.tmp 1) (kBox (tag 26) (.tmp 0)) (oVal (.tmp 2) (kAlloc [(.int .i64 0),(.int .i64 0)] (tag 75)) oNil))
def K50r1:OpsF:=(oVal (.tmp 3) (kUn (fadA 0) (.tmp 1)) (oVal (.tmp 4) (kLoad none (.tmp 3)) (oVal (.tmp 5) (kUn (fadA 1) (.tmp 1)) (oVal (.tmp 6) (kLoad none (.tmp 5)) (oVal (.tmp 7) (kBuild [(.int .i64 0),(.int .i64 0)] [(0,1,(.tmp 4)),(1,1,(.tmp 6))]) (oVal .none (kStore 2 (.tmp 2) (.tmp 7)) oNil))))))
theorem res50:Try.f50.results.toList=[.cell 2 75]:=by kernel_rfl
def K50:K:=(kSeq (kRegion K50r0 [1,2]) (kSeq (kRegion K50r1 []) kRet))
theorem enter50 (cl:CallF) (a0:AV) (s:St):enterA Try.prog X cl 50 [a0] s Try.f50=finA Try.prog Try.f50 (K50 cl ⟨50,none,Try.f50.ntmps,X 50⟩ (paramsEnv 0 [a0] .nil) [] s) :=
  enterA_eq (b:=Try.f50.body.getD .skip) (by kernel_rfl) (by kernel_rfl) (by kernel_rfl) (by kernel_rfl) (by kernel_rfl)
def K51r0:OpsF:=(oVal (.tmp 4) (kMove (.con .nilslice)) oNil)
def K51r1:OpsF:=(oVal (.tmp 8) (kMove (.tmp 0)) (oVal (.tmp 9) (kMove (.tmp 1)) (oCall (.tmp 10) (.con (.func 67 [] [])) [(.tmp 8),(.tmp 9)] (oVal (.tmp 5) (kMove (.tmp 10)) oNil))))
def K51r2:OpsF:=(oVal (.tmp 11) (kMove (.tmp 5)) (oVal (.tmp 12) (kInt aEql (.tmp 11) (.con (.int .i64 (-1)))) oNil))
def K51r3:OpsF:=(oVal (.tmp 13) (kMove (.tmp 0)) (oVal (.tmp 4) (kMove (.tmp 13)) oNil))
def K51r4:OpsF:=(oVal (.tmp 14) (kMove (.tmp 5)) (oVal (.tmp 15) (kInt aAdd (.tmp 14) (.con (.int .i64 1))) (oVal (.tmp 6) (kMove (.tmp 15)) oNil)))
def K51r5:OpsF:=(oVal (.tmp 16) (kMove (.tmp 6)) (oVal (.tmp 17) (kMove (.tmp 0)) (oVal (.tmp 18) (kUn lenSlA (.tmp 17)) (oVal (.tmp 19) (kInt aLss (.tmp 16) (.tmp 18)) oNil))))
def K51r6:OpsF:=(oVal (.tmp 22) (kMove (.tmp 0)) (oVal (.tmp 23) (kMove (.tmp 6)) (oVal (.tmp 24) (kTwo (ixsA 3) (.tmp 22) (.tmp 23)) (oVal (.tmp 25) (kLoad (some 3) (.tmp 24)) (oVal (.tmp 7) (kAlloc [(.int .i64 0),(.int .i64 0),(.int .i64 0)] (tag 55)) (oVal .none (kStore 3 (.tmp 7) (.tmp 25)) oNil))))))
def K51r7:OpsF:=(oVal (.tmp 26) (kMove (.tmp 1)) (oVal (.tmp 27) (kLoad (some 3) (.tmp 7)) (oCall (.tmp 28) (.tmp 26) [(.tmp 27)] (oVal (.tmp 29) (kUn notA (.tmp 28)) oNil))))
def K51r8:OpsF:=(oVal (.tmp 30) (kMove (.tmp 0)) (oVal (.tmp 31) (kMove (.tmp 5)) (oVal (.tmp 32) (kLoad (some 3) (.tmp 7)) (oVal (.tmp 33) (kTwo (ixsA 3) (.tmp 30) (.tmp 31)) (oVal .none (kStore 3 (.tmp 33) (.tmp 32)) oNil)))))
def K51r9:OpsF:=(oVal (.tmp 34) (kMove (.tmp 5)) (oVal (.tmp 35) (kInt aAdd (.tmp 34) (.con (.int .i64 1))) (oVal (.tmp 5) (kMove (.tmp 35)) oNil)))
def K51r10:OpsF:=(oVal (.tmp 20) (kMove (.tmp 6)) (oVal (.tmp 21) (kInt aAdd (.tmp 20) (.con (.int .i64 1))) (oVal (.tmp 6) (kMove (.tmp 21)) oNil)))
def K51l0:K:=(kSeq (kSeq (kRegion K51r5 [19]) (kCond (.tmp 19) kSkip (kExit 0))) (kSeq (kBlock 1 (kSeq (kRegion K51r6 [7]) (kSeq (kRegion K51r7 [29]) (kCond (.tmp 29) (kSeq (kRegion K51r8 []) (kRegion K51r9 [5])) kSkip)))) (kRegion K51r10 [6])))
def K51r11:OpsF:=(oVal (.tmp 36) (kMove (.tmp 0)) (oVal (.tmp 37) (kMove (.tmp 5)) (oVal (.tmp 38) (kSlice (sliceVal 3) (.tmp 36) (some (.tmp 37)) none) (oVal .none (kUn (clearA [(.int .i64 0),(.int .i64 0),(.int .i64 0)]) (.tmp 38)) oNil))))
def K51r12:OpsF:=(oVal (.tmp 39) (kMove (.tmp 0)) (oVal (.tmp 40) (kMove (.tmp 5)) (oVal (.tmp 41) (kSlice (sliceVal 3) (.tmp 39) none (some (.tmp 40))) (oVal (.tmp 4) (kMove (.tmp 41)) oNil))))
theorem res51:Try.f51.results.toList=[.tmp 4]:=by kernel_rfl
def K51:K:=(kSeq (kRegion K51r0 [4]) (kSeq (kRegion K51r1 [5]) (kSeq (kSeq (kRegion K51r2 [12]) (kCond (.tmp 12) (kSeq (kRegion K51r3 [4]) kRet) kSkip)) (kSeq (kSeq (kRegion K51r4 [6]) (kBlock 0 (kLoop K51l0))) (kSeq (kRegion K51r11 []) (kSeq (kRegion K51r12 [4]) kRet))))))
theorem enter51 (cl:CallF) (a0 a1:AV) (s:St):enterA Try.prog X cl 51 [a0,a1] s Try.f51=finA Try.prog Try.f51 (K51 cl ⟨51,none,Try.f51.ntmps,X 51⟩ (paramsEnv 0 [a0,a1] .nil) [] s) :=
  enterA_eq (b:=Try.f51.body.getD .skip) (by kernel_rfl) (by kernel_rfl) (by kernel_rfl) (by kernel_rfl) (by kernel_rfl)
def K52r0:OpsF:=(oVal (.tmp 2) (kMove (.con .nilslice)) oNil)
def K52r1:OpsF:=(oVal (.tmp 3) (kMove (.tmp 0)) (oVal (.tmp 4) (kEql .nilS false (.tmp 3) (.con .nilslice)) oNil))
def K52r2:OpsF:=(oVal (.tmp 2) (kMove (.con .nilslice)) oNil)
def K52r3:OpsF:=(oVal (.tmp 5) (kBuildSlice [] 0 []) (oVal (.tmp 6) (kMove (.tmp 0)) (oVal (.tmp 7) (kTwo (appendA false 3 24 (tag 55)) (.tmp 5) (.tmp 6)) (oVal (.tmp 2) (kMove (.tmp 7)) oNil))))
theorem res52:Try.f52.results.toList=[.tmp 2]:=by kernel_rfl
def K52:K:=(kSeq (kRegion K52r0 [2]) (kSeq (kSeq (kRegion K52r1 [4]) (kCond (.tmp 4) (kSeq (kRegion K52r2 [2]) kRet) kSkip)) (kSeq (kRegion K52r3 [2]) kRet)))
theorem enter52 (cl:CallF) (a0:AV) (s:St):enterA Try.prog X cl 52 [a0] s Try.f52=finA Try.prog Try.f52 (K52 cl ⟨52,none,Try.f52.ntmps,X 52⟩ (paramsEnv 0 [a0] .nil) [] s) :=
  enterA_eq (b:=Try.f52.body.getD .skip) (by kernel_rfl) (by kernel_rfl) (by kernel_rfl) (by kernel_rfl) (by kernel_rfl)
def K57r0:OpsF:=(oEnd [] (oVal (.tmp 4) (kLoad none (.tmp 1)) (oVal (.tmp 5) (kUn nilA (.tmp 4)) (oVal (.tmp 6) (kUn (fadA 9) (.tmp 5)) (oVal (.tmp 7) (kLoad none (.tmp 6)) (oVal (.tmp 8) (kLoad none (.tmp 2)) (oVal (.tmp 9) (kInt aLss (.tmp 7) (.tmp 8)) oNil)))))))
def K57r1:OpsF:=(oVal (.tmp 10) (kLoad none (.tmp 1)) (oCall (.tmp 11) (.con (.func 58 [] [])) [(.tmp 10)] oNil))
def K57r2:OpsF:=(oEnd [] (oVal (.tmp 12) (kMove (.tmp 0)) (oVal (.tmp 13) (kLoad none (.tmp 1)) (oVal (.tmp 14) (kUn nilA (.tmp 13)) (oVal (.tmp 15) (kUn (fadA 9) (.tmp 14)) (oVal (.tmp 16) (kLoad none (.tmp 15)) (oVal (.tmp 17) (kLoad none (.tmp 1)) (oVal (.tmp 18) (kUn nilA (.tmp 17)) (oVal (.tmp 19) (kUn (fadA 10) (.tmp 18)) (oVal (.tmp 20) (kLoad (some 2) (.tmp 19)) (oCall (.tmp 21) (.tmp 12) [(.tmp 16),(.tmp 20)] (oVal (.tmp 22) (kUn notA (.tmp 21)) oNil))))))))))))
def K57r3:OpsF:=(oVal (.tmp 23) (kLoad none (.tmp 1)) (oCall (.tmp 24) (.con (.func 59 [] [])) [(.tmp 23)] oNil))
def K57r4:OpsF:=(oVal (.tmp 25) (kLoad none (.tmp 1)) (oVal (.tmp 26) (kUn nilA (.tmp 25)) (oVal (.tmp 27) (kUn (fadA 9) (.tmp 26)) (oVal (.tmp 28) (kLoad none (.tmp 27)) (oVal (.tmp 29) (kInt aAdd (.tmp 28) (.con (.int .i64 1))) (oVal (.tmp 30) (kUn nilA (.tmp 25)) (oVal (.tmp 31) (kUn (fadA 9) (.tmp 30)) (oVal .none (kStore 1 (.tmp 31) (.tmp 29)) oNil))))))))
def K57l0:K:=(kSeq (kSeq (kRegionD K57r0 [9]) (kCond (.tmp 9) kSkip (kExit 0))) (kBlock 1 (kSeq (kRegion K57r1 []) (kSeq (kSeq (kRegionD K57r2 [22]) (kCond (.tmp 22) kRet kSkip)) (kSeq (kRegion K57r3 []) (kRegion K57r4 []))))))
theorem res57:Try.f57.results.toList=[]:=by kernel_rfl
def K57:K:=(kBlock 0 (kLoop K57l0))
theorem enter57 (cl:CallF) (a0 a1 a2:AV) (s:St):enterA Try.prog X cl 57 [a0,a1,a2] s Try.f57=finA Try.prog Try.f57 (K57 cl ⟨57,none,Try.f57.ntmps,X 57⟩ (paramsEnv 0 [a0,a1,a2] .nil) [] s) :=
  enterA_eq (b:=Try.f57.body.getD .skip) (by kernel_rfl) (by kernel_rfl) (by kernel_rfl) (by kernel_rfl) (by kernel_rfl)
def K58r0s19:OpsF:=(oVal (.tmp 21) (kPick (.tmp 8) (.tmp 20) (.con (.bool false))) oNil)
def K58r0s18:OpsF:=(oIf 8 true (oVal (.tmp 20) (kInt aEql (.tmp 15) (.tmp 19)) K58r0s19) (oSkip (.tmp 20) K58r0s19))
def K58r0s17:OpsF:=(oIf 8 true (oVal (.tmp 19) (kLoad none (.tmp 18)) K58r0s18) (oSkip (.tmp 19) K58r0s18))
def K58r0s16:OpsF:=(oIf 8 true (oVal (.tmp 18) (kUn (fadA 9) (.tmp 17)) K58r0s17) (oSkip (.tmp 18) K58r0s17))
def K58r0s15:OpsF:=(oIf 8 true (oVal (.tmp 17) (kUn nilA (.tmp 16)) K58r0s16) (oSkip (.tmp 17) K58r0s16))
def K58r0s14:OpsF:=(oIf 8 true (oVal (.tmp 16) (kMove (.tmp 0)) K58r0s15) (oSkip (.tmp 16) K58r0s15))
def K58r0s13:OpsF:=(oIf 8 true (oVal (.tmp 15) (kLoad none (.tmp 14)) K58r0s14) (oSkip (.tmp 15) K58r0s14))
def K58r0s12:OpsF:=(oIf 8 true (oVal (.tmp 14) (kUn (fadA 1) (.tmp 13)) K58r0s13) (oSkip (.tmp 14) K58r0s13))
def K58r0s11:OpsF:=(oIf 8 true (oVal (.tmp 13) (kTwo (ixsA 3) (.tmp 12) (.con (.int .i64 0))) K58r0s12) (oSkip (.tmp 13) K58r0s12))
def K58r0s10:OpsF:=(oIf 8 true (oVal (.tmp 12) (kLoad none (.tmp 11)) K58r0s11) (oSkip (.tmp 12) K58r0s11))
def K58r0s9:OpsF:=(oIf 8 true (oVal (.tmp 11) (kUn (fadA 12) (.tmp 10)) K58r0s10) (oSkip (.tmp 11) K58r0s10))
def K58r0s8:OpsF:=(oIf 8 true (oVal (.tmp 10) (kUn nilA (.tmp 9)) K58r0s9) (oSkip (.tmp 10) K58r0s9))
def K58r0:OpsF:=(oEnd [] (oVal (.tmp 2) (kMove (.tmp 0)) (oVal (.tmp 3) (kUn nilA (.tmp 2)) (oVal (.tmp 4) (kUn (fadA 12) (.tmp 3)) (oVal (.tmp 5) (kLoad none (.tmp 4)) (oVal (.tmp 6) (kUn lenSlA (.tmp 5)) (oVal (.tmp 7) (kGtr (.tmp 6) (.con (.int .i64 0))) (oVal (.tmp 8) (kMove (.tmp 7)) (oIf 8 true (oVal (.tmp 9) (kMove (.tmp 0)) K58r0s8) (oSkip (.tmp 9) K58r0s8))))))))))
def K58r1:OpsF:=(oVal (.tmp 22) (kMove (.tmp 0)) (oVal (.tmp 23) (kMove (.tmp 0)) (oVal (.tmp 24) (kUn nilA (.tmp 23)) (oVal (.tmp 25) (kUn (fadA 12) (.tmp 24)) (oVal (.tmp 26) (kLoad none (.tmp 25)) (oVal (.tmp 27) (kTwo (ixsA 3) (.tmp 26) (.con (.int .i64 0))) (oVal (.tmp 28) (kUn (fadA 2) (.tmp 27)) (oVal (.tmp 29) (kLoad none (.tmp 28)) (oCall (.tmp 30) (.con (.func 68 [] [])) [(.tmp 22),(.tmp 29)] oNil)))))))))
def K58r2:OpsF:=(oVal (.tmp 31) (kMove (.tmp 0)) (oVal (.tmp 32) (kMove (.tmp 0)) (oVal (.tmp 33) (kUn nilA (.tmp 32)) (oVal (.tmp 34) (kUn (fadA 12) (.tmp 33)) (oVal (.tmp 35) (kLoad none (.tmp 34)) (oVal (.tmp 36) (kSlice (sliceVal 3) (.tmp 35) (some (.con (.int .i64 1))) none) (oVal (.tmp 37) (kUn nilA (.tmp 31)) (oVal (.tmp 38) (kUn (fadA 12) (.tmp 37)) (oVal .none (kStore 1 (.tmp 38) (.tmp 36)) oNil)))))))))
def K58l0:K:=(kSeq (kSeq (kRegionD K58r0 [21]) (kCond (.tmp 21) kSkip (kExit 0))) (kBlock 1 (kSeq (kRegion K58r1 []) (kRegion K58r2 []))))
theorem res58:Try.f58.results.toList=[]:=by kernel_rfl
def K58:K:=(kBlock 0 (kLoop K58l0))
theorem enter58 (cl:CallF) (a0:AV) (s:St):enterA Try.prog X cl 58 [a0] s Try.f58=finA Try.prog Try.f58 (K58 cl ⟨58,none,Try.f58.ntmps,X 58⟩ (paramsEnv 0 [a0] .nil) [] s) :=
  enterA_eq (b:=Try.f58.body.getD .skip) (by kernel_rfl) (by kernel_rfl) (by kernel_rfl) (by kernel_rfl) (by kernel_rfl)
def K59r0:OpsF:=(oEnd [] (oVal (.tmp 2) (kMove (.tmp 0)) (oVal (.tmp 3) (kMove (.tmp 0)) (oVal (.tmp 4) (kUn nilA (.tmp 3)) (oVal (.tmp 5) (kUn (fadA 10) (.tmp 4)) (oVal (.tmp 6) (kTwo (ixaA 2 1) (.tmp 5) (.con (.int .i64 0))) (oVal (.tmp 7) (kLoad none (.tmp 6)) (oVal (.tmp 8) (kMove (.tmp 0)) (oVal (.tmp 9) (kUn nilA (.tmp 8)) (oVal (.tmp 10) (kUn (fadA 0) (.tmp 9)) (oVal (.tmp 11) (kUn (fadA 3) (.tmp 10)) (oVal (.tmp 12) (kUn (fadA 1) (.tmp 11)) (oVal (.tmp 13) (kLoad none (.tmp 12)) (oVal (.tmp 14) (kInt aSub (.tmp 7) (.tmp 13)) (oVal (.tmp 15) (kFold maxA (.con (.int .i64 0)) [(.tmp 14)]) (oVal (.tmp 16) (kUn nilA (.tmp 2)) (oVal (.tmp 17) (kUn (fadA 10) (.tmp 16)) (oVal (.tmp 18) (kTwo (ixaA 2 1) (.tmp 17) (.con (.int .i64 0))) (oVal .none (kStore 1 (.tmp 18) (.tmp 15)) oNil)))))))))))))))))))
def K59r1:OpsF:=(oEnd [] (oVal (.tmp 19) (kMove (.tmp 0)) (oVal (.tmp 20) (kMove (.tmp 0)) (oVal (.tmp 21) (kUn nilA (.tmp 20)) (oVal (.tmp 22) (kUn (fadA 10) (.tmp 21)) (oVal (.tmp 23) (kTwo (ixaA 2 1) (.tmp 22) (.con (.int .i64 1))) (oVal (.tmp 24) (kLoad none (.tmp 23)) (oVal (.tmp 25) (kMove (.tmp 0)) (oVal (.tmp 26) (kUn nilA (.tmp 25)) (oVal (.tmp 27) (kUn (fadA 0) (.tmp 26)) (oVal (.tmp 28) (kUn (fadA 3) (.tmp 27)) (oVal (.tmp 29) (kUn (fadA 0) (.tmp 28)) (oVal (.tmp 30) (kLoad none (.tmp 29)) (oVal (.tmp 31) (kInt aSub (.tmp 24) (.tmp 30)) (oVal (.tmp 32) (kFold maxA (.con (.int .i64 0)) [(.tmp 31)]) (oVal (.tmp 33) (kUn nilA (.tmp 19)) (oVal (.tmp 34) (kUn (fadA 10) (.tmp 33)) (oVal (.tmp 35) (kTwo (ixaA 2 1) (.tmp 34) (.con (.int .i64 1))) (oVal .none (kStore 1 (.tmp 35) (.tmp 32)) oNil)))))))))))))))))))
theorem res59:Try.f59.results.toList=[]:=by kernel_rfl
def K59:K:=(kSeq (kRegionD K59r0 []) (kRegionD K59r1 []))
theorem enter59 (cl:CallF) (a0:AV) (s:St):enterA Try.prog X cl 59 [a0] s Try.f59=finA Try.prog Try.f59 (K59 cl ⟨59,none,Try.f59.ntmps,X 59⟩ (paramsEnv 0 [a0] .nil) [] s) :=
  enterA_eq (b:=Try.f59.body.getD .skip) (by kernel_rfl) (by kernel_rfl) (by kernel_rfl) (by kernel_rfl) (by kernel_rfl)
def K67r0:OpsF:=(oVal (.tmp 4) (kMove (.con (.int .i64 0))) oNil)
def K67r1:OpsF:=(oVal (.tmp 6) (kMove (.tmp 0)) (oVal (.tmp 7) (kUn lenSlA (.tmp 6)) (oVal (.tmp 8) (kMove (.con (.int .i64 0))) oNil)))
def K67r2:OpsF:=(oVal (.tmp 9) (kInt aLss (.tmp 8) (.tmp 7)) oNil)
def K67r3:OpsF:=(oVal (.tmp 10) (kMove (.tmp 8)) (oVal (.tmp 5) (kMove (.tmp 10)) oNil))
def K67r4:OpsF:=(oVal (.tmp 11) (kMove (.tmp 1)) (oVal (.tmp 12) (kMove (.tmp 0)) (oVal (.tmp 13) (kMove (.tmp 5)) (oVal (.tmp 14) (kTwo (ixsA 3) (.tmp 12) (.tmp 13)) (oVal (.tmp 15) (kLoad (some 3) (.tmp 14)) (oCall (.tmp 16) (.tmp 11) [(.tmp 15)] oNil))))))
def K67r5:OpsF:=(oVal (.tmp 17) (kMove (.tmp 5)) (oVal (.tmp 4) (kMove (.tmp 17)) oNil))
def K67r6:OpsF:=(oVal (.tmp 18) (kInt aAdd (.tmp 8) (.con (.int .i64 1))) (oVal (.tmp 8) (kMove (.tmp 18)) oNil))
def K67l0:K:=(kSeq (kRegion K67r2 [9]) (kSeq (kCond (.tmp 9) kSkip (kExit 0)) (kSeq (kBlock 1 (kSeq (kRegion K67r3 [5]) (kSeq (kRegion K67r4 [16]) (kCond (.tmp 16) (kSeq (kRegion K67r5 [4]) kRet) kSkip)))) (kRegion K67r6 [8]))))
def K67r7:OpsF:=(oVal (.tmp 4) (kMove (.con (.int .i64 (-1)))) oNil)
theorem res67:Try.f67.results.toList=[.tmp 4]:=by kernel_rfl
def K67:K:=(kSeq (kRegion K67r0 [4]) (kSeq (kSeq (kRegion K67r1 [7,8]) (kBlock 0 (kLoop K67l0))) (kSeq (kRegion K67r7 [4]) kRet)))
theorem enter67 (cl:CallF) (a0 a1:AV) (s:St):enterA Try.prog X cl 67 [a0,a1] s Try.f67=finA Try.prog Try.f67 (K67 cl ⟨67,none,Try.f67.ntmps,X 67⟩ (paramsEnv 0 [a0,a1] .nil) [] s) :=
  enterA_eq (b:=Try.f67.body.getD .skip) (by kernel_rfl) (by kernel_rfl) (by kernel_rfl) (by kernel_rfl) (by kernel_rfl)
def K68r0:OpsF:=(oVal (.tmp 5) (kMove (.con (.int .i64 0))) oNil)
def K68r1:OpsF:=(oVal (.tmp 6) (kInt aLss (.tmp 5) (.con (.int .i64 2))) oNil)
def K68r2:OpsF:=(oVal (.tmp 7) (kMove (.tmp 5)) (oVal (.tmp 4) (kMove (.tmp 7)) oNil))
def K68r3:OpsF:=(oEnd [] (oVal (.tmp 8) (kMove (.tmp 0)) (oVal (.tmp 9) (kMove (.tmp 4)) (oVal (.tmp 10) (kMove (.tmp 0)) (oVal (.tmp 11) (kMove (.tmp 4)) (oVal (.tmp 12) (kUn nilA (.tmp 10)) (oVal (.tmp 13) (kUn (fadA 10) (.tmp 12)) (oVal (.tmp 14) (kTwo (ixaA 2 1) (.tmp 13) (.tmp 11)) (oVal (.tmp 15) (kLoad none (.tmp 14)) (oVal (.tmp 16) (kMove (.tmp 1)) (oVal (.tmp 17) (kInt aAdd (.tmp 15) (.tmp 16)) (oVal (.tmp 18) (kMove (.tmp 0)) (oVal (.tmp 19) (kUn nilA (.tmp 18)) (oVal (.tmp 20) (kUn (fadA 0) (.tmp 19)) (oVal (.tmp 21) (kUn (fadA 0) (.tmp 20)) (oVal (.tmp 22) (kLoad none (.tmp 21)) (oVal (.tmp 23) (kFold minA (.tmp 17) [(.tmp 22)]) (oVal (.tmp 24) (kUn nilA (.tmp 8)) (oVal (.tmp 25) (kUn (fadA 10) (.tmp 24)) (oVal (.tmp 26) (kTwo (ixaA 2 1) (.tmp 25) (.tmp 9)) (oVal .none (kStore 1 (.tmp 26) (.tmp 23)) oNil)))))))))))))))))))))
def K68r4:OpsF:=(oVal (.tmp 27) (kInt aAdd (.tmp 5) (.con (.int .i64 1))) (oVal (.tmp 5) (kMove (.tmp 27)) oNil))
def K68l0:K:=(kSeq (kRegion K68r1 [6]) (kSeq (kCond (.tmp 6) kSkip (kExit 0)) (kSeq (kBlock 1 (kSeq (kRegion K68r2 [4]) (kRegionD K68r3 []))) (kRegion K68r4 [5]))))
theorem res68:Try.f68.results.toList=[]:=by kernel_rfl
def K68:K:=(kSeq (kRegion K68r0 [5]) (kBlock 0 (kLoop K68l0)))
theorem enter68 (cl:CallF) (a0 a1:AV) (s:St):enterA Try.prog X cl 68 [a0,a1] s Try.f68=finA Try.prog Try.f68 (K68 cl ⟨68,none,Try.f68.ntmps,X 68⟩ (paramsEnv 0 [a0,a1] .nil) [] s) :=
  enterA_eq (b:=Try.f68.body.getD .skip) (by kernel_rfl) (by kernel_rfl) (by kernel_rfl) (by kernel_rfl) (by kernel_rfl)
end
end Go.Proofs.Ytkoefjgapmonaaa.code
set_option maxRecDepth 100000
namespace Go.Proofs.Ytkoefjgapmonaaa.code
open Go.Abs
noncomputable section
end
end Go.Proofs.Ytkoefjgapmonaaa.code
set_option maxRecDepth 100000
namespace Go.Proofs.Ytkoefjgapmonaaa.code
open Go.Abs
noncomputable section
def K16r0:OpsF:=(oVal (.tmp 2) (kMove (.con (.int .u64 0))) oNil)
def K16r1:OpsF:=(oVal (.tmp 4) (kMove (.tmp 0)) (oVal (.tmp 5) (kMove (.tmp 0)) (oVal (.tmp 6) (kUn nilA (.tmp 5)) (oVal (.tmp 7) (kUn (fadA 0) (.tmp 6)) (oVal (.tmp 8) (kLoad none (.tmp 7)) (oVal (.tmp 9) (kInt aAdd (.tmp 8) (.con (.int .u64 11562461410679940143))) (oVal (.tmp 10) (kUn nilA (.tmp 4)) (oVal (.tmp 11) (kUn (fadA 0) (.tmp 10)) (oVal .none (kStore 1 (.tmp 11) (.tmp 9)) oNil)))))))))
def K16r2:OpsF:=(oVal (.tmp 12) (kMove (.tmp 0)) (oVal (.tmp 13) (kUn nilA (.tmp 12)) (oVal (.tmp 14) (kUn (fadA 0) (.tmp 13)) (oVal (.tmp 15) (kLoad none (.tmp 14)) (oVal (.tmp 3) (kMove (.tmp 15)) oNil)))))
def K16r3:OpsF:=(oVal (.tmp 16) (kMove (.tmp 3)) (oVal (.tmp 17) (kMove (.tmp 3)) (oVal (.tmp 18) (kShr (.tmp 17) (.con (.int .u64 30))) (oVal (.tmp 19) (kInt aXor (.tmp 16) (.tmp 18)) (oVal (.tmp 20) (kInt aMul (.tmp 19) (.con (.int .u64 13787848793156543929))) (oVal (.tmp 3) (kMove (.tmp 20)) oNil))))))
def K16r4:OpsF:=(oVal (.tmp 21) (kMove (.tmp 3)) (oVal (.tmp 22) (kMove (.tmp 3)) (oVal (.tmp 23) (kShr (.tmp 22) (.con (.int .u64 27))) (oVal (.tmp 24) (kInt aXor (.tmp 21) (.tmp 23)) (oVal (.tmp 25) (kInt aMul (.tmp 24) (.con (.int .u64 10723151780598845931))) (oVal (.tmp 3) (kMove (.tmp 25)) oNil))))))
def K16r5:OpsF:=(oVal (.tmp 26) (kMove (.tmp 3)) (oVal (.tmp 27) (kMove (.tmp 3)) (oVal (.tmp 28) (kShr (.tmp 27) (.con (.int .u64 31))) (oVal (.tmp 29) (kInt aXor (.tmp 26) (.tmp 28)) (oVal (.tmp 2) (kMove (.tmp 29)) oNil)))))
theorem res16:Try.f16.results.toList=[.tmp 2]:=by kernel_rfl
def K16:K:=(kSeq (kRegion K16r0 [2]) (kSeq (kRegion K16r1 []) (kSeq (kRegion K16r2 [3]) (kSeq (kRegion K16r3 [3]) (kSeq (kRegion K16r4 [3]) (kSeq (kRegion K16r5 [2]) kRet))))))
theorem enter16 (cl:CallF) (a0:AV) (s:St):enterA Try.prog X cl 16 [a0] s Try.f16=finA Try.prog Try.f16 (K16 cl ⟨16,none,Try.f16.ntmps,X 16⟩ (paramsEnv 0 [a0] .nil) [] s) :=
  enterA_eq (b:=Try.f16.body.getD .skip) (by kernel_rfl) (by kernel_rfl) (by kernel_rfl) (by kernel_rfl) (by kernel_rfl)
def K7r0:OpsF:=(oVal (.tmp 4) (kMove (.con (.int .i64 0))) oNil)
def K7r1:OpsF:=(oVal (.tmp 5) (kMove (.tmp 1)) (oVal (.tmp 6) (kInt aLss (.tmp 5) (.con (.int .i64 2))) oNil))
def K7r2:OpsF:=(oVal (.tmp 4) (kMove (.con (.int .i64 0))) oNil)
def K7r3:OpsF:=(oVal (.tmp 7) (kMove (.tmp 0)) (oCall (.tmp 8) (.con (.func 16 [] [])) [(.tmp 7)] (oVal (.tmp 9) (kShr (.tmp 8) (.con (.int .u64 2))) (oVal (.tmp 10) (kMove (.tmp 1)) (oVal (.tmp 11) (kUn (cviA .u64) (.tmp 10)) (oVal (.tmp 12) (kInt aRem (.tmp 9) (.tmp 11)) (oVal (.tmp 13) (kUn (cviA .i64) (.tmp 12)) (oVal (.tmp 4) (kMove (.tmp 13)) oNil))))))))
theorem res7:Try.f7.results.toList=[.tmp 4]:=by kernel_rfl
def K7:K:=(kSeq (kRegion K7r0 [4]) (kSeq (kSeq (kRegion K7r1 [6]) (kCond (.tmp 6) (kSeq (kRegion K7r2 [4]) kRet) kSkip)) (kSeq (kRegion K7r3 [4]) kRet)))
theorem enter7 (cl:CallF) (a0 a1:AV) (s:St):enterA Try.prog X cl 7 [a0,a1] s Try.f7=finA Try.prog Try.f7 (K7 cl ⟨7,none,Try.f7.ntmps,X 7⟩ (paramsEnv 0 [a0,a1] .nil) [] s) :=
  enterA_eq (b:=Try.f7.body.getD .skip) (by kernel_rfl) (by kernel_rfl) (by kernel_rfl) (by kernel_rfl) (by kernel_rfl)
def K9r0:OpsF:=(oVal (.tmp 6) (kMove (.con (.int .i64 0))) oNil)
def K9r1:OpsF:=(oVal (.tmp 7) (kMove (.tmp 1)) (oVal (.tmp 8) (kMove (.tmp 0)) (oVal (.tmp 9) (kMove (.tmp 2)) (oVal (.tmp 10) (kMove (.tmp 1)) (oVal (.tmp 11) (kInt aSub (.tmp 9) (.tmp 10)) (oVal (.tmp 12) (kInt aAdd (.tmp 11) (.con (.int .i64 1))) (oCall (.tmp 13) (.con (.func 7 [] [])) [(.tmp 8),(.tmp 12)] (oVal (.tmp 14) (kInt aAdd (.tmp 7) (.tmp 13)) (oVal (.tmp 6) (kMove (.tmp 14)) oNil)))))))))
theorem res9:Try.f9.results.toList=[.tmp 6]:=by kernel_rfl
def K9:K:=(kSeq (kRegion K9r0 [6]) (kSeq (kRegion K9r1 [6]) kRet))
theorem enter9 (cl:CallF) (a0 a1 a2:AV) (s:St):enterA Try.prog X cl 9 [a0,a1,a2] s Try.f9=finA Try.prog Try.f9 (K9 cl ⟨9,none,Try.f9.ntmps,X 9⟩ (paramsEnv 0 [a0,a1,a2] .nil) [] s) :=
  enterA_eq (b:=Try.f9.body.getD .skip) (by kernel_rfl) (by kernel_rfl) (by kernel_rfl) (by kernel_rfl) (by kernel_rfl)
def K10r0:OpsF:=(oVal (.tmp 4) (kMove (.con (.int .i64 0))) oNil)
def K10r1:OpsF:=(oVal (.tmp 5) (kMove (.tmp 1)) (oVal (.tmp 6) (kUn lenSlA (.tmp 5)) (oVal (.tmp 7) (kInt aEql (.tmp 6) (.con (.int .i64 0))) oNil)))
def K10r2:OpsF:=(oVal (.tmp 4) (kMove (.con (.int .i64 0))) oNil)
def K10r3:OpsF:=(oVal (.tmp 8) (kMove (.tmp 1)) (oVal (.tmp 9) (kMove (.tmp 0)) (oVal (.tmp 10) (kMove (.tmp 1)) (oVal (.tmp 11) (kUn lenSlA (.tmp 10)) (oCall (.tmp 12) (.con (.func 7 [] [])) [(.tmp 9),(.tmp 11)] (oVal (.tmp 13) (kTwo (ixsA 1) (.tmp 8) (.tmp 12)) (oVal (.tmp 14) (kLoad none (.tmp 13)) (oVal (.tmp 4) (kMove (.tmp 14)) oNil))))))))
theorem res10:Try.f10.results.toList=[.tmp 4]:=by kernel_rfl
def K10:K:=(kSeq (kRegion K10r0 [4]) (kSeq (kSeq (kRegion K10r1 [7]) (kCond (.tmp 7) (kSeq (kRegion K10r2 [4]) kRet) kSkip)) (kSeq (kRegion K10r3 [4]) kRet)))
theorem enter10 (cl:CallF) (a0 a1:AV) (s:St):enterA Try.prog X cl 10 [a0,a1] s Try.f10=finA Try.prog Try.f10 (K10 cl ⟨10,none,Try.f10.ntmps,X 10⟩ (paramsEnv 0 [a0,a1] .nil) [] s) :=
  enterA_eq (b:=Try.f10.body.getD .skip) (by kernel_rfl) (by kernel_rfl) (by kernel_rfl) (by kernel_rfl) (by kernel_rfl)
def K17r0:OpsF:=(oVal (.tmp 6) (kAlloc [(.int .i64 0),(.int .i64 0)] (tag 26)) oNil)
def K17r1:OpsF:=(oVal (.tmp 9) (kMove (.tmp 0)) (oVal (.tmp 10) (kMove (.tmp 1)) (oVal (.tmp 11) (kMove (.tmp 2)) (oCall (.tmp 12) (.con (.func 9 [] [])) [(.tmp 9),(.tmp 10),(.tmp 11)] (oVal (.tmp 7) (kMove (.tmp 12)) oNil)))))
def K17r2:OpsF:=(oVal (.tmp 13) (kMove (.tmp 0)) (oVal (.tmp 14) (kMove (.tmp 7)) (oVal (.tmp 15) (kMove (.tmp 2)) (oVal (.tmp 16) (kMove (.tmp 7)) (oVal (.tmp 17) (kInt aAdd (.tmp 16) (.con (.int .i64 4))) (oVal (.tmp 18) (kFold minA (.tmp 15) [(.tmp 17)]) (oVal (.tmp 19) (kMove (.tmp 2)) (oVal (.tmp 20) (kBuildSlice [(.int .i64 0),(.int .i64 0),(.int .i64 0)] 3 [(0,1,(.tmp 14)),(1,1,(.tmp 18)),(2,1,(.tmp 19))]) (oCall (.tmp 21) (.con (.func 10 [] [])) [(.tmp 13),(.tmp 20)] (oVal (.tmp 8) (kMove (.tmp 21)) oNil))))))))))
def K17r3:OpsF:=(oVal (.tmp 22) (kMove (.tmp 7)) (oVal (.tmp 23) (kMove (.tmp 0)) (oVal (.tmp 24) (kMove (.tmp 7)) (oVal (.tmp 25) (kMove (.tmp 8)) (oCall (.tmp 26) (.con (.func 9 [] [])) [(.tmp 23),(.tmp 24),(.tmp 25)] (oVal (.tmp 27) (kBuild [(.int .i64 0),(.int .i64 0)] [(0,1,(.tmp 22)),(1,1,(.tmp 26))]) (oVal .none (kStore 2 (.tmp 6) (.tmp 27)) oNil)))))))
theorem res17:Try.f17.results.toList=[.cell 6 26]:=by kernel_rfl
def K17:K:=(kSeq (kRegion K17r0 [6]) (kSeq (kRegion K17r1 [7]) (kSeq (kRegion K17r2 [8]) (kSeq (kRegion K17r3 []) kRet))))
theorem enter17 (cl:CallF) (a0 a1 a2:AV) (s:St):enterA Try.prog X cl 17 [a0,a1,a2] s Try.f17=finA Try.prog Try.f17 (K17 cl ⟨17,none,Try.f17.ntmps,X 17⟩ (paramsEnv 0 [a0,a1,a2] .nil) [] s) :=
  enterA_eq (b:=Try.f17.body.getD .skip) (by kernel_rfl) (by kernel_rfl) (by kernel_rfl) (by kernel_rfl) (by kernel_rfl)
end
end Go.Proofs.Ytkoefjgapmonaaa.code
set_option maxRecDepth 100000
namespace Go.Proofs.Ytkoefjgapmonaaa.code
open Go.Abs
noncomputable section
def K5r0:OpsF:=(oVal (.tmp 6) (kAlloc [(.int .i64 0),(.int .i64 0),.nilslice,.nilslice,.nilslice] (tag 31)) oNil)
def K5r1:OpsF:=(oVal (.tmp 16) (kMove (.tmp 0)) (oCall (.tmp 17) (.con (.func 17 [] [])) [(.tmp 16),(.con (.int .i64 (-20))),(.con (.int .i64 200))] (oVal (.tmp 18) (kBuild [(.int .i64 0),(.int .i64 0),.nilslice,.nilslice,.nilslice] [(0,2,(.tmp 17))]) (oVal (.tmp 7) (kAlloc [(.int .i64 0),(.int .i64 0),.nilslice,.nilslice,.nilslice] (tag 31)) (oVal .none (kStore 5 (.tmp 7) (.tmp 18)) oNil)))))
def K5r2:OpsF:=(oVal (.tmp 19) (kMove (.tmp 0)) (oVal (.tmp 20) (kMove (.tmp 1)) (oVal (.tmp 21) (kInt aAdd (.tmp 20) (.con (.int .i64 1))) (oCall (.tmp 22) (.con (.func 7 [] [])) [(.tmp 19),(.tmp 21)] (oVal (.tmp 8) (kMove (.tmp 22)) oNil)))))
def K5r3:OpsF:=(oVal (.tmp 23) (kMove (.tmp 8)) (oVal (.tmp 24) (kGtr (.tmp 23) (.con (.int .i64 0))) oNil))
def K5r4:OpsF:=(oVal (.tmp 27) (kMove (.tmp 0)) (oVal (.tmp 28) (kMove (.tmp 0)) (oVal (.tmp 29) (kBuildSlice [(.int .i64 0),(.int .i64 0)] 2 [(0,1,(.con (.int .i64 30))),(1,1,(.con (.int .i64 500)))]) (oCall (.tmp 30) (.con (.func 10 [] [])) [(.tmp 28),(.tmp 29)] (oCall (.tmp 31) (.con (.func 9 [] [])) [(.tmp 27),(.con (.int .i64 1)),(.tmp 30)] (oVal (.tmp 32) (kBuild [(.int .i64 0),(.int .i64 0),(.int .i64 0),(.int .i64 0),(.int .i64 0),(.int .i64 0),(.int .i64 0),(.int .i64 0),(.int .i64 0)] [(0,1,(.tmp 31))]) (oVal (.tmp 9) (kAlloc [(.int .i64 0),(.int .i64 0),(.int .i64 0),(.int .i64 0),(.int .i64 0),(.int .i64 0),(.int .i64 0),(.int .i64 0),(.int .i64 0)] (tag 53)) (oVal .none (kStore 9 (.tmp 9) (.tmp 32)) oNil))))))))
def K5r5:OpsF:=(oEnd [] (oVal (.tmp 33) (kMove (.tmp 0)) (oVal (.tmp 34) (kUn (fadA 0) (.tmp 9)) (oVal (.tmp 35) (kLoad none (.tmp 34)) (oCallT (some [39]) (.tmp 36) (.con (.func 17 [] [])) [(.tmp 33),(.con (.int .i64 0)),(.tmp 35)] (oVal (.tmp 37) (kMove (.tmp 0)) (oVal (.tmp 38) (kMove (.tmp 0)) (oVal (.tmp 39) (kUn (fadA 0) (.tmp 9)) (oVal (.tmp 40) (kLoad none (.tmp 39)) (oVal (.tmp 41) (kInt aQuo (.tmp 40) (.con (.int .i64 4))) (oVal (.tmp 42) (kInt aAdd (.con (.int .i64 1)) (.tmp 41)) (oVal (.tmp 43) (kBuildSlice [(.int .i64 0),(.int .i64 0)] 2 [(0,1,(.con (.int .i64 2))),(1,1,(.tmp 42))]) (oCall (.tmp 44) (.con (.func 10 [] [])) [(.tmp 38),(.tmp 43)] (oCall (.tmp 45) (.con (.func 17 [] [])) [(.tmp 37),(.con (.int .i64 0)),(.tmp 44)] (oVal (.tmp 46) (kUn (fadA 1) (.tmp 9)) (oVal .none (kStore 2 (.tmp 46) (.tmp 36)) (oVal (.tmp 47) (kUn (fadA 3) (.tmp 9)) (oVal .none (kStore 2 (.tmp 47) (.tmp 45)) oNil))))))))))))))))))
def K5r6:OpsF:=(oVal (.tmp 48) (kMove (.tmp 0)) (oCall (.tmp 49) (.con (.func 17 [] [])) [(.tmp 48),(.con (.int .i64 (-50))),(.con (.int .i64 30))] (oVal (.tmp 50) (kUn (fadA 5) (.tmp 9)) (oVal .none (kStore 2 (.tmp 50) (.tmp 49)) oNil))))
def K5r7:OpsF:=(oVal (.tmp 51) (kMove (.tmp 0)) (oVal (.tmp 52) (kUn (fadA 5) (.tmp 9)) (oVal (.tmp 53) (kUn (fadA 1) (.tmp 52)) (oVal (.tmp 54) (kLoad none (.tmp 53)) (oVal (.tmp 55) (kUn (fadA 5) (.tmp 9)) (oVal (.tmp 56) (kUn (fadA 1) (.tmp 55)) (oVal (.tmp 57) (kLoad none (.tmp 56)) (oVal (.tmp 58) (kInt aAdd (.tmp 57) (.con (.int .i64 120))) (oCall (.tmp 59) (.con (.func 17 [] [])) [(.tmp 51),(.tmp 54),(.tmp 58)] (oVal (.tmp 60) (kUn (fadA 7) (.tmp 9)) (oVal .none (kStore 2 (.tmp 60) (.tmp 59)) oNil)))))))))))
def K5r8:OpsF:=(oVal (.tmp 61) (kUn (fadA 2) (.tmp 7)) (oVal (.tmp 62) (kLoad none (.tmp 61)) (oVal (.tmp 63) (kLoad (some 9) (.tmp 9)) (oVal (.tmp 64) (kBuildSlice [(.int .i64 0),(.int .i64 0),(.int .i64 0),(.int .i64 0),(.int .i64 0),(.int .i64 0),(.int .i64 0),(.int .i64 0),(.int .i64 0)] 1 [(0,9,(.tmp 63))]) (oVal (.tmp 65) (kTwo (appendA false 9 72 (tag 53)) (.tmp 62) (.tmp 64)) (oVal (.tmp 66) (kUn (fadA 2) (.tmp 7)) (oVal .none (kStore 1 (.tmp 66) (.tmp 65)) oNil)))))))
def K5r9:OpsF:=(oVal (.tmp 25) (kMove (.tmp 8)) (oVal (.tmp 26) (kInt aSub (.tmp 25) (.con (.int .i64 1))) (oVal (.tmp 8) (kMove (.tmp 26)) oNil)))
def K5l0:K:=(kSeq (kSeq (kRegion K5r3 [24]) (kCond (.tmp 24) kSkip (kExit 0))) (kSeq (kBlock 1 (kSeq (kRegion K5r4 [9]) (kSeq (kRegionD K5r5 []) (kSeq (kRegion K5r6 []) (kSeq (kRegion K5r7 []) (kRegion K5r8 [])))))) (kRegion K5r9 [8])))
def K5r10:OpsF:=(oVal (.tmp 10) (kMove (.con (.int .i64 0))) oNil)
def K5r11:OpsF:=(oVal (.tmp 67) (kMove (.tmp 0)) (oVal (.tmp 68) (kMove (.tmp 2)) (oVal (.tmp 69) (kInt aAdd (.tmp 68) (.con (.int .i64 1))) (oCall (.tmp 70) (.con (.func 7 [] [])) [(.tmp 67),(.tmp 69)] (oVal (.tmp 11) (kMove (.tmp 70)) oNil)))))
def K5r12s7:OpsF:=(oVal (.tmp 78) (kPick (.tmp 73) (.tmp 77) (.con (.bool false))) oNil)
def K5r12s6:OpsF:=(oIf 73 true (oVal (.tmp 77) (kGtr (.tmp 76) (.con (.int .i64 0))) K5r12s7) (oSkip (.tmp 77) K5r12s7))
def K5r12s5:OpsF:=(oIf 73 true (oVal (.tmp 76) (kUn lenSlA (.tmp 75)) K5r12s6) (oSkip (.tmp 76) K5r12s6))
def K5r12s4:OpsF:=(oIf 73 true (oVal (.tmp 75) (kLoad none (.tmp 74)) K5r12s5) (oSkip (.tmp 75) K5r12s5))
def K5r12:OpsF:=(oVal (.tmp 71) (kMove (.tmp 11)) (oVal (.tmp 72) (kGtr (.tmp 71) (.con (.int .i64 0))) (oVal (.tmp 73) (kMove (.tmp 72)) (oIf 73 true (oVal (.tmp 74) (kUn (fadA 2) (.tmp 7)) K5r12s4) (oSkip (.tmp 74) K5r12s4)))))
def K5r13:OpsF:=(oVal (.tmp 81) (kMove (.tmp 10)) (oVal (.tmp 82) (kMove (.tmp 0)) (oCall (.tmp 83) (.con (.func 7 [] [])) [(.tmp 82),(.con (.int .i64 6))] (oVal (.tmp 84) (kInt aAdd (.tmp 81) (.tmp 83)) (oVal (.tmp 10) (kMove (.tmp 84)) oNil)))))
def K5r14:OpsF:=(oVal (.tmp 85) (kMove (.tmp 0)) (oVal (.tmp 86) (kUn (fadA 2) (.tmp 7)) (oVal (.tmp 87) (kLoad none (.tmp 86)) (oVal (.tmp 88) (kUn lenSlA (.tmp 87)) (oCall (.tmp 89) (.con (.func 7 [] [])) [(.tmp 85),(.tmp 88)] (oVal (.tmp 12) (kMove (.tmp 89)) oNil))))))
def K5r15:OpsF:=(oEnd [] (oVal (.tmp 90) (kUn (fadA 3) (.tmp 7)) (oVal (.tmp 91) (kLoad none (.tmp 90)) (oVal (.tmp 92) (kMove (.tmp 12)) (oVal (.tmp 93) (kMove (.tmp 10)) (oVal (.tmp 94) (kMove (.tmp 0)) (oVal (.tmp 95) (kUn (fadA 2) (.tmp 7)) (oVal (.tmp 96) (kLoad none (.tmp 95)) (oVal (.tmp 97) (kMove (.tmp 12)) (oVal (.tmp 98) (kTwo (ixsA 9) (.tmp 96) (.tmp 97)) (oVal (.tmp 99) (kUn (fadA 0) (.tmp 98)) (oVal (.tmp 100) (kLoad none (.tmp 99)) (oVal (.tmp 101) (kInt aAdd (.tmp 100) (.con (.int .i64 5))) (oCallT (some [90]) (.tmp 102) (.con (.func 7 [] [])) [(.tmp 94),(.tmp 101)] (oVal (.tmp 103) (kBuild [(.int .i64 0),(.int .i64 0),(.int .i64 0)] [(0,1,(.tmp 92)),(1,1,(.tmp 93)),(2,1,(.tmp 102))]) (oVal (.tmp 104) (kBuildSlice [(.int .i64 0),(.int .i64 0),(.int .i64 0)] 1 [(0,3,(.tmp 103))]) (oVal (.tmp 105) (kTwo (appendA false 3 24 (tag 55)) (.tmp 91) (.tmp 104)) (oVal (.tmp 106) (kUn (fadA 3) (.tmp 7)) (oVal .none (kStore 1 (.tmp 106) (.tmp 105)) oNil)))))))))))))))))))
def K5r16:OpsF:=(oVal (.tmp 79) (kMove (.tmp 11)) (oVal (.tmp 80) (kInt aSub (.tmp 79) (.con (.int .i64 1))) (oVal (.tmp 11) (kMove (.tmp 80)) oNil)))
def K5l1:K:=(kSeq (kSeq (kRegion K5r12 [78]) (kCond (.tmp 78) kSkip (kExit 2))) (kSeq (kBlock 3 (kSeq (kRegion K5r13 [10]) (kSeq (kRegion K5r14 [12]) (kRegionD K5r15 [])))) (kRegion K5r16 [11])))
def K5r17:OpsF:=(oVal (.tmp 107) (kMove (.tmp 0)) (oCall (.tmp 108) (.con (.func 9 [] [])) [(.tmp 107),(.con (.int .i64 (-60))),(.con (.int .i64 20))] (oVal (.tmp 109) (kMove (.tmp 0)) (oCall (.tmp 110) (.con (.func 7 [] [])) [(.tmp 109),(.con (.int .i64 3))] (oVal (.tmp 13) (kMove (.tmp 108)) (oVal (.tmp 14) (kMove (.tmp 110)) oNil))))))
def K5r18:OpsF:=(oVal (.tmp 111) (kMove (.tmp 0)) (oCall (.tmp 112) (.con (.func 9 [] [])) [(.tmp 111),(.con (.int .i64 1)),(.con (.int .i64 4))] (oVal (.tmp 15) (kMove (.tmp 112)) oNil)))
def K5r19:OpsF:=(oVal (.tmp 113) (kMove (.tmp 15)) (oVal (.tmp 114) (kGtr (.tmp 113) (.con (.int .i64 0))) oNil))
def K5r20:OpsF:=(oVal (.tmp 117) (kUn (fadA 4) (.tmp 7)) (oVal (.tmp 118) (kLoad none (.tmp 117)) (oVal (.tmp 119) (kMove (.tmp 13)) (oVal (.tmp 120) (kMove (.tmp 14)) (oVal (.tmp 121) (kBuild [(.int .i64 0),(.int .i64 0)] [(0,1,(.tmp 119)),(1,1,(.tmp 120))]) (oVal (.tmp 122) (kBuildSlice [(.int .i64 0),(.int .i64 0)] 1 [(0,2,(.tmp 121))]) (oVal (.tmp 123) (kTwo (appendA false 2 16 (tag 57)) (.tmp 118) (.tmp 122)) (oVal (.tmp 124) (kUn (fadA 4) (.tmp 7)) (oVal .none (kStore 1 (.tmp 124) (.tmp 123)) oNil)))))))))
def K5r21:OpsF:=(oVal (.tmp 125) (kMove (.tmp 13)) (oVal (.tmp 126) (kMove (.tmp 0)) (oCall (.tmp 127) (.con (.func 9 [] [])) [(.tmp 126),(.con (.int .i64 1)),(.con (.int .i64 60))] (oVal (.tmp 128) (kInt aAdd (.tmp 125) (.tmp 127)) (oVal (.tmp 129) (kMove (.tmp 14)) (oVal (.tmp 130) (kMove (.tmp 0)) (oCall (.tmp 131) (.con (.func 7 [] [])) [(.tmp 130),(.con (.int .i64 8))] (oVal (.tmp 132) (kInt aAdd (.tmp 129) (.tmp 131)) (oVal (.tmp 13) (kMove (.tmp 128)) (oVal (.tmp 14) (kMove (.tmp 132)) oNil))))))))))
def K5r22:OpsF:=(oVal (.tmp 115) (kMove (.tmp 15)) (oVal (.tmp 116) (kInt aSub (.tmp 115) (.con (.int .i64 1))) (oVal (.tmp 15) (kMove (.tmp 116)) oNil)))
def K5l2:K:=(kSeq (kSeq (kRegion K5r19 [114]) (kCond (.tmp 114) kSkip (kExit 4))) (kSeq (kBlock 5 (kSeq (kRegion K5r20 []) (kRegion K5r21 [13,14]))) (kRegion K5r22 [15])))
def K5r23:OpsF:=(oVal (.tmp 133) (kLoad (some 5) (.tmp 7)) (oVal .none (kStore 5 (.tmp 6) (.tmp 133)) oNil))
theorem res5:Try.f5.results.toList=[.cell 6 31]:=by kernel_rfl
def K5:K:=(kSeq (kRegion K5r0 [6]) (kSeq (kRegion K5r1 [7]) (kSeq (kSeq (kRegion K5r2 [8]) (kBlock 0 (kLoop K5l0))) (kSeq (kRegion K5r10 [10]) (kSeq (kSeq (kRegion K5r11 [11]) (kBlock 2 (kLoop K5l1))) (kSeq (kRegion K5r17 [13,14]) (kSeq (kSeq (kRegion K5r18 [15]) (kBlock 4 (kLoop K5l2))) (kSeq (kRegion K5r23 []) kRet))))))))
theorem enter5 (cl:CallF) (a0 a1 a2:AV) (s:St):enterA Try.prog X cl 5 [a0,a1,a2] s Try.f5=finA Try.prog Try.f5 (K5 cl ⟨5,none,Try.f5.ntmps,X 5⟩ (paramsEnv 0 [a0,a1,a2] .nil) [] s) :=
  enterA_eq (b:=Try.f5.body.getD .skip) (by kernel_rfl) (by kernel_rfl) (by kernel_rfl) (by kernel_rfl) (by kernel_rfl)
end
end Go.Proofs.Ytkoefjgapmonaaa.code
set_option maxRecDepth 100000
namespace Go.Proofs.Ytkoefjgapmonaaa.code
open Go.Abs
noncomputable section
def K11r0:OpsF:=(oVal (.tmp 5) (kBox (tag 31) (.tmp 0)) (oVal (.tmp 10) (kMove (.con .nilslice)) (oVal (.tmp 11) (kMove (.con (.int .i64 0))) oNil)))
def K11r1:OpsF:=(oEnd [] (oVal (.tmp 14) (kLoad (some 5) (.tmp 5)) (oCallT (some [5]) (.tmp 15) (.con (.func 25 [] [])) [(.tmp 14)] (oVal (.tmp 16) (kLoad (some 5) (.tmp 5)) (oVal (.tmp 17) (kMove (.tmp 1)) (oCall (.tmp 18) (.con (.func 26 [] [])) [(.tmp 16),(.tmp 17)] (oVal (.tmp 19) (kMove (.tmp 2)) (oCall (.tmp 20) (.con (.func 27 [] [])) [(.tmp 19)] (oVal (.tmp 21) (kMove (.tmp 3)) (oCall (.tmp 22) (.con (.func 28 [] [])) [(.tmp 21),(.con (.int .i64 1)),(.con (.int .i64 100000))] (oVal (.tmp 23) (kMove (.tmp 4)) (oCall (.tmp 24) (.con (.func 28 [] [])) [(.tmp 23),(.con (.int .i64 1)),(.con (.int .i64 240))] (oVal (.tmp 25) (kBuildSlice [(.int .i64 0),(.int .i64 0),(.int .i64 0),(.int .i64 0),(.int .i64 0)] 5 [(0,1,(.tmp 15)),(1,1,(.tmp 18)),(2,1,(.tmp 20)),(3,1,(.tmp 22)),(4,1,(.tmp 24))]) (oCall (.tmp 26) (.con (.func 24 [] [])) [(.tmp 25)] (oVal (.tmp 12) (kMove (.tmp 26)) oNil)))))))))))))))
def K11r2:OpsF:=(oVal (.tmp 27) (kMove (.tmp 12)) (oVal (.tmp 28) (kInt aNeq (.tmp 27) (.con (.int .i64 0))) oNil))
def K11r3:OpsF:=(oVal (.tmp 29) (kMove (.tmp 12)) (oVal (.tmp 10) (kMove (.con .nilslice)) (oVal (.tmp 11) (kMove (.tmp 29)) oNil)))
def K11r4:OpsF:=(oVal (.tmp 30) (kLoad (some 5) (.tmp 5)) (oVal (.tmp 31) (kMove (.tmp 1)) (oCall (.tmp 32) (.con (.func 29 [] [])) [(.tmp 30),(.tmp 31)] (oVal (.tmp 33) (kMove (.tmp 2)) (oVal (.tmp 34) (kMove (.tmp 3)) (oVal (.tmp 35) (kMove (.tmp 4)) (oCall (.tmp 36) (.con (.func 30 [] [])) [(.tmp 32),(.tmp 33),(.tmp 34),(.tmp 35)] (oVal (.tmp 13) (kMove (.tmp 36)) oNil))))))))
def K11r5:OpsF:=(oVal (.tmp 37) (kMove (.tmp 13)) (oVal (.tmp 38) (kMove (.tmp 13)) (oVal (.tmp 39) (kEql .nilS true (.tmp 38) (.con .nilslice)) (oCall (.tmp 40) (.con (.func 31 [] [])) [(.tmp 39),(.con (.int .i64 3))] (oVal (.tmp 10) (kMove (.tmp 37)) (oVal (.tmp 11) (kMove (.tmp 40)) oNil))))))
theorem res11:Try.f11.results.toList=[.tmp 10,.tmp 11]:=by kernel_rfl
def K11:K:=(kSeq (kRegion K11r0 [5,10,11]) (kSeq (kRegionD K11r1 [12]) (kSeq (kSeq (kRegion K11r2 [28]) (kCond (.tmp 28) (kSeq (kRegion K11r3 [10,11]) kRet) kSkip)) (kSeq (kRegion K11r4 [13]) (kSeq (kRegion K11r5 [10,11]) kRet)))))
theorem enter11 (cl:CallF) (a0 a1 a2 a3 a4:AV) (s:St):enterA Try.prog X cl 11 [a0,a1,a2,a3,a4] s Try.f11=finA Try.prog Try.f11 (K11 cl ⟨11,none,Try.f11.ntmps,X 11⟩ (paramsEnv 0 [a0,a1,a2,a3,a4] .nil) [] s) :=
  enterA_eq (b:=Try.f11.body.getD .skip) (by kernel_rfl) (by kernel_rfl) (by kernel_rfl) (by kernel_rfl) (by kernel_rfl)
def K27r0:OpsF:=(oVal (.tmp 2) (kMove (.con (.int .i64 0))) oNil)
def K27r1:OpsF:=(oVal (.tmp 8) (kMove (.tmp 0)) (oVal (.tmp 9) (kUn lenSlA (.tmp 8)) (oCall (.tmp 10) (.con (.func 48 [] [])) [(.tmp 9),(.con (.int .i64 1)),(.con (.int .i64 6))] (oVal (.tmp 3) (kMove (.tmp 10)) oNil))))
def K27r2:OpsF:=(oVal (.tmp 11) (kMove (.tmp 3)) (oVal (.tmp 12) (kInt aNeq (.tmp 11) (.con (.int .i64 0))) oNil))
def K27r3:OpsF:=(oVal (.tmp 13) (kMove (.tmp 3)) (oVal (.tmp 2) (kMove (.tmp 13)) oNil))
def K27r4:OpsF:=(oVal (.tmp 4) (kMove (.con (.int .i64 (-1)))) oNil)
def K27r5:OpsF:=(oVal (.tmp 14) (kMove (.tmp 0)) (oVal (.tmp 15) (kUn lenSlA (.tmp 14)) (oVal (.tmp 16) (kMove (.con (.int .i64 0))) oNil)))
def K27r6:OpsF:=(oVal (.tmp 17) (kInt aLss (.tmp 16) (.tmp 15)) oNil)
def K27r7:OpsF:=(oVal (.tmp 18) (kTwo (ixsA 1) (.tmp 14) (.tmp 16)) (oVal (.tmp 19) (kLoad none (.tmp 18)) (oVal (.tmp 6) (kMove (.tmp 19)) oNil)))
def K27r8:OpsF:=(oVal (.tmp 20) (kMove (.tmp 6)) (oCall (.tmp 21) (.con (.func 35 [] [])) [(.tmp 20)] (oVal (.tmp 22) (kMove (.tmp 6)) (oVal (.tmp 23) (kMove (.tmp 4)) (oVal (.tmp 24) (kGtr (.tmp 22) (.tmp 23)) (oCall (.tmp 25) (.con (.func 31 [] [])) [(.tmp 24),(.con (.int .i64 5))] (oVal (.tmp 26) (kBuildSlice [(.int .i64 0),(.int .i64 0)] 2 [(0,1,(.tmp 21)),(1,1,(.tmp 25))]) (oCall (.tmp 27) (.con (.func 24 [] [])) [(.tmp 26)] (oVal (.tmp 7) (kMove (.tmp 27)) oNil)))))))))
def K27r9:OpsF:=(oVal (.tmp 28) (kMove (.tmp 7)) (oVal (.tmp 29) (kInt aNeq (.tmp 28) (.con (.int .i64 0))) oNil))
def K27r10:OpsF:=(oVal (.tmp 30) (kMove (.tmp 7)) (oVal (.tmp 2) (kMove (.tmp 30)) oNil))
def K27r11:OpsF:=(oVal (.tmp 31) (kMove (.tmp 6)) (oVal (.tmp 4) (kMove (.tmp 31)) oNil))
def K27r12:OpsF:=(oVal (.tmp 32) (kInt aAdd (.tmp 16) (.con (.int .i64 1))) (oVal (.tmp 16) (kMove (.tmp 32)) oNil))
def K27l0:K:=(kSeq (kRegion K27r6 [17]) (kSeq (kCond (.tmp 17) kSkip (kExit 0)) (kSeq (kBlock 1 (kSeq (kRegion K27r7 [6]) (kSeq (kSeq (kRegion K27r8 [7]) (kSeq (kRegion K27r9 [29]) (kCond (.tmp 29) (kSeq (kRegion K27r10 [2]) kRet) kSkip))) (kRegion K27r11 [4])))) (kRegion K27r12 [16]))))
def K27r13:OpsF:=(oVal (.tmp 2) (kMove (.con (.int .i64 0))) oNil)
theorem res27:Try.f27.results.toList=[.tmp 2]:=by kernel_rfl
def K27:K:=(kSeq (kRegion K27r0 [2]) (kSeq (kSeq (kRegion K27r1 [3]) (kSeq (kRegion K27r2 [12]) (kCond (.tmp 12) (kSeq (kRegion K27r3 [2]) kRet) kSkip))) (kSeq (kRegion K27r4 [4]) (kSeq (kSeq (kRegion K27r5 [14,15,16]) (kBlock 0 (kLoop K27l0))) (kSeq (kRegion K27r13 [2]) kRet)))))
theorem enter27 (cl:CallF) (a0:AV) (s:St):enterA Try.prog X cl 27 [a0] s Try.f27=finA Try.prog Try.f27 (K27 cl ⟨27,none,Try.f27.ntmps,X 27⟩ (paramsEnv 0 [a0] .nil) [] s) :=
  enterA_eq (b:=Try.f27.body.getD .skip) (by kernel_rfl) (by kernel_rfl) (by kernel_rfl) (by kernel_rfl) (by kernel_rfl)
def K30r0:OpsF:=(oVal (.tmp 4) (kBox (tag 77) (.tmp 0)) (oVal (.tmp 5) (kBox (tag 22) (.tmp 1)) (oVal (.tmp 6) (kBox (tag 3) (.tmp 2)) (oVal (.tmp 7) (kBox (tag 3) (.tmp 3)) (oVal (.tmp 8) (kMove (.con .nilslice)) oNil)))))
def K30r1:OpsF:=(oVal (.tmp 9) (kAlloc [.nilslice] (tag 22)) oNil)
def K30r2:OpsF:=(oVal (.tmp 12) (kLoad none (.tmp 5)) (oVal (.tmp 13) (kUn lenSlA (.tmp 12)) (oVal (.tmp 14) (kInt aMul (.tmp 13) (.con (.int .i64 5))) (oVal (.tmp 15) (kInt aAdd (.tmp 14) (.con (.int .i64 1))) (oVal (.tmp 10) (kAlloc [(.int .i64 0)] (tag 3)) (oVal .none (kStore 1 (.tmp 10) (.tmp 15)) oNil))))))
def K30r3:OpsF:=(oVal (.tmp 11) (kAlloc [.nilfunc] (tag 108)) oNil)
def K30r4:OpsF:=(oVal (.tmp 16) (kFunc 53 [] [(.tmp 10),(.tmp 5),(.tmp 9),(.tmp 7),(.tmp 6),(.tmp 11)]) (oVal .none (kStore 1 (.tmp 11) (.tmp 16)) oNil))
def K30r5:OpsF:=(oEnd [] (oVal (.tmp 17) (kLoad none (.tmp 5)) (oVal (.tmp 18) (kTwo (ixsA 1) (.tmp 17) (.con (.int .i64 0))) (oVal (.tmp 19) (kLoad none (.tmp 18)) (oVal (.tmp 20) (kLoad none (.tmp 7)) (oVal (.tmp 21) (kFold minA (.tmp 19) [(.tmp 20)]) (oVal (.tmp 22) (kLoad none (.tmp 6)) (oCall (.tmp 23) (.con (.func 55 [] [])) [(.tmp 4),(.tmp 21),(.con (.int .i64 0)),(.tmp 22)] oNil))))))))
def K30r6:OpsF:=(oVal (.tmp 24) (kLoad none (.tmp 11)) (oVal (.tmp 25) (kLoad (some 13) (.tmp 4)) (oCall (.tmp 26) (.tmp 24) [(.tmp 25),(.con .nilslice),(.con (.int .i64 0))] oNil)))
def K30r7:OpsF:=(oVal (.tmp 27) (kLoad none (.tmp 9)) (oVal (.tmp 8) (kMove (.tmp 27)) oNil))
theorem res30:Try.f30.results.toList=[.tmp 8]:=by kernel_rfl
def K30:K:=(kSeq (kRegion K30r0 [4,5,6,7,8]) (kSeq (kRegion K30r1 [9]) (kSeq (kRegion K30r2 [10]) (kSeq (kRegion K30r3 [11]) (kSeq (kRegion K30r4 []) (kSeq (kSeq (kRegionD K30r5 [23]) (kCond (.tmp 23) (kRegion K30r6 []) kSkip)) (kSeq (kRegion K30r7 [8]) kRet)))))))
theorem enter30 (cl:CallF) (a0 a1 a2 a3:AV) (s:St):enterA Try.prog X cl 30 [a0,a1,a2,a3] s Try.f30=finA Try.prog Try.f30 (K30 cl ⟨30,none,Try.f30.ntmps,X 30⟩ (paramsEnv 0 [a0,a1,a2,a3] .nil) [] s) :=
  enterA_eq (b:=Try.f30.body.getD .skip) (by kernel_rfl) (by kernel_rfl) (by kernel_rfl) (by kernel_rfl) (by kernel_rfl)
def K53r0:OpsF:=(oVal (.tmp 9) (kBox (tag 77) (.tmp 0)) oNil)
def K53r1:OpsF:=(oVal (.tmp 16) (kMove (.tmp 2)) (oVal (.tmp 17) (kLoad none (.tmp 3)) (oVal (.tmp 18) (kInt aGeq (.tmp 16) (.tmp 17)) oNil)))
def K53r2:OpsF:=(oVal (.tmp 19) (kMove (.tmp 1)) (oVal (.tmp 20) (kUn lenSlA (.tmp 19)) (oVal (.tmp 21) (kLoad none (.tmp 4)) (oVal (.tmp 22) (kUn lenSlA (.tmp 21)) (oVal (.tmp 23) (kInt aEql (.tmp 20) (.tmp 22)) oNil)))))
def K53r3:OpsF:=(oVal (.tmp 24) (kMove (.tmp 2)) (oVal (.tmp 25) (kMove (.tmp 1)) (oCall (.tmp 26) (.con (.func 54 [] [])) [(.tmp 25)] (oVal .none (kStore 1 (.tmp 3) (.tmp 24)) (oVal .none (kStore 1 (.tmp 5) (.tmp 26)) oNil)))))
def K53r4:OpsF:=(oVal (.tmp 27) (kLoad none (.tmp 6)) (oVal (.tmp 12) (kMove (.tmp 27)) oNil))
def K53r5:OpsF:=(oVal (.tmp 28) (kLoad none (.tmp 4)) (oVal (.tmp 29) (kMove (.tmp 1)) (oVal (.tmp 30) (kUn lenSlA (.tmp 29)) (oVal (.tmp 31) (kInt aAdd (.tmp 30) (.con (.int .i64 1))) (oVal (.tmp 32) (kSlice (sliceVal 1) (.tmp 28) (some (.tmp 31)) none) (oVal (.tmp 13) (kMove (.tmp 32)) oNil))))))
def K53r6:OpsF:=(oVal (.tmp 33) (kMove (.tmp 13)) (oVal (.tmp 34) (kUn lenSlA (.tmp 33)) (oVal (.tmp 35) (kGtr (.tmp 34) (.con (.int .i64 0))) oNil)))
def K53r7:OpsF:=(oEnd [] (oVal (.tmp 36) (kMove (.tmp 13)) (oVal (.tmp 37) (kTwo (ixsA 1) (.tmp 36) (.con (.int .i64 0))) (oVal (.tmp 38) (kLoad none (.tmp 37)) (oVal (.tmp 39) (kLoad none (.tmp 6)) (oVal (.tmp 40) (kFold minA (.tmp 38) [(.tmp 39)]) (oVal (.tmp 12) (kMove (.tmp 40)) oNil)))))))
def K53r8:OpsF:=(oVal (.tmp 41) (kMove (.con (.int .i64 0))) oNil)
def K53r9:OpsF:=(oVal (.tmp 42) (kInt aLss (.tmp 41) (.con (.int .i64 6))) oNil)
def K53r10:OpsF:=(oVal (.tmp 43) (kMove (.tmp 41)) (oVal (.tmp 14) (kMove (.tmp 43)) oNil))
def K53r11:OpsF:=(oVal (.tmp 44) (kLoad (some 13) (.tmp 9)) (oVal (.tmp 15) (kAlloc [(.int .i64 0),(.int .i64 0),(.int .i64 0),(.int .i64 0),(.int .i64 0),(.int .i64 0),(.int .i64 0),(.int .i64 0),(.int .i64 0),(.int .i64 0),(.int .i64 0),(.int .i64 0),.nilslice] (tag 77)) (oVal .none (kStore 13 (.tmp 15) (.tmp 44)) oNil)))
def K53r12:OpsF:=(oVal (.tmp 45) (kMove (.tmp 12)) (oVal (.tmp 46) (kMove (.tmp 14)) (oVal (.tmp 47) (kLoad none (.tmp 7)) (oCall (.tmp 48) (.con (.func 55 [] [])) [(.tmp 15),(.tmp 45),(.tmp 46),(.tmp 47)] oNil))))
def K53r13:OpsF:=(oEnd [(51,8),(51,15)] (oVal (.tmp 49) (kLoad none (.tmp 8)) (oVal (.tmp 50) (kLoad (some 13) (.tmp 15)) (oVal (.tmp 51) (kMove (.tmp 1)) (oVal (.tmp 52) (kMove (.tmp 14)) (oVal (.tmp 53) (kBuildSlice [(.int .i64 0)] 1 [(0,1,(.tmp 52))]) (oVal (.tmp 54) (kTwo (appendA true 1 8 (tag 3)) (.tmp 51) (.tmp 53)) (oVal (.tmp 55) (kMove (.tmp 2)) (oVal (.tmp 56) (kMove (.tmp 14)) (oVal (.tmp 57) (kInt aAdd (.tmp 55) (.tmp 56)) (oCall (.tmp 58) (.tmp 49) [(.tmp 50),(.tmp 54),(.tmp 57)] oNil)))))))))))
def K53r14:OpsF:=(oVal (.tmp 59) (kInt aAdd (.tmp 41) (.con (.int .i64 1))) (oVal (.tmp 41) (kMove (.tmp 59)) oNil))
def K53l0:K:=(kSeq (kRegion K53r9 [42]) (kSeq (kCond (.tmp 42) kSkip (kExit 0)) (kSeq (kBlock 1 (kSeq (kRegion K53r10 [14]) (kSeq (kRegion K53r11 [15]) (kSeq (kRegion K53r12 [48]) (kCond (.tmp 48) (kRegionD K53r13 []) kSkip))))) (kRegion K53r14 [41]))))
theorem res53:Try.f53.results.toList=[]:=by kernel_rfl
def K53:K:=(kSeq (kRegion K53r0 [9]) (kSeq (kSeq (kRegion K53r1 [18]) (kCond (.tmp 18) kRet kSkip)) (kSeq (kSeq (kRegion K53r2 [23]) (kCond (.tmp 23) (kSeq (kRegion K53r3 []) kRet) kSkip)) (kSeq (kRegion K53r4 [12]) (kSeq (kSeq (kRegion K53r5 [13]) (kSeq (kRegion K53r6 [35]) (kCond (.tmp 35) (kRegionD K53r7 [12]) kSkip))) (kSeq (kRegion K53r8 [41]) (kBlock 0 (kLoop K53l0))))))))
theorem enter53 (cl:CallF) (a0 a1 a2 a3 a4 a5 a6 a7 a8:AV) (s:St):enterA Try.prog X cl 53 [a0,a1,a2,a3,a4,a5,a6,a7,a8] s Try.f53=finA Try.prog Try.f53 (K53 cl ⟨53,none,Try.f53.ntmps,X 53⟩ (paramsEnv 0 [a0,a1,a2,a3,a4,a5,a6,a7,a8] .nil) [] s) :=
  enterA_eq (b:=Try.f53.body.getD .skip) (by kernel_rfl) (by kernel_rfl) (by kernel_rfl) (by kernel_rfl) (by kernel_rfl)
def K55r0:OpsF:=(oVal (.tmp 4) (kBox (tag 111) (.tmp 0)) (oVal (.tmp 6) (kBox (tag 3) (.tmp 2)) (oVal (.tmp 7) (kBox (tag 3) (.tmp 3)) (oVal (.tmp 8) (kAlloc [(.bool false)] (tag 4)) oNil))))
def K55r1:OpsF:=(oVal (.tmp 11) (kLoad none (.tmp 4)) (oVal (.tmp 12) (kUn nilA (.tmp 11)) (oVal (.tmp 13) (kUn (fadA 9) (.tmp 12)) (oVal (.tmp 14) (kLoad none (.tmp 13)) (oVal (.tmp 9) (kAlloc [(.int .i64 0)] (tag 3)) (oVal .none (kStore 1 (.tmp 9) (.tmp 14)) oNil))))))
def K55r2:OpsF:=(oVal (.tmp 15) (kLoad none (.tmp 4)) (oVal (.tmp 16) (kMove (.tmp 1)) (oCall (.tmp 17) (.con (.func 36 [] [])) [(.tmp 15),(.tmp 16)] oNil)))
def K55r3:OpsF:=(oVal .none (kStore 1 (.tmp 8) (.con (.bool true))) oNil)
theorem res55:Try.f55.results.toList=[.cell 8 4]:=by kernel_rfl
def K55:K:=(kSeq (kRegion K55r0 [4,6,7,8]) (kSeq (kRegion K55r1 [9]) (kSeq (kSeq (kRegion K55r2 [17]) (kBlock 0 (kRange (.tmp 17) [18,19] (rangeAt Try.f55 0).1 (rangeAt Try.f55 0).2))) (kSeq (kRegion K55r3 []) kRet))))
theorem enter55 (cl:CallF) (a0 a1 a2 a3:AV) (s:St):enterA Try.prog X cl 55 [a0,a1,a2,a3] s Try.f55=finA Try.prog Try.f55 (K55 cl ⟨55,none,Try.f55.ntmps,X 55⟩ (paramsEnv 0 [a0,a1,a2,a3] .nil) [] s) :=
  enterA_eq (b:=Try.f55.body.getD .skip) (by kernel_rfl) (by kernel_rfl) (by kernel_rfl) (by kernel_rfl) (by kernel_rfl)
def K55a0r0:OpsF:=(oVal (.tmp 10) (kMove (.tmp 18)) oNil)
def K55a0:K:=(kRegion K55a0r0 [10])
theorem code55a0:codeK Try.prog (X 55) Try.f55.ntmps (rangeAt Try.f55 0).1=some K55a0:=by kernel_rfl
def K55b0r0:OpsF:=(oVal (.tmp 20) (kMove (.tmp 10)) (oVal (.tmp 21) (kLoad none (.tmp 9)) (oVal (.tmp 22) (kInt aEql (.tmp 20) (.tmp 21)) oNil)))
def K55b0r1:OpsF:=(oVal (.tmp 23) (kLoad none (.tmp 6)) (oVal (.tmp 24) (kMove (.con (.int .i64 0))) oNil))
def K55b0r2:OpsF:=(oVal (.tmp 25) (kInt aLss (.tmp 24) (.tmp 23)) oNil)
def K55b0r3:OpsF:=(oVal (.tmp 26) (kLoad none (.tmp 4)) (oVal (.tmp 27) (kLoad none (.tmp 7)) (oCall (.tmp 28) (.con (.func 68 [] [])) [(.tmp 26),(.tmp 27)] oNil)))
def K55b0r4:OpsF:=(oVal (.tmp 29) (kInt aAdd (.tmp 24) (.con (.int .i64 1))) (oVal (.tmp 24) (kMove (.tmp 29)) oNil))
def K55b0l0:K:=(kSeq (kRegion K55b0r2 [25]) (kSeq (kCond (.tmp 25) kSkip (kExit 2)) (kSeq (kBlock 3 (kRegion K55b0r3 [])) (kRegion K55b0r4 [24]))))
def K55b0r5:OpsF:=(oVal (.tmp 30) (kLoad none (.tmp 4)) (oVal (.tmp 31) (kUn nilA (.tmp 30)) (oVal (.tmp 32) (kUn (fadA 10) (.tmp 31)) (oVal (.tmp 33) (kTwo (ixaA 2 1) (.tmp 32) (.con (.int .i64 0))) (oVal (.tmp 34) (kLoad none (.tmp 33)) (oVal (.tmp 35) (kInt aEql (.tmp 34) (.con (.int .i64 0))) oNil))))))
def K55b0r6:OpsF:=(oVal .none (kStore 1 (.tmp 8) (.con (.bool false))) oNil)
def K55b0:K:=(kBlock 1 (kSeq (kSeq (kRegion K55b0r0 [22]) (kCond (.tmp 22) (kSeq (kRegion K55b0r1 [23,24]) (kBlock 2 (kLoop K55b0l0))) kSkip)) (kSeq (kRegion K55b0r5 [35]) (kCond (.tmp 35) (kSeq (kRegion K55b0r6 []) kRet) kSkip))))
theorem code55b0:codeK Try.prog (X 55) Try.f55.ntmps (rangeAt Try.f55 0).2=some K55b0:=by kernel_rfl
def K54r0:OpsF:=(oVal (.tmp 2) (kMove (.con .nilslice)) oNil)
def K54r1:OpsF:=(oVal (.tmp 3) (kMove (.tmp 0)) (oVal (.tmp 4) (kEql .nilS false (.tmp 3) (.con .nilslice)) oNil))
def K54r2:OpsF:=(oVal (.tmp 2) (kMove (.con .nilslice)) oNil)
def K54r3:OpsF:=(oVal (.tmp 5) (kBuildSlice [] 0 []) (oVal (.tmp 6) (kMove (.tmp 0)) (oVal (.tmp 7) (kTwo (appendA false 1 8 (tag 3)) (.tmp 5) (.tmp 6)) (oVal (.tmp 2) (kMove (.tmp 7)) oNil))))
theorem res54:Try.f54.results.toList=[.tmp 2]:=by kernel_rfl
def K54:K:=(kSeq (kRegion K54r0 [2]) (kSeq (kSeq (kRegion K54r1 [4]) (kCond (.tmp 4) (kSeq (kRegion K54r2 [2]) kRet) kSkip)) (kSeq (kRegion K54r3 [2]) kRet)))
theorem enter54 (cl:CallF) (a0:AV) (s:St):enterA Try.prog X cl 54 [a0] s Try.f54=finA Try.prog Try.f54 (K54 cl ⟨54,none,Try.f54.ntmps,X 54⟩ (paramsEnv 0 [a0] .nil) [] s) :=
  enterA_eq (b:=Try.f54.body.getD .skip) (by kernel_rfl) (by kernel_rfl) (by kernel_rfl) (by kernel_rfl) (by kernel_rfl)
end
end Go.Proofs.Ytkoefjgapmonaaa.code
set_option maxRecDepth 100000
namespace Go.Proofs.Ytkoefjgapmonaaa.code
open Go.Abs
noncomputable section
def K3r0:OpsF:=(oVal (.tmp 2) (kMove (.con (.bool false))) oNil)
def K3r1:OpsF:=(oVal (.tmp 18) (kMove (.tmp 0)) (oCall (.tmp 19) (.con (.func 4 [] [])) [(.tmp 18)] (oVal (.tmp 3) (kMove (.tmp 19)) oNil)))
def K3r2:OpsF:=(oVal (.tmp 20) (kMove (.tmp 3)) (oCall (.tmp 21) (.con (.func 5 [] [])) [(.tmp 20),(.con (.int .i64 2)),(.con (.int .i64 3))] (oVal (.tmp 4) (kAlloc [(.int .i64 0),(.int .i64 0),.nilslice,.nilslice,.nilslice] (tag 31)) (oVal .none (kStore 5 (.tmp 4) (.tmp 21)) oNil))))
def K3r3:OpsF:=(oVal (.tmp 22) (kUn (fadA 2) (.tmp 4)) (oVal (.tmp 23) (kLoad none (.tmp 22)) (oVal (.tmp 24) (kUn lenSlA (.tmp 23)) (oVal (.tmp 25) (kInt aEql (.tmp 24) (.con (.int .i64 0))) oNil))))
def K3r4:OpsF:=(oCall (.tmp 26) (.con (.func 6 [] [])) [] (oVal (.tmp 2) (kMove (.tmp 26)) oNil))
def K3r5:OpsF:=(oVal (.tmp 27) (kMove (.tmp 3)) (oVal (.tmp 28) (kUn (fadA 2) (.tmp 4)) (oVal (.tmp 29) (kLoad none (.tmp 28)) (oVal (.tmp 30) (kUn lenSlA (.tmp 29)) (oCall (.tmp 31) (.con (.func 7 [] [])) [(.tmp 27),(.tmp 30)] (oVal (.tmp 32) (kMove (.tmp 3)) (oCall (.tmp 33) (.con (.func 8 [] [])) [(.tmp 32),(.con (.int .i64 2))] (oVal (.tmp 34) (kMove (.tmp 3)) (oVal (.tmp 35) (kMove (.tmp 3)) (oVal (.tmp 36) (kBuildSlice [(.int .i64 0),(.int .i64 0)] 2 [(0,1,(.con (.int .i64 20))),(1,1,(.con (.int .i64 200)))]) (oCall (.tmp 37) (.con (.func 10 [] [])) [(.tmp 35),(.tmp 36)] (oCall (.tmp 38) (.con (.func 9 [] [])) [(.tmp 34),(.con (.int .i64 1)),(.tmp 37)] (oVal (.tmp 39) (kMove (.tmp 3)) (oCall (.tmp 40) (.con (.func 9 [] [])) [(.tmp 39),(.con (.int .i64 1)),(.con (.int .i64 10))] (oVal (.tmp 5) (kMove (.tmp 31)) (oVal (.tmp 6) (kMove (.tmp 33)) (oVal (.tmp 7) (kMove (.tmp 38)) (oVal (.tmp 8) (kMove (.tmp 40)) oNil))))))))))))))))))
def K3r6:OpsF:=(oVal (.tmp 42) (kLoad (some 5) (.tmp 4)) (oVal (.tmp 43) (kMove (.tmp 5)) (oVal (.tmp 44) (kMove (.tmp 6)) (oVal (.tmp 45) (kMove (.tmp 7)) (oVal (.tmp 46) (kMove (.tmp 8)) (oCall (.tmp 47) (.con (.func 11 [] [])) [(.tmp 42),(.tmp 43),(.tmp 44),(.tmp 45),(.tmp 46)] (oVal (.tmp 41) (kMove (.tmp 47)) (oVal (.tmp 48) (kUn (extA 0) (.tmp 41)) (oVal (.tmp 49) (kUn (extA 1) (.tmp 41)) (oVal (.tmp 9) (kMove (.tmp 48)) (oVal (.tmp 10) (kMove (.tmp 49)) oNil)))))))))))
def K3r7:OpsF:=(oVal (.tmp 51) (kLoad (some 5) (.tmp 4)) (oVal (.tmp 52) (kMove (.tmp 5)) (oVal (.tmp 53) (kMove (.tmp 6)) (oVal (.tmp 54) (kMove (.tmp 7)) (oVal (.tmp 55) (kMove (.tmp 8)) (oVal (.tmp 56) (kInt aAdd (.tmp 55) (.con (.int .i64 1))) (oCall (.tmp 57) (.con (.func 11 [] [])) [(.tmp 51),(.tmp 52),(.tmp 53),(.tmp 54),(.tmp 56)] (oVal (.tmp 50) (kMove (.tmp 57)) (oVal (.tmp 58) (kUn (extA 0) (.tmp 50)) (oVal (.tmp 59) (kUn (extA 1) (.tmp 50)) (oVal (.tmp 11) (kMove (.tmp 58)) (oVal (.tmp 12) (kMove (.tmp 59)) oNil))))))))))))
def K3r8s24:OpsF:=(oVal (.tmp 84) (kPick (.tmp 74) (.con (.bool true)) (.tmp 83)) oNil)
def K3r8s23:OpsF:=(oIf 74 false (oVal (.tmp 83) (kPick (.tmp 77) (.tmp 82) (.con (.bool false))) K3r8s24) (oSkip (.tmp 83) K3r8s24))
def K3r8s22:OpsF:=(oIf 77 true (oVal (.tmp 82) (kInt aLss (.tmp 79) (.tmp 81)) K3r8s23) (oSkip (.tmp 82) K3r8s23))
def K3r8s21:OpsF:=(oIf 77 true (oCall (.tmp 81) (.con (.func 12 [] [])) [(.tmp 80)] K3r8s22) (oSkip (.tmp 81) K3r8s22))
def K3r8s20:OpsF:=(oIf 77 true (oVal (.tmp 80) (kMove (.tmp 9)) K3r8s21) (oSkip (.tmp 80) K3r8s21))
def K3r8s19:OpsF:=(oIf 77 true (oCall (.tmp 79) (.con (.func 12 [] [])) [(.tmp 78)] K3r8s20) (oSkip (.tmp 79) K3r8s20))
def K3r8s18:OpsF:=(oIf 77 true (oVal (.tmp 78) (kMove (.tmp 11)) K3r8s19) (oSkip (.tmp 78) K3r8s19))
def K3r8s17:OpsF:=(oIf 74 false (oVal (.tmp 77) (kMove (.tmp 76)) K3r8s18) (oSkip (.tmp 77) K3r8s18))
def K3r8s16:OpsF:=(oIf 74 false (oVal (.tmp 76) (kInt aEql (.tmp 75) (.con (.int .i64 0))) K3r8s17) (oSkip (.tmp 76) K3r8s17))
def K3r8s13:OpsF:=(oVal (.tmp 73) (kPick (.tmp 66) (.con (.bool true)) (.tmp 72)) (oVal (.tmp 74) (kMove (.tmp 73)) (oIf 74 false (oVal (.tmp 75) (kMove (.tmp 12)) K3r8s16) (oSkip (.tmp 75) K3r8s16))))
def K3r8s12:OpsF:=(oIf 66 false (oVal (.tmp 72) (kPick (.tmp 69) (.tmp 71) (.con (.bool false))) K3r8s13) (oSkip (.tmp 72) K3r8s13))
def K3r8s11:OpsF:=(oIf 69 true (oVal (.tmp 71) (kInt aEql (.tmp 70) (.con (.int .i64 0))) K3r8s12) (oSkip (.tmp 71) K3r8s12))
def K3r8s10:OpsF:=(oIf 69 true (oVal (.tmp 70) (kMove (.tmp 12)) K3r8s11) (oSkip (.tmp 70) K3r8s11))
def K3r8s9:OpsF:=(oIf 66 false (oVal (.tmp 69) (kMove (.tmp 68)) K3r8s10) (oSkip (.tmp 69) K3r8s10))
def K3r8s8:OpsF:=(oIf 66 false (oVal (.tmp 68) (kInt aNeq (.tmp 67) (.con (.int .i64 0))) K3r8s9) (oSkip (.tmp 68) K3r8s9))
def K3r8s5:OpsF:=(oVal (.tmp 65) (kPick (.tmp 62) (.tmp 64) (.con (.bool false))) (oVal (.tmp 66) (kMove (.tmp 65)) (oIf 66 false (oVal (.tmp 67) (kMove (.tmp 10)) K3r8s8) (oSkip (.tmp 67) K3r8s8))))
def K3r8s4:OpsF:=(oIf 62 true (oVal (.tmp 64) (kInt aNeq (.tmp 63) (.con (.int .i64 3))) K3r8s5) (oSkip (.tmp 64) K3r8s5))
def K3r8:OpsF:=(oVal (.tmp 60) (kMove (.tmp 10)) (oVal (.tmp 61) (kInt aNeq (.tmp 60) (.con (.int .i64 0))) (oVal (.tmp 62) (kMove (.tmp 61)) (oIf 62 true (oVal (.tmp 63) (kMove (.tmp 10)) K3r8s4) (oSkip (.tmp 63) K3r8s4)))))
def K3r9:OpsF:=(oVal (.tmp 2) (kMove (.con (.bool false))) oNil)
def K3r10s18:OpsF:=(oVal (.tmp 103) (kPick (.tmp 87) (.tmp 102) (.con (.bool false))) oNil)
def K3r10s17:OpsF:=(oIf 87 true (oVal (.tmp 102) (kPick (.tmp 93) (.con (.bool true)) (.tmp 101)) K3r10s18) (oSkip (.tmp 102) K3r10s18))
def K3r10s16:OpsF:=(oIf 93 false (oVal (.tmp 101) (kUn notA (.tmp 100)) K3r10s17) (oSkip (.tmp 101) K3r10s17))
def K3r10s15:OpsF:=(oIf 93 false (oCall (.tmp 100) (.con (.func 13 [] [])) [(.tmp 94),(.tmp 95),(.tmp 96),(.tmp 97),(.tmp 98),(.tmp 99)] K3r10s16) (oSkip (.tmp 100) K3r10s16))
def K3r10s14:OpsF:=(oIf 93 false (oVal (.tmp 99) (kMove (.tmp 8)) K3r10s15) (oSkip (.tmp 99) K3r10s15))
def K3r10s13:OpsF:=(oIf 93 false (oVal (.tmp 98) (kMove (.tmp 7)) K3r10s14) (oSkip (.tmp 98) K3r10s14))
def K3r10s12:OpsF:=(oIf 93 false (oVal (.tmp 97) (kMove (.tmp 9)) K3r10s13) (oSkip (.tmp 97) K3r10s13))
def K3r10s11:OpsF:=(oIf 93 false (oVal (.tmp 96) (kMove (.tmp 6)) K3r10s12) (oSkip (.tmp 96) K3r10s12))
def K3r10s10:OpsF:=(oIf 93 false (oVal (.tmp 95) (kMove (.tmp 5)) K3r10s11) (oSkip (.tmp 95) K3r10s11))
def K3r10s9:OpsF:=(oIf 93 false (oVal (.tmp 94) (kLoad (some 5) (.tmp 4)) K3r10s10) (oSkip (.tmp 94) K3r10s10))
def K3r10s8:OpsF:=(oIf 87 true (oVal (.tmp 93) (kMove (.tmp 92)) K3r10s9) (oSkip (.tmp 93) K3r10s9))
def K3r10s7:OpsF:=(oIf 87 true (oVal (.tmp 92) (kInt aNeq (.tmp 89) (.tmp 91)) K3r10s8) (oSkip (.tmp 92) K3r10s8))
def K3r10s6:OpsF:=(oIf 87 true (oVal (.tmp 91) (kUn lenSlA (.tmp 90)) K3r10s7) (oSkip (.tmp 91) K3r10s7))
def K3r10s5:OpsF:=(oIf 87 true (oVal (.tmp 90) (kMove (.tmp 6)) K3r10s6) (oSkip (.tmp 90) K3r10s6))
def K3r10s4:OpsF:=(oIf 87 true (oVal (.tmp 89) (kUn lenSlA (.tmp 88)) K3r10s5) (oSkip (.tmp 89) K3r10s5))
def K3r10:OpsF:=(oVal (.tmp 85) (kMove (.tmp 10)) (oVal (.tmp 86) (kInt aEql (.tmp 85) (.con (.int .i64 0))) (oVal (.tmp 87) (kMove (.tmp 86)) (oIf 87 true (oVal (.tmp 88) (kMove (.tmp 9)) K3r10s4) (oSkip (.tmp 88) K3r10s4)))))
def K3r11:OpsF:=(oVal (.tmp 2) (kMove (.con (.bool false))) oNil)
def K3r12:OpsF:=(oVal (.tmp 104) (kMove (.tmp 6)) (oVal (.tmp 105) (kUn lenSlA (.tmp 104)) (oCall (.tmp 106) (.con (.func 14 [] [])) [(.con .nilslice),(.tmp 105)] (oVal (.tmp 13) (kMove (.tmp 106)) oNil))))
def K3r13:OpsF:=(oVal (.tmp 14) (kMove (.con (.bool true))) oNil)
def K3r14:OpsF:=(oVal (.tmp 15) (kMove (.con (.int .i64 0))) oNil)
def K3r15:OpsF:=(oVal (.tmp 107) (kMove (.tmp 15)) (oVal (.tmp 108) (kMove (.tmp 13)) (oVal (.tmp 109) (kUn lenSlA (.tmp 108)) (oVal (.tmp 110) (kInt aLss (.tmp 107) (.tmp 109)) oNil))))
def K3r16s9:OpsF:=(oVal (.tmp 122) (kPick (.tmp 114) (.tmp 121) (.con (.bool false))) (oVal (.tmp 14) (kMove (.tmp 122)) oNil))
def K3r16s8:OpsF:=(oIf 114 true (oVal (.tmp 121) (kUn notA (.tmp 120)) K3r16s9) (oSkip (.tmp 121) K3r16s9))
def K3r16s7:OpsF:=(oIf 114 true (oCall (.tmp 120) (.con (.func 15 [] [])) [(.tmp 118),(.tmp 119)] K3r16s8) (oSkip (.tmp 120) K3r16s8))
def K3r16s6:OpsF:=(oIf 114 true (oVal (.tmp 119) (kMove (.tmp 9)) K3r16s7) (oSkip (.tmp 119) K3r16s7))
def K3r16s5:OpsF:=(oIf 114 true (oVal (.tmp 118) (kLoad none (.tmp 117)) K3r16s6) (oSkip (.tmp 118) K3r16s6))
def K3r16s4:OpsF:=(oIf 114 true (oVal (.tmp 117) (kTwo (ixsA 1) (.tmp 115) (.tmp 116)) K3r16s5) (oSkip (.tmp 117) K3r16s5))
def K3r16s3:OpsF:=(oIf 114 true (oVal (.tmp 116) (kMove (.tmp 15)) K3r16s4) (oSkip (.tmp 116) K3r16s4))
def K3r16:OpsF:=(oVal (.tmp 113) (kMove (.tmp 14)) (oVal (.tmp 114) (kMove (.tmp 113)) (oIf 114 true (oVal (.tmp 115) (kMove (.tmp 13)) K3r16s3) (oSkip (.tmp 115) K3r16s3))))
def K3r17:OpsF:=(oVal (.tmp 123) (kMove (.tmp 13)) (oVal (.tmp 124) (kMove (.tmp 15)) (oVal (.tmp 125) (kTwo (ixsA 1) (.tmp 123) (.tmp 124)) (oVal (.tmp 126) (kLoad none (.tmp 125)) (oCall (.tmp 127) (.con (.func 12 [] [])) [(.tmp 126)] (oVal (.tmp 128) (kMove (.tmp 9)) (oCall (.tmp 129) (.con (.func 12 [] [])) [(.tmp 128)] (oVal (.tmp 16) (kMove (.tmp 127)) (oVal (.tmp 17) (kMove (.tmp 129)) oNil)))))))))
def K3r18s15:OpsF:=(oVal (.tmp 145) (kPick (.tmp 132) (.tmp 144) (.con (.bool false))) oNil)
def K3r18s14:OpsF:=(oIf 132 true (oVal (.tmp 144) (kPick (.tmp 136) (.con (.bool true)) (.tmp 143)) K3r18s15) (oSkip (.tmp 144) K3r18s15))
def K3r18s13:OpsF:=(oIf 136 false (oVal (.tmp 143) (kPick (.tmp 140) (.tmp 142) (.con (.bool false))) K3r18s14) (oSkip (.tmp 143) K3r18s14))
def K3r18s12:OpsF:=(oIf 140 true (oVal (.tmp 142) (kUn notA (.tmp 141)) K3r18s13) (oSkip (.tmp 142) K3r18s13))
def K3r18s11:OpsF:=(oIf 140 true (oVal (.tmp 141) (kMove (.tmp 14)) K3r18s12) (oSkip (.tmp 141) K3r18s12))
def K3r18s10:OpsF:=(oIf 136 false (oVal (.tmp 140) (kMove (.tmp 139)) K3r18s11) (oSkip (.tmp 140) K3r18s11))
def K3r18s9:OpsF:=(oIf 136 false (oVal (.tmp 139) (kInt aEql (.tmp 137) (.tmp 138)) K3r18s10) (oSkip (.tmp 139) K3r18s10))
def K3r18s8:OpsF:=(oIf 136 false (oVal (.tmp 138) (kMove (.tmp 17)) K3r18s9) (oSkip (.tmp 138) K3r18s9))
def K3r18s7:OpsF:=(oIf 136 false (oVal (.tmp 137) (kMove (.tmp 16)) K3r18s8) (oSkip (.tmp 137) K3r18s8))
def K3r18s6:OpsF:=(oIf 132 true (oVal (.tmp 136) (kMove (.tmp 135)) K3r18s7) (oSkip (.tmp 136) K3r18s7))
def K3r18s5:OpsF:=(oIf 132 true (oVal (.tmp 135) (kGtr (.tmp 133) (.tmp 134)) K3r18s6) (oSkip (.tmp 135) K3r18s6))
def K3r18s4:OpsF:=(oIf 132 true (oVal (.tmp 134) (kMove (.tmp 17)) K3r18s5) (oSkip (.tmp 134) K3r18s5))
def K3r18:OpsF:=(oVal (.tmp 130) (kMove (.tmp 10)) (oVal (.tmp 131) (kInt aEql (.tmp 130) (.con (.int .i64 0))) (oVal (.tmp 132) (kMove (.tmp 131)) (oIf 132 true (oVal (.tmp 133) (kMove (.tmp 16)) K3r18s4) (oSkip (.tmp 133) K3r18s4)))))
def K3r19:OpsF:=(oEnd [] (oVal (.tmp 146) (kLoad (some 5) (.tmp 4)) (oVal (.tmp 147) (kMove (.tmp 5)) (oVal (.tmp 148) (kMove (.tmp 6)) (oVal (.tmp 149) (kMove (.tmp 13)) (oVal (.tmp 150) (kMove (.tmp 15)) (oVal (.tmp 151) (kTwo (ixsA 1) (.tmp 149) (.tmp 150)) (oVal (.tmp 152) (kLoad none (.tmp 151)) (oVal (.tmp 153) (kMove (.tmp 7)) (oVal (.tmp 154) (kMove (.tmp 8)) (oCall (.tmp 155) (.con (.func 13 [] [])) [(.tmp 146),(.tmp 147),(.tmp 148),(.tmp 152),(.tmp 153),(.tmp 154)] oNil)))))))))))
def K3r20:OpsF:=(oVal (.tmp 2) (kMove (.con (.bool false))) oNil)
def K3r21:OpsF:=(oVal (.tmp 111) (kMove (.tmp 15)) (oVal (.tmp 112) (kInt aAdd (.tmp 111) (.con (.int .i64 1))) (oVal (.tmp 15) (kMove (.tmp 112)) oNil)))
def K3l0:K:=(kSeq (kSeq (kRegion K3r15 [110]) (kCond (.tmp 110) kSkip (kExit 0))) (kSeq (kBlock 1 (kSeq (kRegion K3r16 [14]) (kSeq (kRegion K3r17 [16,17]) (kSeq (kSeq (kRegion K3r18 [145]) (kCond (.tmp 145) (kExit 1) kSkip)) (kSeq (kRegionD K3r19 [155]) (kCond (.tmp 155) (kSeq (kRegion K3r20 [2]) kRet) kSkip)))))) (kRegion K3r21 [15])))
def K3r22s8:OpsF:=(oVal (.tmp 164) (kPick (.tmp 162) (.tmp 163) (.con (.bool false))) (oVal (.tmp 2) (kMove (.tmp 164)) oNil))
def K3r22s5:OpsF:=(oVal (.tmp 161) (kPick (.tmp 158) (.con (.bool true)) (.tmp 160)) (oVal (.tmp 162) (kMove (.tmp 161)) (oIf 162 true (oCall (.tmp 163) (.con (.func 6 [] [])) [] K3r22s8) (oSkip (.tmp 163) K3r22s8))))
def K3r22s4:OpsF:=(oIf 158 false (oVal (.tmp 160) (kUn notA (.tmp 159)) K3r22s5) (oSkip (.tmp 160) K3r22s5))
def K3r22:OpsF:=(oVal (.tmp 156) (kMove (.tmp 10)) (oVal (.tmp 157) (kInt aNeq (.tmp 156) (.con (.int .i64 0))) (oVal (.tmp 158) (kMove (.tmp 157)) (oIf 158 false (oVal (.tmp 159) (kMove (.tmp 14)) K3r22s4) (oSkip (.tmp 159) K3r22s4)))))
theorem res3:Try.f3.results.toList=[.tmp 2]:=by kernel_rfl
def K3:K:=(kSeq (kRegion K3r0 [2]) (kSeq (kRegion K3r1 [3]) (kSeq (kRegion K3r2 [4]) (kSeq (kSeq (kRegion K3r3 [25]) (kCond (.tmp 25) (kSeq (kRegion K3r4 [2]) kRet) kSkip)) (kSeq (kRegion K3r5 [5,6,7,8]) (kSeq (kRegion K3r6 [9,10]) (kSeq (kRegion K3r7 [11,12]) (kSeq (kSeq (kRegion K3r8 [84]) (kCond (.tmp 84) (kSeq (kRegion K3r9 [2]) kRet) kSkip)) (kSeq (kSeq (kRegion K3r10 [103]) (kCond (.tmp 103) (kSeq (kRegion K3r11 [2]) kRet) kSkip)) (kSeq (kRegion K3r12 [13]) (kSeq (kRegion K3r13 [14]) (kSeq (kSeq (kRegion K3r14 [15]) (kBlock 0 (kLoop K3l0))) (kSeq (kRegion K3r22 [2]) kRet)))))))))))))
def K8r0:OpsF:=(oVal (.tmp 4) (kMove (.con .nilslice)) oNil)
def K8r1:OpsF:=(oVal (.tmp 5) (kMove (.con .nilslice)) oNil)
def K8r2:OpsF:=(oVal (.tmp 8) (kMove (.tmp 0)) (oCall (.tmp 9) (.con (.func 7 [] [])) [(.tmp 8),(.con (.int .i64 4))] (oVal (.tmp 6) (kMove (.tmp 9)) oNil)))
def K8r3:OpsF:=(oVal (.tmp 10) (kMove (.tmp 0)) (oVal (.tmp 11) (kMove (.tmp 1)) (oCall (.tmp 12) (.con (.func 9 [] [])) [(.tmp 10),(.con (.int .i64 1)),(.tmp 11)] (oVal (.tmp 7) (kMove (.tmp 12)) oNil))))
def K8r4:OpsF:=(oVal (.tmp 13) (kMove (.tmp 7)) (oVal (.tmp 14) (kGtr (.tmp 13) (.con (.int .i64 0))) oNil))
def K8r5:OpsF:=(oVal (.tmp 17) (kMove (.tmp 5)) (oVal (.tmp 18) (kMove (.tmp 6)) (oVal (.tmp 19) (kBuildSlice [(.int .i64 0)] 1 [(0,1,(.tmp 18))]) (oVal (.tmp 20) (kTwo (appendA false 1 8 (tag 3)) (.tmp 17) (.tmp 19)) (oVal (.tmp 5) (kMove (.tmp 20)) oNil)))))
def K8r6:OpsF:=(oVal (.tmp 21) (kMove (.tmp 6)) (oVal (.tmp 22) (kMove (.tmp 0)) (oCall (.tmp 23) (.con (.func 9 [] [])) [(.tmp 22),(.con (.int .i64 1)),(.con (.int .i64 5))] (oVal (.tmp 24) (kInt aAdd (.tmp 21) (.tmp 23)) (oVal (.tmp 6) (kMove (.tmp 24)) oNil)))))
def K8r7:OpsF:=(oVal (.tmp 15) (kMove (.tmp 7)) (oVal (.tmp 16) (kInt aSub (.tmp 15) (.con (.int .i64 1))) (oVal (.tmp 7) (kMove (.tmp 16)) oNil)))
def K8l0:K:=(kSeq (kSeq (kRegion K8r4 [14]) (kCond (.tmp 14) kSkip (kExit 0))) (kSeq (kBlock 1 (kSeq (kRegion K8r5 [5]) (kRegion K8r6 [6]))) (kRegion K8r7 [7])))
def K8r8:OpsF:=(oVal (.tmp 25) (kMove (.tmp 5)) (oVal (.tmp 4) (kMove (.tmp 25)) oNil))
theorem res8:Try.f8.results.toList=[.tmp 4]:=by kernel_rfl
def K8:K:=(kSeq (kRegion K8r0 [4]) (kSeq (kRegion K8r1 [5]) (kSeq (kRegion K8r2 [6]) (kSeq (kSeq (kRegion K8r3 [7]) (kBlock 0 (kLoop K8l0))) (kSeq (kRegion K8r8 [4]) kRet)))))
theorem enter8 (cl:CallF) (a0 a1:AV) (s:St):enterA Try.prog X cl 8 [a0,a1] s Try.f8=finA Try.prog Try.f8 (K8 cl ⟨8,none,Try.f8.ntmps,X 8⟩ (paramsEnv 0 [a0,a1] .nil) [] s) :=
  enterA_eq (b:=Try.f8.body.getD .skip) (by kernel_rfl) (by kernel_rfl) (by kernel_rfl) (by kernel_rfl) (by kernel_rfl)
def K13r0:OpsF:=(oVal (.tmp 6) (kBox (tag 31) (.tmp 0)) (oVal (.tmp 12) (kMove (.con (.bool false))) oNil))
def K13r1:OpsF:=(oVal (.tmp 17) (kLoad (some 5) (.tmp 6)) (oVal (.tmp 18) (kMove (.tmp 1)) (oVal (.tmp 19) (kMove (.tmp 2)) (oVal (.tmp 20) (kMove (.tmp 3)) (oVal (.tmp 21) (kMove (.tmp 4)) (oCall (.tmp 22) (.con (.func 32 [] [])) [(.tmp 17),(.tmp 18),(.tmp 19),(.tmp 20),(.tmp 21)] (oVal (.tmp 13) (kAlloc [(.int .i64 0),(.int .i64 0),.nilslice,.nilslice,.nilslice] (tag 31)) (oVal .none (kStore 5 (.tmp 13) (.tmp 22)) oNil))))))))
def K13r2:OpsF:=(oVal (.tmp 14) (kMove (.con (.int .i64 0))) oNil)
def K13r3:OpsF:=(oVal (.tmp 23) (kMove (.tmp 14)) (oVal (.tmp 24) (kMove (.tmp 5)) (oVal (.tmp 25) (kInt aLss (.tmp 23) (.tmp 24)) oNil)))
def K13r4:OpsF:=(oVal (.tmp 29) (kLoad (some 5) (.tmp 13)) (oVal (.tmp 30) (kMove (.tmp 1)) (oVal (.tmp 31) (kMove (.tmp 14)) (oCall (.tmp 32) (.con (.func 33 [] [])) [(.tmp 29),(.tmp 30),(.tmp 31)] (oVal (.tmp 28) (kMove (.tmp 32)) (oVal (.tmp 33) (kUn (extA 0) (.tmp 28)) (oVal (.tmp 34) (kUn (extA 1) (.tmp 28)) (oVal (.tmp 15) (kMove (.tmp 33)) (oVal (.tmp 16) (kMove (.tmp 34)) oNil)))))))))
def K13r5s5:OpsF:=(oVal (.tmp 40) (kPick (.tmp 37) (.con (.bool true)) (.tmp 39)) oNil)
def K13r5s4:OpsF:=(oIf 37 false (oVal (.tmp 39) (kInt aNeq (.tmp 38) (.con (.int .i64 1))) K13r5s5) (oSkip (.tmp 39) K13r5s5))
def K13r5:OpsF:=(oVal (.tmp 35) (kMove (.tmp 16)) (oVal (.tmp 36) (kInt aNeq (.tmp 35) (.con (.int .i64 0))) (oVal (.tmp 37) (kMove (.tmp 36)) (oIf 37 false (oVal (.tmp 38) (kMove (.tmp 15)) K13r5s4) (oSkip (.tmp 38) K13r5s4)))))
def K13r6:OpsF:=(oVal (.tmp 12) (kMove (.con (.bool false))) oNil)
def K13r7:OpsF:=(oVal (.tmp 26) (kMove (.tmp 14)) (oVal (.tmp 27) (kInt aAdd (.tmp 26) (.con (.int .i64 1))) (oVal (.tmp 14) (kMove (.tmp 27)) oNil)))
def K13l0:K:=(kSeq (kSeq (kRegion K13r3 [25]) (kCond (.tmp 25) kSkip (kExit 0))) (kSeq (kBlock 1 (kSeq (kRegion K13r4 [15,16]) (kSeq (kRegion K13r5 [40]) (kCond (.tmp 40) (kSeq (kRegion K13r6 [12]) kRet) kSkip)))) (kRegion K13r7 [14])))
def K13r8:OpsF:=(oVal (.tmp 12) (kMove (.con (.bool true))) oNil)
theorem res13:Try.f13.results.toList=[.tmp 12]:=by kernel_rfl
def K13:K:=(kSeq (kRegion K13r0 [6,12]) (kSeq (kRegion K13r1 [13]) (kSeq (kSeq (kRegion K13r2 [14]) (kBlock 0 (kLoop K13l0))) (kSeq (kRegion K13r8 [12]) kRet))))
theorem enter13 (cl:CallF) (a0 a1 a2 a3 a4 a5:AV) (s:St):enterA Try.prog X cl 13 [a0,a1,a2,a3,a4,a5] s Try.f13=finA Try.prog Try.f13 (K13 cl ⟨13,none,Try.f13.ntmps,X 13⟩ (paramsEnv 0 [a0,a1,a2,a3,a4,a5] .nil) [] s) :=
  enterA_eq (b:=Try.f13.body.getD .skip) (by kernel_rfl) (by kernel_rfl) (by kernel_rfl) (by kernel_rfl) (by kernel_rfl)
def K14r0:OpsF:=(oVal (.tmp 4) (kMove (.con .nilslice)) oNil)
def K14r1:OpsF:=(oVal (.tmp 7) (kMove (.tmp 0)) (oVal (.tmp 8) (kUn lenSlA (.tmp 7)) (oVal (.tmp 9) (kMove (.tmp 1)) (oVal (.tmp 10) (kInt aEql (.tmp 8) (.tmp 9)) oNil))))
def K14r2:OpsF:=(oVal (.tmp 11) (kMove (.tmp 0)) (oVal (.tmp 12) (kBuildSlice [.nilslice] 1 [(0,1,(.tmp 11))]) (oVal (.tmp 4) (kMove (.tmp 12)) oNil)))
def K14r3:OpsF:=(oVal (.tmp 5) (kMove (.con .nilslice)) oNil)
def K14r4:OpsF:=(oVal (.tmp 6) (kMove (.con (.int .i64 0))) oNil)
def K14r5:OpsF:=(oVal (.tmp 13) (kMove (.tmp 6)) (oVal (.tmp 14) (kInt aLeq (.tmp 13) (.con (.int .i64 5))) oNil))
def K14r6:OpsF:=(oVal (.tmp 17) (kMove (.tmp 5)) (oVal (.tmp 18) (kMove (.tmp 0)) (oCall (.tmp 19) (.con (.func 34 [] [])) [(.tmp 18)] (oVal (.tmp 20) (kMove (.tmp 6)) (oVal (.tmp 21) (kBuildSlice [(.int .i64 0)] 1 [(0,1,(.tmp 20))]) (oVal (.tmp 22) (kTwo (appendA false 1 8 (tag 3)) (.tmp 19) (.tmp 21)) (oVal (.tmp 23) (kMove (.tmp 1)) (oCall (.tmp 24) (.con (.func 14 [] [])) [(.tmp 22),(.tmp 23)] (oVal (.tmp 25) (kTwo (appendA false 1 24 (tag 22)) (.tmp 17) (.tmp 24)) (oVal (.tmp 5) (kMove (.tmp 25)) oNil))))))))))
def K14r7:OpsF:=(oVal (.tmp 15) (kMove (.tmp 6)) (oVal (.tmp 16) (kInt aAdd (.tmp 15) (.con (.int .i64 1))) (oVal (.tmp 6) (kMove (.tmp 16)) oNil)))
def K14l0:K:=(kSeq (kSeq (kRegion K14r5 [14]) (kCond (.tmp 14) kSkip (kExit 0))) (kSeq (kBlock 1 (kRegion K14r6 [5])) (kRegion K14r7 [6])))
def K14r8:OpsF:=(oVal (.tmp 26) (kMove (.tmp 5)) (oVal (.tmp 4) (kMove (.tmp 26)) oNil))
theorem res14:Try.f14.results.toList=[.tmp 4]:=by kernel_rfl
def K14:K:=(kSeq (kRegion K14r0 [4]) (kSeq (kSeq (kRegion K14r1 [10]) (kCond (.tmp 10) (kSeq (kRegion K14r2 [4]) kRet) kSkip)) (kSeq (kRegion K14r3 [5]) (kSeq (kSeq (kRegion K14r4 [6]) (kBlock 0 (kLoop K14l0))) (kSeq (kRegion K14r8 [4]) kRet)))))
theorem enter14 (cl:CallF) (a0 a1:AV) (s:St):enterA Try.prog X cl 14 [a0,a1] s Try.f14=finA Try.prog Try.f14 (K14 cl ⟨14,none,Try.f14.ntmps,X 14⟩ (paramsEnv 0 [a0,a1] .nil) [] s) :=
  enterA_eq (b:=Try.f14.body.getD .skip) (by kernel_rfl) (by kernel_rfl) (by kernel_rfl) (by kernel_rfl) (by kernel_rfl)
def K12r0:OpsF:=(oVal (.tmp 2) (kMove (.con (.int .i64 0))) oNil)
def K12r1:OpsF:=(oVal (.tmp 3) (kMove (.con (.int .i64 0))) oNil)
def K12r2:OpsF:=(oVal (.tmp 4) (kMove (.con (.int .i64 0))) oNil)
def K12r3:OpsF:=(oVal (.tmp 5) (kMove (.tmp 4)) (oVal (.tmp 6) (kMove (.tmp 0)) (oVal (.tmp 7) (kUn lenSlA (.tmp 6)) (oVal (.tmp 8) (kInt aLss (.tmp 5) (.tmp 7)) oNil))))
def K12r4:OpsF:=(oVal (.tmp 11) (kMove (.tmp 3)) (oVal (.tmp 12) (kMove (.tmp 0)) (oVal (.tmp 13) (kMove (.tmp 4)) (oVal (.tmp 14) (kTwo (ixsA 1) (.tmp 12) (.tmp 13)) (oVal (.tmp 15) (kLoad none (.tmp 14)) (oVal (.tmp 16) (kInt aAdd (.tmp 11) (.tmp 15)) (oVal (.tmp 3) (kMove (.tmp 16)) oNil)))))))
def K12r5:OpsF:=(oVal (.tmp 9) (kMove (.tmp 4)) (oVal (.tmp 10) (kInt aAdd (.tmp 9) (.con (.int .i64 1))) (oVal (.tmp 4) (kMove (.tmp 10)) oNil)))
def K12l0:K:=(kSeq (kSeq (kRegion K12r3 [8]) (kCond (.tmp 8) kSkip (kExit 0))) (kSeq (kBlock 1 (kRegion K12r4 [3])) (kRegion K12r5 [4])))
def K12r6:OpsF:=(oVal (.tmp 17) (kMove (.tmp 3)) (oVal (.tmp 2) (kMove (.tmp 17)) oNil))
theorem res12:Try.f12.results.toList=[.tmp 2]:=by kernel_rfl
def K12:K:=(kSeq (kRegion K12r0 [2]) (kSeq (kRegion K12r1 [3]) (kSeq (kSeq (kRegion K12r2 [4]) (kBlock 0 (kLoop K12l0))) (kSeq (kRegion K12r6 [2]) kRet))))
theorem enter12 (cl:CallF) (a0:AV) (s:St):enterA Try.prog X cl 12 [a0] s Try.f12=finA Try.prog Try.f12 (K12 cl ⟨12,none,Try.f12.ntmps,X 12⟩ (paramsEnv 0 [a0] .nil) [] s) :=
  enterA_eq (b:=Try.f12.body.getD .skip) (by kernel_rfl) (by kernel_rfl) (by kernel_rfl) (by kernel_rfl) (by kernel_rfl)
def K15r0:OpsF:=(oVal (.tmp 4) (kMove (.con (.bool false))) oNil)
def K15r1:OpsF:=(oVal (.tmp 7) (kMove (.tmp 0)) (oVal (.tmp 8) (kUn lenSlA (.tmp 7)) (oVal (.tmp 9) (kMove (.tmp 1)) (oVal (.tmp 10) (kUn lenSlA (.tmp 9)) (oVal (.tmp 11) (kInt aEql (.tmp 8) (.tmp 10)) (oVal (.tmp 5) (kMove (.tmp 11)) oNil))))))
def K15r2:OpsF:=(oVal (.tmp 6) (kMove (.con (.int .i64 0))) oNil)
def K15r3s6:OpsF:=(oVal (.tmp 18) (kPick (.tmp 13) (.tmp 17) (.con (.bool false))) oNil)
def K15r3s5:OpsF:=(oIf 13 true (oVal (.tmp 17) (kInt aLss (.tmp 14) (.tmp 16)) K15r3s6) (oSkip (.tmp 17) K15r3s6))
def K15r3s4:OpsF:=(oIf 13 true (oVal (.tmp 16) (kUn lenSlA (.tmp 15)) K15r3s5) (oSkip (.tmp 16) K15r3s5))
def K15r3s3:OpsF:=(oIf 13 true (oVal (.tmp 15) (kMove (.tmp 0)) K15r3s4) (oSkip (.tmp 15) K15r3s4))
def K15r3:OpsF:=(oVal (.tmp 12) (kMove (.tmp 5)) (oVal (.tmp 13) (kMove (.tmp 12)) (oIf 13 true (oVal (.tmp 14) (kMove (.tmp 6)) K15r3s3) (oSkip (.tmp 14) K15r3s3))))
def K15r4:OpsF:=(oEnd [] (oVal (.tmp 21) (kMove (.tmp 0)) (oVal (.tmp 22) (kMove (.tmp 6)) (oVal (.tmp 23) (kTwo (ixsA 1) (.tmp 21) (.tmp 22)) (oVal (.tmp 24) (kLoad none (.tmp 23)) (oVal (.tmp 25) (kMove (.tmp 1)) (oVal (.tmp 26) (kMove (.tmp 6)) (oVal (.tmp 27) (kTwo (ixsA 1) (.tmp 25) (.tmp 26)) (oVal (.tmp 28) (kLoad none (.tmp 27)) (oVal (.tmp 29) (kInt aEql (.tmp 24) (.tmp 28)) (oVal (.tmp 5) (kMove (.tmp 29)) oNil)))))))))))
def K15r5:OpsF:=(oVal (.tmp 19) (kMove (.tmp 6)) (oVal (.tmp 20) (kInt aAdd (.tmp 19) (.con (.int .i64 1))) (oVal (.tmp 6) (kMove (.tmp 20)) oNil)))
def K15l0:K:=(kSeq (kSeq (kRegion K15r3 [18]) (kCond (.tmp 18) kSkip (kExit 0))) (kSeq (kBlock 1 (kRegionD K15r4 [5])) (kRegion K15r5 [6])))
def K15r6:OpsF:=(oVal (.tmp 30) (kMove (.tmp 5)) (oVal (.tmp 4) (kMove (.tmp 30)) oNil))
theorem res15:Try.f15.results.toList=[.tmp 4]:=by kernel_rfl
def K15:K:=(kSeq (kRegion K15r0 [4]) (kSeq (kRegion K15r1 [5]) (kSeq (kSeq (kRegion K15r2 [6]) (kBlock 0 (kLoop K15l0))) (kSeq (kRegion K15r6 [4]) kRet))))
theorem enter15 (cl:CallF) (a0 a1:AV) (s:St):enterA Try.prog X cl 15 [a0,a1] s Try.f15=finA Try.prog Try.f15 (K15 cl ⟨15,none,Try.f15.ntmps,X 15⟩ (paramsEnv 0 [a0,a1] .nil) [] s) :=
  enterA_eq (b:=Try.f15.body.getD .skip) (by kernel_rfl) (by kernel_rfl) (by kernel_rfl) (by kernel_rfl) (by kernel_rfl)
def K32r0:OpsF:=(oVal (.tmp 5) (kBox (tag 31) (.tmp 0)) (oVal (.tmp 10) (kAlloc [(.int .i64 0),(.int .i64 0),.nilslice,.nilslice,.nilslice] (tag 31)) oNil))
def K32r1:OpsF:=(oVal (.tmp 11) (kMove (.con .nilslice)) oNil)
def K32r2:OpsF:=(oVal (.tmp 12) (kMove (.con (.int .i64 0))) oNil)
def K32r3:OpsF:=(oVal (.tmp 13) (kMove (.con (.int .i64 0))) oNil)
def K32r4:OpsF:=(oVal (.tmp 15) (kMove (.tmp 13)) (oVal (.tmp 16) (kMove (.tmp 2)) (oVal (.tmp 17) (kUn lenSlA (.tmp 16)) (oVal (.tmp 18) (kInt aLss (.tmp 15) (.tmp 17)) oNil))))
def K32r5s17:OpsF:=(oVal (.tmp 38) (kPick (.tmp 26) (.tmp 37) (.con (.bool false))) oNil)
def K32r5s16:OpsF:=(oIf 26 true (oVal (.tmp 37) (kInt aLeq (.tmp 32) (.tmp 36)) K32r5s17) (oSkip (.tmp 37) K32r5s17))
def K32r5s15:OpsF:=(oIf 26 true (oVal (.tmp 36) (kLoad none (.tmp 35)) K32r5s16) (oSkip (.tmp 36) K32r5s16))
def K32r5s14:OpsF:=(oIf 26 true (oVal (.tmp 35) (kTwo (ixsA 1) (.tmp 33) (.tmp 34)) K32r5s15) (oSkip (.tmp 35) K32r5s15))
def K32r5s13:OpsF:=(oIf 26 true (oVal (.tmp 34) (kMove (.tmp 13)) K32r5s14) (oSkip (.tmp 34) K32r5s14))
def K32r5s12:OpsF:=(oIf 26 true (oVal (.tmp 33) (kMove (.tmp 2)) K32r5s13) (oSkip (.tmp 33) K32r5s13))
def K32r5s11:OpsF:=(oIf 26 true (oVal (.tmp 32) (kLoad none (.tmp 31)) K32r5s12) (oSkip (.tmp 32) K32r5s12))
def K32r5s10:OpsF:=(oIf 26 true (oVal (.tmp 31) (kUn (fadA 1) (.tmp 30)) K32r5s11) (oSkip (.tmp 31) K32r5s11))
def K32r5s9:OpsF:=(oIf 26 true (oVal (.tmp 30) (kTwo (ixsA 3) (.tmp 28) (.tmp 29)) K32r5s10) (oSkip (.tmp 30) K32r5s10))
def K32r5s8:OpsF:=(oIf 26 true (oVal (.tmp 29) (kMove (.tmp 12)) K32r5s9) (oSkip (.tmp 29) K32r5s9))
def K32r5s7:OpsF:=(oIf 26 true (oVal (.tmp 28) (kLoad none (.tmp 27)) K32r5s8) (oSkip (.tmp 28) K32r5s8))
def K32r5:OpsF:=(oEnd [] (oVal (.tmp 21) (kMove (.tmp 12)) (oVal (.tmp 22) (kUn (fadA 3) (.tmp 5)) (oVal (.tmp 23) (kLoad none (.tmp 22)) (oVal (.tmp 24) (kUn lenSlA (.tmp 23)) (oVal (.tmp 25) (kInt aLss (.tmp 21) (.tmp 24)) (oVal (.tmp 26) (kMove (.tmp 25)) (oIf 26 true (oVal (.tmp 27) (kUn (fadA 3) (.tmp 5)) K32r5s7) (oSkip (.tmp 27) K32r5s7)))))))))
def K32r6:OpsF:=(oVal (.tmp 39) (kMove (.tmp 11)) (oVal (.tmp 40) (kUn (fadA 3) (.tmp 5)) (oVal (.tmp 41) (kLoad none (.tmp 40)) (oVal (.tmp 42) (kMove (.tmp 12)) (oVal (.tmp 43) (kTwo (ixsA 3) (.tmp 41) (.tmp 42)) (oVal (.tmp 44) (kLoad (some 3) (.tmp 43)) (oVal (.tmp 45) (kBuildSlice [(.int .i64 0),(.int .i64 0),(.int .i64 0)] 1 [(0,3,(.tmp 44))]) (oVal (.tmp 46) (kTwo (appendA false 3 24 (tag 55)) (.tmp 39) (.tmp 45)) (oVal (.tmp 11) (kMove (.tmp 46)) oNil)))))))))
def K32r7:OpsF:=(oVal (.tmp 47) (kMove (.tmp 12)) (oVal (.tmp 48) (kInt aAdd (.tmp 47) (.con (.int .i64 1))) (oVal (.tmp 12) (kMove (.tmp 48)) oNil)))
def K32l0:K:=(kSeq (kSeq (kRegionD K32r5 [38]) (kCond (.tmp 38) kSkip (kExit 2))) (kBlock 3 (kSeq (kRegion K32r6 [11]) (kRegion K32r7 [12]))))
def K32r8:OpsF:=(oVal (.tmp 14) (kMove (.con (.int .i64 0))) oNil)
def K32r9:OpsF:=(oVal (.tmp 49) (kMove (.tmp 14)) (oVal (.tmp 50) (kMove (.tmp 3)) (oVal (.tmp 51) (kMove (.tmp 13)) (oVal (.tmp 52) (kTwo (ixsA 1) (.tmp 50) (.tmp 51)) (oVal (.tmp 53) (kLoad none (.tmp 52)) (oVal (.tmp 54) (kInt aLss (.tmp 49) (.tmp 53)) oNil))))))
def K32r10:OpsF:=(oVal (.tmp 57) (kMove (.tmp 11)) (oVal (.tmp 58) (kMove (.tmp 1)) (oVal (.tmp 59) (kMove (.tmp 2)) (oVal (.tmp 60) (kMove (.tmp 13)) (oVal (.tmp 61) (kTwo (ixsA 1) (.tmp 59) (.tmp 60)) (oVal (.tmp 62) (kLoad none (.tmp 61)) (oVal (.tmp 63) (kMove (.tmp 4)) (oVal (.tmp 64) (kBuild [(.int .i64 0),(.int .i64 0),(.int .i64 0)] [(0,1,(.tmp 58)),(1,1,(.tmp 62)),(2,1,(.tmp 63))]) (oVal (.tmp 65) (kBuildSlice [(.int .i64 0),(.int .i64 0),(.int .i64 0)] 1 [(0,3,(.tmp 64))]) (oVal (.tmp 66) (kTwo (appendA false 3 24 (tag 55)) (.tmp 57) (.tmp 65)) (oVal (.tmp 11) (kMove (.tmp 66)) oNil)))))))))))
def K32r11:OpsF:=(oVal (.tmp 55) (kMove (.tmp 14)) (oVal (.tmp 56) (kInt aAdd (.tmp 55) (.con (.int .i64 1))) (oVal (.tmp 14) (kMove (.tmp 56)) oNil)))
def K32l1:K:=(kSeq (kSeq (kRegion K32r9 [54]) (kCond (.tmp 54) kSkip (kExit 4))) (kSeq (kBlock 5 (kRegion K32r10 [11])) (kRegion K32r11 [14])))
def K32r12:OpsF:=(oVal (.tmp 19) (kMove (.tmp 13)) (oVal (.tmp 20) (kInt aAdd (.tmp 19) (.con (.int .i64 1))) (oVal (.tmp 13) (kMove (.tmp 20)) oNil)))
def K32l2:K:=(kSeq (kSeq (kRegion K32r4 [18]) (kCond (.tmp 18) kSkip (kExit 0))) (kSeq (kBlock 1 (kSeq (kBlock 2 (kLoop K32l0)) (kSeq (kRegion K32r8 [14]) (kBlock 4 (kLoop K32l1))))) (kRegion K32r12 [13])))
def K32r13:OpsF:=(oVal (.tmp 67) (kMove (.tmp 11)) (oVal (.tmp 68) (kUn (fadA 3) (.tmp 5)) (oVal (.tmp 69) (kLoad none (.tmp 68)) (oVal (.tmp 70) (kMove (.tmp 12)) (oVal (.tmp 71) (kSlice (sliceVal 3) (.tmp 69) (some (.tmp 70)) none) (oVal (.tmp 72) (kTwo (appendA false 3 24 (tag 55)) (.tmp 67) (.tmp 71)) (oVal (.tmp 73) (kUn (fadA 3) (.tmp 5)) (oVal .none (kStore 1 (.tmp 73) (.tmp 72)) oNil))))))))
def K32r14:OpsF:=(oVal (.tmp 74) (kLoad (some 5) (.tmp 5)) (oVal .none (kStore 5 (.tmp 10) (.tmp 74)) oNil))
theorem res32:Try.f32.results.toList=[.cell 10 31]:=by kernel_rfl
def K32:K:=(kSeq (kRegion K32r0 [5,10]) (kSeq (kRegion K32r1 [11]) (kSeq (kRegion K32r2 [12]) (kSeq (kSeq (kRegion K32r3 [13]) (kBlock 0 (kLoop K32l2))) (kSeq (kRegion K32r13 []) (kSeq (kRegion K32r14 []) kRet))))))
theorem enter32 (cl:CallF) (a0 a1 a2 a3 a4:AV) (s:St):enterA Try.prog X cl 32 [a0,a1,a2,a3,a4] s Try.f32=finA Try.prog Try.f32 (K32 cl ⟨32,none,Try.f32.ntmps,X 32⟩ (paramsEnv 0 [a0,a1,a2,a3,a4] .nil) [] s) :=
  enterA_eq (b:=Try.f32.body.getD .skip) (by kernel_rfl) (by kernel_rfl) (by kernel_rfl) (by kernel_rfl) (by kernel_rfl)
def K34r0:OpsF:=(oVal (.tmp 2) (kMove (.con .nilslice)) oNil)
def K34r1:OpsF:=(oVal (.tmp 3) (kBuildSlice [] 0 []) (oVal (.tmp 4) (kMove (.tmp 0)) (oVal (.tmp 5) (kTwo (appendA false 1 8 (tag 3)) (.tmp 3) (.tmp 4)) (oVal (.tmp 2) (kMove (.tmp 5)) oNil))))
theorem res34:Try.f34.results.toList=[.tmp 2]:=by kernel_rfl
def K34:K:=(kSeq (kRegion K34r0 [2]) (kSeq (kRegion K34r1 [2]) kRet))
theorem enter34 (cl:CallF) (a0:AV) (s:St):enterA Try.prog X cl 34 [a0] s Try.f34=finA Try.prog Try.f34 (K34 cl ⟨34,none,Try.f34.ntmps,X 34⟩ (paramsEnv 0 [a0] .nil) [] s) :=
  enterA_eq (b:=Try.f34.body.getD .skip) (by kernel_rfl) (by kernel_rfl) (by kernel_rfl) (by kernel_rfl) (by kernel_rfl)
end
end Go.Proofs.Ytkoefjgapmonaaa.code
