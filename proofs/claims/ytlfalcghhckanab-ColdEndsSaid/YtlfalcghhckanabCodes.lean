/- The code of functions as the interpreter has it, region by region. -/
import Derived.Test.YtlfalcghhckanabAbsTab
import Derived.Test.YtlfalcghhckanabAbsWalk
import Derived.KernelRfl
set_option maxRecDepth 100000
namespace Go.Proofs.Ytlfalcghhckanab.code
open Go.Abs
noncomputable section
def K24r0:OpsF:=(oVal (.tmp 2) (kMove (.con (.int .i64 0))) oNil)
def K24r1:OpsF:=(oVal (.tmp 3) (kMove (.con (.int .i64 0))) oNil)
def K24r2:OpsF:=(oVal (.tmp 6) (kMove (.tmp 0)) (oVal (.tmp 7) (kUn lenSlA (.tmp 6)) (oVal (.tmp 8) (kMove (.con (.int .i64 0))) oNil)))
def K24r3:OpsF:=(oVal (.tmp 9) (kInt aLss (.tmp 8) (.tmp 7)) oNil)
def K24r4:OpsF:=(oVal (.tmp 10) (kTwo (ixsA 1) (.tmp 6) (.tmp 8)) (oVal (.tmp 11) (kLoad none (.tmp 10)) (oVal (.tmp 5) (kMove (.tmp 11)) oNil)))
def K24r5:OpsF:=(oVal (.tmp 12) (kMove (.tmp 5)) (oVal (.tmp 13) (kMove (.tmp 3)) (oVal (.tmp 14) (kInt aNeq (.tmp 12) (.tmp 13)) oNil)))
def K24r6:OpsF:=(oVal (.tmp 15) (kMove (.tmp 5)) (oVal (.tmp 2) (kMove (.tmp 15)) oNil))
def K24r7:OpsF:=(oVal (.tmp 16) (kInt aAdd (.tmp 8) (.con (.int .i64 1))) (oVal (.tmp 8) (kMove (.tmp 16)) oNil))
def K24l0:K:=(kSeq (kRegion K24r3 [9]) (kSeq (kCond (.tmp 9) kSkip (kExit 0)) (kSeq (kBlock 1 (kSeq (kRegion K24r4 [5]) (kSeq (kRegion K24r5 [14]) (kCond (.tmp 14) (kSeq (kRegion K24r6 [2]) kRet) kSkip)))) (kRegion K24r7 [8]))))
def K24r8:OpsF:=(oVal (.tmp 17) (kMove (.tmp 3)) (oVal (.tmp 2) (kMove (.tmp 17)) oNil))
theorem res24:Try.f24.results.toList=[.tmp 2]:=by kernel_rfl
def K24:K:=(kSeq (kRegion K24r0 [2]) (kSeq (kRegion K24r1 [3]) (kSeq (kSeq (kRegion K24r2 [6,7,8]) (kBlock 0 (kLoop K24l0))) (kSeq (kRegion K24r8 [2]) kRet))))
theorem enter24 (cl:CallF) (a0:AV) (s:St):enterA Try.prog X cl 24 [a0] s Try.f24=finA Try.prog Try.f24 (K24 cl ⟨24,none,Try.f24.ntmps,X 24⟩ (paramsEnv 0 [a0] .nil) [] s) :=
  enterA_eq (b:=Try.f24.body.getD .skip) (by kernel_rfl) (by kernel_rfl) (by kernel_rfl) (by kernel_rfl) (by kernel_rfl)
def K67r0:OpsF:=(oVal (.tmp 6) (kMove (.con (.int .i64 0))) oNil)
def K67r1:OpsF:=(oVal (.tmp 8) (kMove (.tmp 0)) (oVal (.tmp 9) (kMove (.tmp 1)) (oVal (.tmp 10) (kInt aLss (.tmp 8) (.tmp 9)) (oVal (.tmp 7) (kMove (.tmp 10)) oNil))))
def K67r2:OpsF:=(oVal (.tmp 6) (kMove (.con (.int .i64 7))) oNil)
def K67r3:OpsF:=(oVal (.tmp 12) (kMove (.tmp 0)) (oVal (.tmp 13) (kMove (.tmp 2)) (oVal (.tmp 14) (kGtr (.tmp 12) (.tmp 13)) (oVal (.tmp 11) (kMove (.tmp 14)) oNil))))
def K67r4:OpsF:=(oVal (.tmp 6) (kMove (.con (.int .i64 6))) oNil)
def K67r5:OpsF:=(oVal (.tmp 6) (kMove (.con (.int .i64 0))) oNil)
theorem res67:Try.f67.results.toList=[.tmp 6]:=by kernel_rfl
def K67:K:=(kSeq (kRegion K67r0 [6]) (kSeq (kBlock 0 (kSeq (kRegion K67r1 [7]) (kCond (.tmp 7) (kSeq (kRegion K67r2 [6]) kRet) (kSeq (kRegion K67r3 [11]) (kCond (.tmp 11) (kSeq (kRegion K67r4 [6]) kRet) kSkip))))) (kSeq (kRegion K67r5 [6]) kRet)))
theorem enter67 (cl:CallF) (a0 a1 a2:AV) (s:St):enterA Try.prog X cl 67 [a0,a1,a2] s Try.f67=finA Try.prog Try.f67 (K67 cl ⟨67,none,Try.f67.ntmps,X 67⟩ (paramsEnv 0 [a0,a1,a2] .nil) [] s) :=
  enterA_eq (b:=Try.f67.body.getD .skip) (by kernel_rfl) (by kernel_rfl) (by kernel_rfl) (by kernel_rfl) (by kernel_rfl)
def K59r0:OpsF:=(oVal (.tmp 4) (kMove (.con (.int .i64 0))) oNil)
def K59r1s6:OpsF:=(oVal (.tmp 11) (kPick (.tmp 7) (.con (.bool true)) (.tmp 10)) oNil)
def K59r1s5:OpsF:=(oIf 7 false (oVal (.tmp 10) (kInt aGeq (.tmp 8) (.tmp 9)) K59r1s6) (oSkip (.tmp 10) K59r1s6))
def K59r1s4:OpsF:=(oIf 7 false (oVal (.tmp 9) (kMove (.tmp 1)) K59r1s5) (oSkip (.tmp 9) K59r1s5))
def K59r1:OpsF:=(oVal (.tmp 5) (kMove (.tmp 0)) (oVal (.tmp 6) (kInt aLss (.tmp 5) (.con (.int .i64 0))) (oVal (.tmp 7) (kMove (.tmp 6)) (oIf 7 false (oVal (.tmp 8) (kMove (.tmp 0)) K59r1s4) (oSkip (.tmp 8) K59r1s4)))))
def K59r2:OpsF:=(oVal (.tmp 4) (kMove (.con (.int .i64 3))) oNil)
def K59r3:OpsF:=(oVal (.tmp 4) (kMove (.con (.int .i64 0))) oNil)
theorem res59:Try.f59.results.toList=[.tmp 4]:=by kernel_rfl
def K59:K:=(kSeq (kRegion K59r0 [4]) (kSeq (kSeq (kRegion K59r1 [11]) (kCond (.tmp 11) (kSeq (kRegion K59r2 [4]) kRet) kSkip)) (kSeq (kRegion K59r3 [4]) kRet)))
theorem enter59 (cl:CallF) (a0 a1:AV) (s:St):enterA Try.prog X cl 59 [a0,a1] s Try.f59=finA Try.prog Try.f59 (K59 cl ⟨59,none,Try.f59.ntmps,X 59⟩ (paramsEnv 0 [a0,a1] .nil) [] s) :=
  enterA_eq (b:=Try.f59.body.getD .skip) (by kernel_rfl) (by kernel_rfl) (by kernel_rfl) (by kernel_rfl) (by kernel_rfl)
def K73r0:OpsF:=(oVal (.tmp 3) (kBox (tag 26) (.tmp 0)) (oVal (.tmp 6) (kMove (.con (.int .i64 0))) oNil))
def K73r1:OpsF:=(oEnd [] (oVal (.tmp 8) (kUn (fadA 0) (.tmp 3)) (oVal (.tmp 9) (kLoad none (.tmp 8)) (oVal (.tmp 10) (kMove (.tmp 1)) (oVal (.tmp 11) (kMove (.tmp 2)) (oCallT (some [13]) (.tmp 12) (.con (.func 26 [] [])) [(.tmp 9),(.tmp 10),(.tmp 11)] (oVal (.tmp 13) (kUn (fadA 1) (.tmp 3)) (oVal (.tmp 14) (kLoad none (.tmp 13)) (oVal (.tmp 15) (kMove (.tmp 1)) (oVal (.tmp 16) (kMove (.tmp 2)) (oCall (.tmp 17) (.con (.func 26 [] [])) [(.tmp 14),(.tmp 15),(.tmp 16)] (oVal (.tmp 18) (kBuildSlice [(.int .i64 0),(.int .i64 0)] 2 [(0,1,(.tmp 12)),(1,1,(.tmp 17))]) (oCall (.tmp 19) (.con (.func 24 [] [])) [(.tmp 18)] (oVal (.tmp 7) (kMove (.tmp 19)) oNil))))))))))))))
def K73r2:OpsF:=(oVal (.tmp 20) (kMove (.tmp 7)) (oVal (.tmp 21) (kInt aNeq (.tmp 20) (.con (.int .i64 0))) oNil))
def K73r3:OpsF:=(oVal (.tmp 22) (kMove (.tmp 7)) (oVal (.tmp 6) (kMove (.tmp 22)) oNil))
def K73r4:OpsF:=(oVal (.tmp 23) (kUn (fadA 0) (.tmp 3)) (oVal (.tmp 24) (kLoad none (.tmp 23)) (oVal (.tmp 25) (kUn (fadA 1) (.tmp 3)) (oVal (.tmp 26) (kLoad none (.tmp 25)) (oVal (.tmp 27) (kGtr (.tmp 24) (.tmp 26)) oNil)))))
def K73r5:OpsF:=(oVal (.tmp 6) (kMove (.con (.int .i64 5))) oNil)
def K73r6:OpsF:=(oVal (.tmp 6) (kMove (.con (.int .i64 0))) oNil)
theorem res73:Try.f73.results.toList=[.tmp 6]:=by kernel_rfl
def K73:K:=(kSeq (kRegion K73r0 [3,6]) (kSeq (kSeq (kRegionD K73r1 [7]) (kSeq (kRegion K73r2 [21]) (kCond (.tmp 21) (kSeq (kRegion K73r3 [6]) kRet) kSkip))) (kSeq (kSeq (kRegion K73r4 [27]) (kCond (.tmp 27) (kSeq (kRegion K73r5 [6]) kRet) kSkip)) (kSeq (kRegion K73r6 [6]) kRet))))
theorem enter73 (cl:CallF) (a0 a1 a2:AV) (s:St):enterA Try.prog X cl 73 [a0,a1,a2] s Try.f73=finA Try.prog Try.f73 (K73 cl ⟨73,none,Try.f73.ntmps,X 73⟩ (paramsEnv 0 [a0,a1,a2] .nil) [] s) :=
  enterA_eq (b:=Try.f73.body.getD .skip) (by kernel_rfl) (by kernel_rfl) (by kernel_rfl) (by kernel_rfl) (by kernel_rfl)
def K27r0:OpsF:=(oVal (.tmp 4) (kMove (.con (.int .i64 0))) oNil)
def K27r1:OpsF:=(oVal (.tmp 5) (kMove (.tmp 0)) oNil)
def K27r2:OpsF:=(oVal (.tmp 4) (kMove (.con (.int .i64 0))) oNil)
def K27r3:OpsF:=(oVal (.tmp 6) (kMove (.tmp 1)) (oVal (.tmp 4) (kMove (.tmp 6)) oNil))
theorem res27:Try.f27.results.toList=[.tmp 4]:=by kernel_rfl
def K27:K:=(kSeq (kRegion K27r0 [4]) (kSeq (kSeq (kRegion K27r1 [5]) (kCond (.tmp 5) (kSeq (kRegion K27r2 [4]) kRet) kSkip)) (kSeq (kRegion K27r3 [4]) kRet)))
theorem enter27 (cl:CallF) (a0 a1:AV) (s:St):enterA Try.prog X cl 27 [a0,a1] s Try.f27=finA Try.prog Try.f27 (K27 cl ⟨27,none,Try.f27.ntmps,X 27⟩ (paramsEnv 0 [a0,a1] .nil) [] s) :=
  enterA_eq (b:=Try.f27.body.getD .skip) (by kernel_rfl) (by kernel_rfl) (by kernel_rfl) (by kernel_rfl) (by kernel_rfl)
def K26r0:OpsF:=(oVal (.tmp 6) (kMove (.con (.int .i64 0))) oNil)
def K26r1s7:OpsF:=(oVal (.tmp 14) (kPick (.tmp 10) (.con (.bool true)) (.tmp 13)) oNil)
def K26r1s6:OpsF:=(oIf 10 false (oVal (.tmp 13) (kGtr (.tmp 11) (.tmp 12)) K26r1s7) (oSkip (.tmp 13) K26r1s7))
def K26r1s5:OpsF:=(oIf 10 false (oVal (.tmp 12) (kMove (.tmp 2)) K26r1s6) (oSkip (.tmp 12) K26r1s6))
def K26r1:OpsF:=(oVal (.tmp 7) (kMove (.tmp 0)) (oVal (.tmp 8) (kMove (.tmp 1)) (oVal (.tmp 9) (kInt aLss (.tmp 7) (.tmp 8)) (oVal (.tmp 10) (kMove (.tmp 9)) (oIf 10 false (oVal (.tmp 11) (kMove (.tmp 0)) K26r1s5) (oSkip (.tmp 11) K26r1s5))))))
def K26r2:OpsF:=(oVal (.tmp 6) (kMove (.con (.int .i64 1))) oNil)
def K26r3:OpsF:=(oVal (.tmp 6) (kMove (.con (.int .i64 0))) oNil)
theorem res26:Try.f26.results.toList=[.tmp 6]:=by kernel_rfl
def K26:K:=(kSeq (kRegion K26r0 [6]) (kSeq (kSeq (kRegion K26r1 [14]) (kCond (.tmp 14) (kSeq (kRegion K26r2 [6]) kRet) kSkip)) (kSeq (kRegion K26r3 [6]) kRet)))
theorem enter26 (cl:CallF) (a0 a1 a2:AV) (s:St):enterA Try.prog X cl 26 [a0,a1,a2] s Try.f26=finA Try.prog Try.f26 (K26 cl ⟨26,none,Try.f26.ntmps,X 26⟩ (paramsEnv 0 [a0,a1,a2] .nil) [] s) :=
  enterA_eq (b:=Try.f26.body.getD .skip) (by kernel_rfl) (by kernel_rfl) (by kernel_rfl) (by kernel_rfl) (by kernel_rfl)
def K38r0:OpsF:=(oVal (.tmp 1) (kBox (tag 31) (.tmp 0)) (oVal (.tmp 2) (kMove (.con (.int .i64 0))) oNil))
def K38r1:OpsF:=(oEnd [] (oVal (.tmp 3) (kUn (fadA 0) (.tmp 1)) (oVal (.tmp 4) (kLoad (some 2) (.tmp 3)) (oCallT (some [6,1,11]) (.tmp 5) (.con (.func 55 [] [])) [(.tmp 4)] (oVal (.tmp 6) (kUn (fadA 2) (.tmp 1)) (oVal (.tmp 7) (kLoad none (.tmp 6)) (oCallT (some [1,11]) (.tmp 8) (.con (.func 56 [] [])) [(.tmp 7)] (oVal (.tmp 9) (kLoad (some 5) (.tmp 1)) (oCallT (some [11]) (.tmp 10) (.con (.func 57 [] [])) [(.tmp 9)] (oVal (.tmp 11) (kUn (fadA 4) (.tmp 1)) (oVal (.tmp 12) (kLoad none (.tmp 11)) (oCall (.tmp 13) (.con (.func 58 [] [])) [(.tmp 12)] (oVal (.tmp 14) (kBuildSlice [(.int .i64 0),(.int .i64 0),(.int .i64 0),(.int .i64 0)] 4 [(0,1,(.tmp 5)),(1,1,(.tmp 8)),(2,1,(.tmp 10)),(3,1,(.tmp 13))]) (oCall (.tmp 15) (.con (.func 24 [] [])) [(.tmp 14)] (oVal (.tmp 2) (kMove (.tmp 15)) oNil)))))))))))))))
theorem res38:Try.f38.results.toList=[.tmp 2]:=by kernel_rfl
def K38:K:=(kSeq (kRegion K38r0 [1,2]) (kSeq (kRegionD K38r1 [2]) kRet))
theorem enter38 (cl:CallF) (a0:AV) (s:St):enterA Try.prog X cl 38 [a0] s Try.f38=finA Try.prog Try.f38 (K38 cl ⟨38,none,Try.f38.ntmps,X 38⟩ (paramsEnv 0 [a0] .nil) [] s) :=
  enterA_eq (b:=Try.f38.body.getD .skip) (by kernel_rfl) (by kernel_rfl) (by kernel_rfl) (by kernel_rfl) (by kernel_rfl)
def K25r0:OpsF:=(oVal (.tmp 2) (kBox (tag 31) (.tmp 0)) (oVal (.tmp 3) (kBox (tag 35) (.tmp 1)) (oVal (.tmp 4) (kMove (.con (.int .i64 0))) oNil)))
def K25r1:OpsF:=(oEnd [] (oVal (.tmp 5) (kLoad (some 5) (.tmp 2)) (oCallT (some [2,3]) (.tmp 6) (.con (.func 38 [] [])) [(.tmp 5)] (oVal (.tmp 7) (kLoad (some 5) (.tmp 2)) (oVal (.tmp 8) (kLoad (some 3) (.tmp 3)) (oCall (.tmp 9) (.con (.func 44 [] [])) [(.tmp 7),(.tmp 8)] (oVal (.tmp 10) (kBuildSlice [(.int .i64 0),(.int .i64 0)] 2 [(0,1,(.tmp 6)),(1,1,(.tmp 9))]) (oCall (.tmp 11) (.con (.func 24 [] [])) [(.tmp 10)] (oVal (.tmp 4) (kMove (.tmp 11)) oNil)))))))))
theorem res25:Try.f25.results.toList=[.tmp 4]:=by kernel_rfl
def K25:K:=(kSeq (kRegion K25r0 [2,3,4]) (kSeq (kRegionD K25r1 [4]) kRet))
theorem enter25 (cl:CallF) (a0 a1:AV) (s:St):enterA Try.prog X cl 25 [a0,a1] s Try.f25=finA Try.prog Try.f25 (K25 cl ⟨25,none,Try.f25.ntmps,X 25⟩ (paramsEnv 0 [a0,a1] .nil) [] s) :=
  enterA_eq (b:=Try.f25.body.getD .skip) (by kernel_rfl) (by kernel_rfl) (by kernel_rfl) (by kernel_rfl) (by kernel_rfl)
def K39r0:OpsF:=(oVal (.tmp 2) (kBox (tag 31) (.tmp 0)) (oVal (.tmp 4) (kMove (.con (.int .i64 0))) oNil))
def K39r1:OpsF:=(oVal (.tmp 5) (kMove (.tmp 1)) (oVal (.tmp 6) (kUn (fadA 2) (.tmp 2)) (oVal (.tmp 7) (kLoad none (.tmp 6)) (oVal (.tmp 8) (kUn lenSlA (.tmp 7)) (oCall (.tmp 9) (.con (.func 59 [] [])) [(.tmp 5),(.tmp 8)] (oVal (.tmp 4) (kMove (.tmp 9)) oNil))))))
theorem res39:Try.f39.results.toList=[.tmp 4]:=by kernel_rfl
def K39:K:=(kSeq (kRegion K39r0 [2,4]) (kSeq (kRegion K39r1 [4]) kRet))
theorem enter39 (cl:CallF) (a0 a1:AV) (s:St):enterA Try.prog X cl 39 [a0,a1] s Try.f39=finA Try.prog Try.f39 (K39 cl ⟨39,none,Try.f39.ntmps,X 39⟩ (paramsEnv 0 [a0,a1] .nil) [] s) :=
  enterA_eq (b:=Try.f39.body.getD .skip) (by kernel_rfl) (by kernel_rfl) (by kernel_rfl) (by kernel_rfl) (by kernel_rfl)
def K56r0:OpsF:=(oVal (.tmp 2) (kMove (.con (.int .i64 0))) oNil)
def K56r1:OpsF:=(oVal (.tmp 7) (kMove (.tmp 0)) (oVal (.tmp 8) (kUn lenSlA (.tmp 7)) (oCall (.tmp 9) (.con (.func 67 [] [])) [(.tmp 8),(.con (.int .i64 0)),(.con (.int .i64 6))] (oVal (.tmp 3) (kMove (.tmp 9)) oNil))))
def K56r2:OpsF:=(oVal (.tmp 10) (kMove (.tmp 3)) (oVal (.tmp 11) (kInt aNeq (.tmp 10) (.con (.int .i64 0))) oNil))
def K56r3:OpsF:=(oVal (.tmp 12) (kMove (.tmp 3)) (oVal (.tmp 2) (kMove (.tmp 12)) oNil))
def K56r4:OpsF:=(oVal (.tmp 13) (kMove (.tmp 0)) (oVal (.tmp 14) (kUn lenSlA (.tmp 13)) (oVal (.tmp 15) (kMove (.con (.int .i64 0))) oNil)))
def K56r5:OpsF:=(oVal (.tmp 16) (kInt aLss (.tmp 15) (.tmp 14)) oNil)
def K56r6:OpsF:=(oVal (.tmp 17) (kTwo (ixsA 9) (.tmp 13) (.tmp 15)) (oVal (.tmp 18) (kLoad (some 9) (.tmp 17)) (oVal (.tmp 5) (kAlloc [(.int .i64 0),(.int .i64 0),(.int .i64 0),(.int .i64 0),(.int .i64 0),(.int .i64 0),(.int .i64 0),(.int .i64 0),(.int .i64 0)] (tag 63)) (oVal .none (kStore 9 (.tmp 5) (.tmp 18)) oNil))))
def K56r7:OpsF:=(oEnd [] (oVal (.tmp 19) (kUn (fadA 0) (.tmp 5)) (oVal (.tmp 20) (kLoad none (.tmp 19)) (oCallT (some [22,24,27,30,33,37,40]) (.tmp 21) (.con (.func 26 [] [])) [(.tmp 20),(.con (.int .i64 0)),(.con (.int .i64 100000))] (oVal (.tmp 22) (kUn (fadA 1) (.tmp 5)) (oVal (.tmp 23) (kLoad (some 2) (.tmp 22)) (oVal (.tmp 24) (kUn (fadA 0) (.tmp 5)) (oVal (.tmp 25) (kLoad none (.tmp 24)) (oCallT (some [27,30,33,37,40]) (.tmp 26) (.con (.func 73 [] [])) [(.tmp 23),(.con (.int .i64 0)),(.tmp 25)] (oVal (.tmp 27) (kUn (fadA 3) (.tmp 5)) (oVal (.tmp 28) (kLoad (some 2) (.tmp 27)) (oCallT (some [30,33,37,40]) (.tmp 29) (.con (.func 73 [] [])) [(.tmp 28),(.con (.int .i64 0)),(.con (.int .i64 100000))] (oVal (.tmp 30) (kUn (fadA 5) (.tmp 5)) (oVal (.tmp 31) (kLoad (some 2) (.tmp 30)) (oCallT (some [33,37,40]) (.tmp 32) (.con (.func 55 [] [])) [(.tmp 31)] (oVal (.tmp 33) (kUn (fadA 7) (.tmp 5)) (oVal (.tmp 34) (kLoad (some 2) (.tmp 33)) (oCallT (some [37,40]) (.tmp 35) (.con (.func 55 [] [])) [(.tmp 34)] (oVal (.tmp 36) (kUn (fadA 5) (.tmp 5)) (oVal (.tmp 37) (kUn (fadA 1) (.tmp 36)) (oVal (.tmp 38) (kLoad none (.tmp 37)) (oVal (.tmp 39) (kUn (fadA 7) (.tmp 5)) (oVal (.tmp 40) (kUn (fadA 0) (.tmp 39)) (oVal (.tmp 41) (kLoad none (.tmp 40)) (oVal (.tmp 42) (kInt aLeq (.tmp 38) (.tmp 41)) (oCall (.tmp 43) (.con (.func 27 [] [])) [(.tmp 42),(.con (.int .i64 9))] (oVal (.tmp 44) (kBuildSlice [(.int .i64 0),(.int .i64 0),(.int .i64 0),(.int .i64 0),(.int .i64 0),(.int .i64 0)] 6 [(0,1,(.tmp 21)),(1,1,(.tmp 26)),(2,1,(.tmp 29)),(3,1,(.tmp 32)),(4,1,(.tmp 35)),(5,1,(.tmp 43))]) (oCall (.tmp 45) (.con (.func 24 [] [])) [(.tmp 44)] (oVal (.tmp 6) (kMove (.tmp 45)) oNil)))))))))))))))))))))))))))))
def K56r8:OpsF:=(oVal (.tmp 46) (kMove (.tmp 6)) (oVal (.tmp 47) (kInt aNeq (.tmp 46) (.con (.int .i64 0))) oNil))
def K56r9:OpsF:=(oVal (.tmp 48) (kMove (.tmp 6)) (oVal (.tmp 2) (kMove (.tmp 48)) oNil))
def K56r10:OpsF:=(oVal (.tmp 49) (kInt aAdd (.tmp 15) (.con (.int .i64 1))) (oVal (.tmp 15) (kMove (.tmp 49)) oNil))
def K56l0:K:=(kSeq (kRegion K56r5 [16]) (kSeq (kCond (.tmp 16) kSkip (kExit 0)) (kSeq (kBlock 1 (kSeq (kRegion K56r6 [5]) (kSeq (kRegionD K56r7 [6]) (kSeq (kRegion K56r8 [47]) (kCond (.tmp 47) (kSeq (kRegion K56r9 [2]) kRet) kSkip))))) (kRegion K56r10 [15]))))
def K56r11:OpsF:=(oVal (.tmp 2) (kMove (.con (.int .i64 0))) oNil)
theorem res56:Try.f56.results.toList=[.tmp 2]:=by kernel_rfl
def K56:K:=(kSeq (kRegion K56r0 [2]) (kSeq (kSeq (kRegion K56r1 [3]) (kSeq (kRegion K56r2 [11]) (kCond (.tmp 11) (kSeq (kRegion K56r3 [2]) kRet) kSkip))) (kSeq (kSeq (kRegion K56r4 [13,14,15]) (kBlock 0 (kLoop K56l0))) (kSeq (kRegion K56r11 [2]) kRet))))
theorem enter56 (cl:CallF) (a0:AV) (s:St):enterA Try.prog X cl 56 [a0] s Try.f56=finA Try.prog Try.f56 (K56 cl ⟨56,none,Try.f56.ntmps,X 56⟩ (paramsEnv 0 [a0] .nil) [] s) :=
  enterA_eq (b:=Try.f56.body.getD .skip) (by kernel_rfl) (by kernel_rfl) (by kernel_rfl) (by kernel_rfl) (by kernel_rfl)
def K57r0:OpsF:=(oVal (.tmp 1) (kBox (tag 31) (.tmp 0)) (oVal (.tmp 2) (kMove (.con (.int .i64 0))) oNil))
def K57r1:OpsF:=(oVal (.tmp 8) (kUn (fadA 3) (.tmp 1)) (oVal (.tmp 9) (kLoad none (.tmp 8)) (oVal (.tmp 10) (kUn lenSlA (.tmp 9)) (oCall (.tmp 11) (.con (.func 67 [] [])) [(.tmp 10),(.con (.int .i64 0)),(.con (.int .i64 20))] (oVal (.tmp 3) (kMove (.tmp 11)) oNil)))))
def K57r2:OpsF:=(oVal (.tmp 12) (kMove (.tmp 3)) (oVal (.tmp 13) (kInt aNeq (.tmp 12) (.con (.int .i64 0))) oNil))
def K57r3:OpsF:=(oVal (.tmp 14) (kMove (.tmp 3)) (oVal (.tmp 2) (kMove (.tmp 14)) oNil))
def K57r4:OpsF:=(oVal (.tmp 4) (kMove (.con (.int .i64 0))) oNil)
def K57r5:OpsF:=(oVal (.tmp 15) (kUn (fadA 3) (.tmp 1)) (oVal (.tmp 16) (kLoad none (.tmp 15)) (oVal (.tmp 17) (kUn lenSlA (.tmp 16)) (oVal (.tmp 18) (kMove (.con (.int .i64 0))) oNil))))
def K57r6:OpsF:=(oVal (.tmp 19) (kInt aLss (.tmp 18) (.tmp 17)) oNil)
def K57r7:OpsF:=(oVal (.tmp 20) (kTwo (ixsA 3) (.tmp 16) (.tmp 18)) (oVal (.tmp 21) (kLoad (some 3) (.tmp 20)) (oVal (.tmp 6) (kAlloc [(.int .i64 0),(.int .i64 0),(.int .i64 0)] (tag 65)) (oVal .none (kStore 3 (.tmp 6) (.tmp 21)) oNil))))
def K57r8:OpsF:=(oEnd [] (oVal (.tmp 22) (kLoad (some 5) (.tmp 1)) (oVal (.tmp 23) (kUn (fadA 0) (.tmp 6)) (oVal (.tmp 24) (kLoad none (.tmp 23)) (oCallT (some [26,29,32]) (.tmp 25) (.con (.func 39 [] [])) [(.tmp 22),(.tmp 24)] (oVal (.tmp 26) (kUn (fadA 1) (.tmp 6)) (oVal (.tmp 27) (kLoad none (.tmp 26)) (oCallT (some [29,32]) (.tmp 28) (.con (.func 40 [] [])) [(.tmp 27)] (oVal (.tmp 29) (kUn (fadA 2) (.tmp 6)) (oVal (.tmp 30) (kLoad none (.tmp 29)) (oCallT (some [32]) (.tmp 31) (.con (.func 26 [] [])) [(.tmp 30),(.con (.int .i64 0)),(.con (.int .i64 100000))] (oVal (.tmp 32) (kUn (fadA 1) (.tmp 6)) (oVal (.tmp 33) (kLoad none (.tmp 32)) (oVal (.tmp 34) (kMove (.tmp 4)) (oVal (.tmp 35) (kInt aGeq (.tmp 33) (.tmp 34)) (oCall (.tmp 36) (.con (.func 27 [] [])) [(.tmp 35),(.con (.int .i64 5))] (oVal (.tmp 37) (kBuildSlice [(.int .i64 0),(.int .i64 0),(.int .i64 0),(.int .i64 0)] 4 [(0,1,(.tmp 25)),(1,1,(.tmp 28)),(2,1,(.tmp 31)),(3,1,(.tmp 36))]) (oCall (.tmp 38) (.con (.func 24 [] [])) [(.tmp 37)] (oVal (.tmp 7) (kMove (.tmp 38)) oNil)))))))))))))))))))
def K57r9:OpsF:=(oVal (.tmp 39) (kMove (.tmp 7)) (oVal (.tmp 40) (kInt aNeq (.tmp 39) (.con (.int .i64 0))) oNil))
def K57r10:OpsF:=(oVal (.tmp 41) (kMove (.tmp 7)) (oVal (.tmp 2) (kMove (.tmp 41)) oNil))
def K57r11:OpsF:=(oVal (.tmp 42) (kUn (fadA 1) (.tmp 6)) (oVal (.tmp 43) (kLoad none (.tmp 42)) (oVal (.tmp 4) (kMove (.tmp 43)) oNil)))
def K57r12:OpsF:=(oVal (.tmp 44) (kInt aAdd (.tmp 18) (.con (.int .i64 1))) (oVal (.tmp 18) (kMove (.tmp 44)) oNil))
def K57l0:K:=(kSeq (kRegion K57r6 [19]) (kSeq (kCond (.tmp 19) kSkip (kExit 0)) (kSeq (kBlock 1 (kSeq (kRegion K57r7 [6]) (kSeq (kRegionD K57r8 [7]) (kSeq (kSeq (kRegion K57r9 [40]) (kCond (.tmp 40) (kSeq (kRegion K57r10 [2]) kRet) kSkip)) (kRegion K57r11 [4]))))) (kRegion K57r12 [18]))))
def K57r13:OpsF:=(oVal (.tmp 2) (kMove (.con (.int .i64 0))) oNil)
theorem res57:Try.f57.results.toList=[.tmp 2]:=by kernel_rfl
def K57:K:=(kSeq (kRegion K57r0 [1,2]) (kSeq (kSeq (kRegion K57r1 [3]) (kSeq (kRegion K57r2 [13]) (kCond (.tmp 13) (kSeq (kRegion K57r3 [2]) kRet) kSkip))) (kSeq (kRegion K57r4 [4]) (kSeq (kSeq (kRegion K57r5 [16,17,18]) (kBlock 0 (kLoop K57l0))) (kSeq (kRegion K57r13 [2]) kRet)))))
theorem enter57 (cl:CallF) (a0:AV) (s:St):enterA Try.prog X cl 57 [a0] s Try.f57=finA Try.prog Try.f57 (K57 cl ⟨57,none,Try.f57.ntmps,X 57⟩ (paramsEnv 0 [a0] .nil) [] s) :=
  enterA_eq (b:=Try.f57.body.getD .skip) (by kernel_rfl) (by kernel_rfl) (by kernel_rfl) (by kernel_rfl) (by kernel_rfl)
def K40r0:OpsF:=(oVal (.tmp 2) (kMove (.con (.int .i64 0))) oNil)
def K40r1:OpsF:=(oVal (.tmp 3) (kMove (.tmp 0)) (oCall (.tmp 4) (.con (.func 26 [] [])) [(.tmp 3),(.con (.int .i64 0)),(.con (.int .i64 239))] (oVal (.tmp 2) (kMove (.tmp 4)) oNil)))
theorem res40:Try.f40.results.toList=[.tmp 2]:=by kernel_rfl
def K40:K:=(kSeq (kRegion K40r0 [2]) (kSeq (kRegion K40r1 [2]) kRet))
theorem enter40 (cl:CallF) (a0:AV) (s:St):enterA Try.prog X cl 40 [a0] s Try.f40=finA Try.prog Try.f40 (K40 cl ⟨40,none,Try.f40.ntmps,X 40⟩ (paramsEnv 0 [a0] .nil) [] s) :=
  enterA_eq (b:=Try.f40.body.getD .skip) (by kernel_rfl) (by kernel_rfl) (by kernel_rfl) (by kernel_rfl) (by kernel_rfl)
def K44r0:OpsF:=(oVal (.tmp 2) (kBox (tag 31) (.tmp 0)) (oVal (.tmp 3) (kBox (tag 35) (.tmp 1)) (oVal (.tmp 4) (kMove (.con (.int .i64 0))) oNil)))
def K44r1:OpsF:=(oEnd [] (oVal (.tmp 10) (kUn (fadA 0) (.tmp 3)) (oVal (.tmp 11) (kLoad none (.tmp 10)) (oCallT (some [13,16,17]) (.tmp 12) (.con (.func 40 [] [])) [(.tmp 11)] (oVal (.tmp 13) (kUn (fadA 1) (.tmp 3)) (oVal (.tmp 14) (kLoad none (.tmp 13)) (oCallT (some [16,17]) (.tmp 15) (.con (.func 26 [] [])) [(.tmp 14),(.con (.int .i64 0)),(.con (.int .i64 100000))] (oVal (.tmp 16) (kUn (fadA 2) (.tmp 3)) (oVal (.tmp 17) (kLoad none (.tmp 16)) (oVal (.tmp 18) (kUn lenSlA (.tmp 17)) (oCall (.tmp 19) (.con (.func 67 [] [])) [(.tmp 18),(.con (.int .i64 0)),(.con (.int .i64 8))] (oVal (.tmp 20) (kBuildSlice [(.int .i64 0),(.int .i64 0),(.int .i64 0)] 3 [(0,1,(.tmp 12)),(1,1,(.tmp 15)),(2,1,(.tmp 19))]) (oCall (.tmp 21) (.con (.func 24 [] [])) [(.tmp 20)] (oVal (.tmp 5) (kMove (.tmp 21)) oNil))))))))))))))
def K44r2:OpsF:=(oVal (.tmp 22) (kMove (.tmp 5)) (oVal (.tmp 23) (kInt aNeq (.tmp 22) (.con (.int .i64 0))) oNil))
def K44r3:OpsF:=(oVal (.tmp 24) (kMove (.tmp 5)) (oVal (.tmp 4) (kMove (.tmp 24)) oNil))
def K44r4:OpsF:=(oVal (.tmp 25) (kUn (fadA 0) (.tmp 3)) (oVal (.tmp 26) (kLoad none (.tmp 25)) (oVal (.tmp 6) (kMove (.tmp 26)) oNil)))
def K44r5:OpsF:=(oVal (.tmp 27) (kUn (fadA 2) (.tmp 3)) (oVal (.tmp 28) (kLoad none (.tmp 27)) (oVal (.tmp 29) (kUn lenSlA (.tmp 28)) (oVal (.tmp 30) (kMove (.con (.int .i64 0))) oNil))))
def K44r6:OpsF:=(oVal (.tmp 31) (kInt aLss (.tmp 30) (.tmp 29)) oNil)
def K44r7:OpsF:=(oVal (.tmp 32) (kTwo (ixsA 3) (.tmp 28) (.tmp 30)) (oVal (.tmp 33) (kLoad (some 3) (.tmp 32)) (oVal (.tmp 8) (kAlloc [(.int .i64 0),(.int .i64 0),(.int .i64 0)] (tag 69)) (oVal .none (kStore 3 (.tmp 8) (.tmp 33)) oNil))))
def K44r8s20:OpsF:=(oVal (.tmp 54) (kPick (.tmp 49) (.tmp 53) (.con (.bool false))) (oCall (.tmp 55) (.con (.func 27 [] [])) [(.tmp 54),(.con (.int .i64 5))] (oVal (.tmp 56) (kBuildSlice [(.int .i64 0),(.int .i64 0),(.int .i64 0),(.int .i64 0)] 4 [(0,1,(.tmp 37)),(1,1,(.tmp 40)),(2,1,(.tmp 43)),(3,1,(.tmp 55))]) (oCall (.tmp 57) (.con (.func 24 [] [])) [(.tmp 56)] (oVal (.tmp 9) (kMove (.tmp 57)) oNil)))))
def K44r8s19:OpsF:=(oIf 49 true (oVal (.tmp 53) (kInt aGeq (.tmp 51) (.tmp 52)) K44r8s20) (oSkip (.tmp 53) K44r8s20))
def K44r8s18:OpsF:=(oIf 49 true (oVal (.tmp 52) (kMove (.tmp 6)) K44r8s19) (oSkip (.tmp 52) K44r8s19))
def K44r8s17:OpsF:=(oIf 49 true (oVal (.tmp 51) (kLoad none (.tmp 50)) K44r8s18) (oSkip (.tmp 51) K44r8s18))
def K44r8:OpsF:=(oEnd [] (oVal (.tmp 34) (kLoad (some 5) (.tmp 2)) (oVal (.tmp 35) (kUn (fadA 0) (.tmp 8)) (oVal (.tmp 36) (kLoad none (.tmp 35)) (oCallT (some [38,41,44,46]) (.tmp 37) (.con (.func 39 [] [])) [(.tmp 34),(.tmp 36)] (oVal (.tmp 38) (kUn (fadA 1) (.tmp 8)) (oVal (.tmp 39) (kLoad none (.tmp 38)) (oCallT (some [41,44,46]) (.tmp 40) (.con (.func 26 [] [])) [(.tmp 39),(.con (.int .i64 0)),(.con (.int .i64 240))] (oVal (.tmp 41) (kUn (fadA 2) (.tmp 8)) (oVal (.tmp 42) (kLoad none (.tmp 41)) (oCallT (some [44,46]) (.tmp 43) (.con (.func 26 [] [])) [(.tmp 42),(.con (.int .i64 0)),(.con (.int .i64 240))] (oVal (.tmp 44) (kUn (fadA 1) (.tmp 8)) (oVal (.tmp 45) (kLoad none (.tmp 44)) (oVal (.tmp 46) (kUn (fadA 2) (.tmp 8)) (oVal (.tmp 47) (kLoad none (.tmp 46)) (oVal (.tmp 48) (kInt aLss (.tmp 45) (.tmp 47)) (oVal (.tmp 49) (kMove (.tmp 48)) (oIf 49 true (oVal (.tmp 50) (kUn (fadA 1) (.tmp 8)) K44r8s17) (oSkip (.tmp 50) K44r8s17)))))))))))))))))))
def K44r9:OpsF:=(oVal (.tmp 58) (kMove (.tmp 9)) (oVal (.tmp 59) (kInt aNeq (.tmp 58) (.con (.int .i64 0))) oNil))
def K44r10:OpsF:=(oVal (.tmp 60) (kMove (.tmp 9)) (oVal (.tmp 4) (kMove (.tmp 60)) oNil))
def K44r11:OpsF:=(oVal (.tmp 61) (kUn (fadA 2) (.tmp 8)) (oVal (.tmp 62) (kLoad none (.tmp 61)) (oVal (.tmp 6) (kMove (.tmp 62)) oNil)))
def K44r12:OpsF:=(oVal (.tmp 63) (kInt aAdd (.tmp 30) (.con (.int .i64 1))) (oVal (.tmp 30) (kMove (.tmp 63)) oNil))
def K44l0:K:=(kSeq (kRegion K44r6 [31]) (kSeq (kCond (.tmp 31) kSkip (kExit 0)) (kSeq (kBlock 1 (kSeq (kRegion K44r7 [8]) (kSeq (kRegionD K44r8 [9]) (kSeq (kSeq (kRegion K44r9 [59]) (kCond (.tmp 59) (kSeq (kRegion K44r10 [4]) kRet) kSkip)) (kRegion K44r11 [6]))))) (kRegion K44r12 [30]))))
def K44r13:OpsF:=(oVal (.tmp 4) (kMove (.con (.int .i64 0))) oNil)
theorem res44:Try.f44.results.toList=[.tmp 4]:=by kernel_rfl
def K44:K:=(kSeq (kRegion K44r0 [2,3,4]) (kSeq (kRegionD K44r1 [5]) (kSeq (kSeq (kRegion K44r2 [23]) (kCond (.tmp 23) (kSeq (kRegion K44r3 [4]) kRet) kSkip)) (kSeq (kRegion K44r4 [6]) (kSeq (kSeq (kRegion K44r5 [28,29,30]) (kBlock 0 (kLoop K44l0))) (kSeq (kRegion K44r13 [4]) kRet))))))
theorem enter44 (cl:CallF) (a0 a1:AV) (s:St):enterA Try.prog X cl 44 [a0,a1] s Try.f44=finA Try.prog Try.f44 (K44 cl ⟨44,none,Try.f44.ntmps,X 44⟩ (paramsEnv 0 [a0,a1] .nil) [] s) :=
  enterA_eq (b:=Try.f44.body.getD .skip) (by kernel_rfl) (by kernel_rfl) (by kernel_rfl) (by kernel_rfl) (by kernel_rfl)
def K58r0:OpsF:=(oVal (.tmp 2) (kMove (.con (.int .i64 0))) oNil)
def K58r1:OpsF:=(oVal (.tmp 8) (kMove (.tmp 0)) (oVal (.tmp 9) (kUn lenSlA (.tmp 8)) (oCall (.tmp 10) (.con (.func 67 [] [])) [(.tmp 9),(.con (.int .i64 1)),(.con (.int .i64 6))] (oVal (.tmp 3) (kMove (.tmp 10)) oNil))))
def K58r2:OpsF:=(oVal (.tmp 11) (kMove (.tmp 3)) (oVal (.tmp 12) (kInt aNeq (.tmp 11) (.con (.int .i64 0))) oNil))
def K58r3:OpsF:=(oVal (.tmp 13) (kMove (.tmp 3)) (oVal (.tmp 2) (kMove (.tmp 13)) oNil))
def K58r4:OpsF:=(oVal (.tmp 14) (kBuild [(.int .i64 0),(.int .i64 0)] [(0,1,(.con (.int .i64 (-301))))]) (oVal (.tmp 4) (kAlloc [(.int .i64 0),(.int .i64 0)] (tag 67)) (oVal .none (kStore 2 (.tmp 4) (.tmp 14)) oNil)))
def K58r5:OpsF:=(oVal (.tmp 15) (kMove (.tmp 0)) (oVal (.tmp 16) (kUn lenSlA (.tmp 15)) (oVal (.tmp 17) (kMove (.con (.int .i64 0))) oNil)))
def K58r6:OpsF:=(oVal (.tmp 18) (kInt aLss (.tmp 17) (.tmp 16)) oNil)
def K58r7:OpsF:=(oVal (.tmp 19) (kTwo (ixsA 2) (.tmp 15) (.tmp 17)) (oVal (.tmp 20) (kLoad (some 2) (.tmp 19)) (oVal (.tmp 6) (kAlloc [(.int .i64 0),(.int .i64 0)] (tag 67)) (oVal .none (kStore 2 (.tmp 6) (.tmp 20)) oNil))))
def K58r8s17:OpsF:=(oVal (.tmp 38) (kPick (.tmp 32) (.tmp 37) (.con (.bool false))) (oCall (.tmp 39) (.con (.func 27 [] [])) [(.tmp 38),(.con (.int .i64 5))] (oVal (.tmp 40) (kBuildSlice [(.int .i64 0),(.int .i64 0),(.int .i64 0)] 3 [(0,1,(.tmp 23)),(1,1,(.tmp 26)),(2,1,(.tmp 39))]) (oCall (.tmp 41) (.con (.func 24 [] [])) [(.tmp 40)] (oVal (.tmp 7) (kMove (.tmp 41)) oNil)))))
def K58r8s16:OpsF:=(oIf 32 true (oVal (.tmp 37) (kInt aGeq (.tmp 34) (.tmp 36)) K58r8s17) (oSkip (.tmp 37) K58r8s17))
def K58r8s15:OpsF:=(oIf 32 true (oVal (.tmp 36) (kLoad none (.tmp 35)) K58r8s16) (oSkip (.tmp 36) K58r8s16))
def K58r8s14:OpsF:=(oIf 32 true (oVal (.tmp 35) (kUn (fadA 1) (.tmp 4)) K58r8s15) (oSkip (.tmp 35) K58r8s15))
def K58r8s13:OpsF:=(oIf 32 true (oVal (.tmp 34) (kLoad none (.tmp 33)) K58r8s14) (oSkip (.tmp 34) K58r8s14))
def K58r8:OpsF:=(oEnd [] (oVal (.tmp 21) (kUn (fadA 0) (.tmp 6)) (oVal (.tmp 22) (kLoad none (.tmp 21)) (oCallT (some [24,27,29]) (.tmp 23) (.con (.func 26 [] [])) [(.tmp 22),(.con (.int .i64 (-300))),(.con (.int .i64 400))] (oVal (.tmp 24) (kUn (fadA 1) (.tmp 6)) (oVal (.tmp 25) (kLoad none (.tmp 24)) (oCallT (some [27,29]) (.tmp 26) (.con (.func 26 [] [])) [(.tmp 25),(.con (.int .i64 0)),(.con (.int .i64 1000))] (oVal (.tmp 27) (kUn (fadA 0) (.tmp 6)) (oVal (.tmp 28) (kLoad none (.tmp 27)) (oVal (.tmp 29) (kUn (fadA 0) (.tmp 4)) (oVal (.tmp 30) (kLoad none (.tmp 29)) (oVal (.tmp 31) (kGtr (.tmp 28) (.tmp 30)) (oVal (.tmp 32) (kMove (.tmp 31)) (oIf 32 true (oVal (.tmp 33) (kUn (fadA 1) (.tmp 6)) K58r8s13) (oSkip (.tmp 33) K58r8s13)))))))))))))))
def K58r9:OpsF:=(oVal (.tmp 42) (kMove (.tmp 7)) (oVal (.tmp 43) (kInt aNeq (.tmp 42) (.con (.int .i64 0))) oNil))
def K58r10:OpsF:=(oVal (.tmp 44) (kMove (.tmp 7)) (oVal (.tmp 2) (kMove (.tmp 44)) oNil))
def K58r11:OpsF:=(oVal (.tmp 45) (kLoad (some 2) (.tmp 6)) (oVal .none (kStore 2 (.tmp 4) (.tmp 45)) oNil))
def K58r12:OpsF:=(oVal (.tmp 46) (kInt aAdd (.tmp 17) (.con (.int .i64 1))) (oVal (.tmp 17) (kMove (.tmp 46)) oNil))
def K58l0:K:=(kSeq (kRegion K58r6 [18]) (kSeq (kCond (.tmp 18) kSkip (kExit 0)) (kSeq (kBlock 1 (kSeq (kRegion K58r7 [6]) (kSeq (kRegionD K58r8 [7]) (kSeq (kSeq (kRegion K58r9 [43]) (kCond (.tmp 43) (kSeq (kRegion K58r10 [2]) kRet) kSkip)) (kRegion K58r11 []))))) (kRegion K58r12 [17]))))
def K58r13:OpsF:=(oVal (.tmp 2) (kMove (.con (.int .i64 0))) oNil)
theorem res58:Try.f58.results.toList=[.tmp 2]:=by kernel_rfl
def K58:K:=(kSeq (kRegion K58r0 [2]) (kSeq (kSeq (kRegion K58r1 [3]) (kSeq (kRegion K58r2 [12]) (kCond (.tmp 12) (kSeq (kRegion K58r3 [2]) kRet) kSkip))) (kSeq (kRegion K58r4 [4]) (kSeq (kSeq (kRegion K58r5 [15,16,17]) (kBlock 0 (kLoop K58l0))) (kSeq (kRegion K58r13 [2]) kRet)))))
theorem enter58 (cl:CallF) (a0:AV) (s:St):enterA Try.prog X cl 58 [a0] s Try.f58=finA Try.prog Try.f58 (K58 cl ⟨58,none,Try.f58.ntmps,X 58⟩ (paramsEnv 0 [a0] .nil) [] s) :=
  enterA_eq (b:=Try.f58.body.getD .skip) (by kernel_rfl) (by kernel_rfl) (by kernel_rfl) (by kernel_rfl) (by kernel_rfl)
def K55r0:OpsF:=(oVal (.tmp 1) (kBox (tag 26) (.tmp 0)) (oVal (.tmp 2) (kMove (.con (.int .i64 0))) oNil))
def K55r1:OpsF:=(oVal (.tmp 3) (kLoad (some 2) (.tmp 1)) (oCall (.tmp 4) (.con (.func 73 [] [])) [(.tmp 3),(.con (.int .i64 (-300))),(.con (.int .i64 400))] (oVal (.tmp 2) (kMove (.tmp 4)) oNil)))
theorem res55:Try.f55.results.toList=[.tmp 2]:=by kernel_rfl
def K55:K:=(kSeq (kRegion K55r0 [1,2]) (kSeq (kRegion K55r1 [2]) kRet))
theorem enter55 (cl:CallF) (a0:AV) (s:St):enterA Try.prog X cl 55 [a0] s Try.f55=finA Try.prog Try.f55 (K55 cl ⟨55,none,Try.f55.ntmps,X 55⟩ (paramsEnv 0 [a0] .nil) [] s) :=
  enterA_eq (b:=Try.f55.body.getD .skip) (by kernel_rfl) (by kernel_rfl) (by kernel_rfl) (by kernel_rfl) (by kernel_rfl)
end
end Go.Proofs.Ytlfalcghhckanab.code
set_option maxRecDepth 100000
namespace Go.Proofs.Ytlfalcghhckanab.code
open Go.Abs
noncomputable section
def K16r0:OpsF:=(oVal (.tmp 3) (kBox (tag 31) (.tmp 0)) (oVal (.tmp 6) (kAlloc [(.int .i64 0),(.int .i64 0)] (tag 26)) (oVal (.tmp 7) (kMove (.con (.int .i64 0))) oNil)))
def K16r1:OpsF:=(oEnd [] (oVal (.tmp 13) (kLoad (some 5) (.tmp 3)) (oCallT (some [3]) (.tmp 14) (.con (.func 38 [] [])) [(.tmp 13)] (oVal (.tmp 15) (kLoad (some 5) (.tmp 3)) (oVal (.tmp 16) (kMove (.tmp 1)) (oCall (.tmp 17) (.con (.func 39 [] [])) [(.tmp 15),(.tmp 16)] (oVal (.tmp 18) (kMove (.tmp 2)) (oCall (.tmp 19) (.con (.func 40 [] [])) [(.tmp 18)] (oVal (.tmp 20) (kBuildSlice [(.int .i64 0),(.int .i64 0),(.int .i64 0)] 3 [(0,1,(.tmp 14)),(1,1,(.tmp 17)),(2,1,(.tmp 19))]) (oCall (.tmp 21) (.con (.func 24 [] [])) [(.tmp 20)] (oVal (.tmp 8) (kMove (.tmp 21)) oNil)))))))))))
def K16r2:OpsF:=(oVal (.tmp 22) (kMove (.tmp 8)) (oVal (.tmp 23) (kInt aNeq (.tmp 22) (.con (.int .i64 0))) oNil))
def K16r3:OpsF:=(oVal (.tmp 24) (kBuild [(.int .i64 0),(.int .i64 0)] []) (oVal (.tmp 25) (kMove (.tmp 8)) (oVal .none (kStore 2 (.tmp 6) (.tmp 24)) (oVal (.tmp 7) (kMove (.tmp 25)) oNil))))
def K16r4:OpsF:=(oVal (.tmp 26) (kLoad (some 5) (.tmp 3)) (oVal (.tmp 27) (kMove (.tmp 1)) (oCall (.tmp 28) (.con (.func 41 [] [])) [(.tmp 26),(.tmp 27)] (oVal (.tmp 9) (kAlloc [(.int .i64 0),(.int .i64 0),(.int .i64 0),(.int .i64 0),(.int .i64 0),(.int .i64 0),(.int .i64 0),(.int .i64 0),(.int .i64 0),(.int .i64 0),(.int .i64 0),(.int .i64 0),.nilslice] (tag 95)) (oVal .none (kStore 13 (.tmp 9) (.tmp 28)) oNil)))))
def K16r5:OpsF:=(oVal (.tmp 10) (kAlloc [(.int .i64 0),(.int .i64 0)] (tag 93)) oNil)
def K16r6:OpsF:=(oVal (.tmp 29) (kMove (.tmp 2)) (oVal (.tmp 30) (kInt aAdd (.tmp 29) (.con (.int .i64 1))) (oCall (.tmp 31) (.con (.func 42 [] [])) [(.tmp 9),(.tmp 30)] oNil)))
def K16r7:OpsF:=(oVal (.tmp 35) (kLoad (some 2) (.tmp 10)) (oCall (.tmp 36) (.con (.func 43 [] [])) [(.tmp 35)] (oVal .none (kStore 2 (.tmp 6) (.tmp 36)) (oVal (.tmp 7) (kMove (.con (.int .i64 0))) oNil))))
theorem res16:Try.f16.results.toList=[.cell 6 26,.tmp 7]:=by kernel_rfl
def K16:K:=(kSeq (kRegion K16r0 [3,6,7]) (kSeq (kRegionD K16r1 [8]) (kSeq (kSeq (kRegion K16r2 [23]) (kCond (.tmp 23) (kSeq (kRegion K16r3 [7]) kRet) kSkip)) (kSeq (kRegion K16r4 [9]) (kSeq (kRegion K16r5 [10]) (kSeq (kSeq (kRegion K16r6 [31]) (kBlock 0 (kRange (.tmp 31) [32,33] (rangeAt Try.f16 0).1 (rangeAt Try.f16 0).2))) (kSeq (kRegion K16r7 [7]) kRet)))))))
theorem enter16 (cl:CallF) (a0 a1 a2:AV) (s:St):enterA Try.prog X cl 16 [a0,a1,a2] s Try.f16=finA Try.prog Try.f16 (K16 cl ⟨16,none,Try.f16.ntmps,X 16⟩ (paramsEnv 0 [a0,a1,a2] .nil) [] s) :=
  enterA_eq (b:=Try.f16.body.getD .skip) (by kernel_rfl) (by kernel_rfl) (by kernel_rfl) (by kernel_rfl) (by kernel_rfl)
def K16a0r0:OpsF:=(oVal (.tmp 12) (kAlloc [(.int .i64 0),(.int .i64 0)] (tag 93)) (oVal .none (kStore 2 (.tmp 12) (.tmp 33)) oNil))
def K16a0:K:=(kRegion K16a0r0 [12])
theorem code16a0:codeK Try.prog (X 16) Try.f16.ntmps (rangeAt Try.f16 0).1=some K16a0:=by kernel_rfl
def K16b0r0:OpsF:=(oVal (.tmp 34) (kLoad (some 2) (.tmp 12)) (oVal .none (kStore 2 (.tmp 10) (.tmp 34)) oNil))
def K16b0:K:=(kBlock 1 (kRegion K16b0r0 []))
theorem code16b0:codeK Try.prog (X 16) Try.f16.ntmps (rangeAt Try.f16 0).2=some K16b0:=by kernel_rfl
def K17r0:OpsF:=(oVal (.tmp 3) (kBox (tag 31) (.tmp 0)) (oVal (.tmp 6) (kMove (.con (.int .i64 0))) (oVal (.tmp 7) (kMove (.con (.int .i64 0))) oNil)))
def K17r1:OpsF:=(oVal (.tmp 11) (kLoad (some 5) (.tmp 3)) (oVal (.tmp 12) (kMove (.tmp 1)) (oVal (.tmp 13) (kMove (.tmp 2)) (oCall (.tmp 14) (.con (.func 16 [] [])) [(.tmp 11),(.tmp 12),(.tmp 13)] (oVal (.tmp 10) (kMove (.tmp 14)) (oVal (.tmp 15) (kUn (extA 0) (.tmp 10)) (oVal (.tmp 16) (kUn (extA 1) (.tmp 10)) (oVal (.tmp 8) (kAlloc [(.int .i64 0),(.int .i64 0)] (tag 26)) (oVal .none (kStore 2 (.tmp 8) (.tmp 15)) (oVal (.tmp 9) (kMove (.tmp 16)) oNil))))))))))
def K17r2:OpsF:=(oVal (.tmp 17) (kMove (.tmp 9)) (oVal (.tmp 18) (kInt aNeq (.tmp 17) (.con (.int .i64 0))) oNil))
def K17r3:OpsF:=(oVal (.tmp 19) (kMove (.tmp 9)) (oVal (.tmp 6) (kMove (.con (.int .i64 0))) (oVal (.tmp 7) (kMove (.tmp 19)) oNil)))
def K17r4:OpsF:=(oVal (.tmp 20) (kUn (fadA 1) (.tmp 8)) (oVal (.tmp 21) (kLoad none (.tmp 20)) (oVal (.tmp 22) (kGtr (.tmp 21) (.con (.int .i64 0))) (oVal (.tmp 23) (kUn (fadA 0) (.tmp 8)) (oVal (.tmp 24) (kLoad none (.tmp 23)) (oVal (.tmp 25) (kGtr (.tmp 24) (.con (.int .i64 0))) (oCall (.tmp 26) (.con (.func 30 [] [])) [(.tmp 22),(.tmp 25)] (oVal (.tmp 6) (kMove (.tmp 26)) (oVal (.tmp 7) (kMove (.con (.int .i64 0))) oNil)))))))))
theorem res17:Try.f17.results.toList=[.tmp 6,.tmp 7]:=by kernel_rfl
def K17:K:=(kSeq (kRegion K17r0 [3,6,7]) (kSeq (kRegion K17r1 [8,9]) (kSeq (kSeq (kRegion K17r2 [18]) (kCond (.tmp 18) (kSeq (kRegion K17r3 [6,7]) kRet) kSkip)) (kSeq (kRegion K17r4 [6,7]) kRet))))
theorem enter17 (cl:CallF) (a0 a1 a2:AV) (s:St):enterA Try.prog X cl 17 [a0,a1,a2] s Try.f17=finA Try.prog Try.f17 (K17 cl ⟨17,none,Try.f17.ntmps,X 17⟩ (paramsEnv 0 [a0,a1,a2] .nil) [] s) :=
  enterA_eq (b:=Try.f17.body.getD .skip) (by kernel_rfl) (by kernel_rfl) (by kernel_rfl) (by kernel_rfl) (by kernel_rfl)
def K41r0:OpsF:=(oVal (.tmp 2) (kBox (tag 31) (.tmp 0)) (oVal (.tmp 3) (kBox (tag 3) (.tmp 1)) (oVal (.tmp 4) (kAlloc [(.int .i64 0),(.int .i64 0),(.int .i64 0),(.int .i64 0),(.int .i64 0),(.int .i64 0),(.int .i64 0),(.int .i64 0),(.int .i64 0),(.int .i64 0),(.int .i64 0),(.int .i64 0),.nilslice] (tag 95)) oNil)))
def K41r1:OpsF:=(oVal (.tmp 6) (kFunc 60 [] [(.tmp 3)]) (oVal (.tmp 5) (kMove (.tmp 6)) oNil))
def K41r2:OpsF:=(oEnd [] (oVal (.tmp 7) (kUn (fadA 2) (.tmp 2)) (oVal (.tmp 8) (kLoad none (.tmp 7)) (oVal (.tmp 9) (kLoad none (.tmp 3)) (oVal (.tmp 10) (kTwo (ixsA 9) (.tmp 8) (.tmp 9)) (oVal (.tmp 11) (kLoad (some 9) (.tmp 10)) (oVal (.tmp 12) (kUn (fadA 2) (.tmp 2)) (oVal (.tmp 13) (kLoad none (.tmp 12)) (oVal (.tmp 14) (kLoad none (.tmp 3)) (oVal (.tmp 15) (kTwo (ixsA 9) (.tmp 13) (.tmp 14)) (oVal (.tmp 16) (kUn (fadA 1) (.tmp 15)) (oVal (.tmp 17) (kLoad (some 2) (.tmp 16)) (oCallT (some [7,3,10,19]) (.tmp 18) (.con (.func 61 [] [])) [(.tmp 17)] (oVal (.tmp 19) (kUn (fadA 3) (.tmp 2)) (oVal (.tmp 20) (kLoad none (.tmp 19)) (oCallT (some [7,3,10]) (.tmp 21) (.con (.func 63 [] [])) [(.tmp 20)] (oVal (.tmp 22) (kMove (.tmp 5)) (oCallT (some [7,3,10]) (.tmp 23) (.con (.func 62 [] [])) [(.tmp 21),(.tmp 22)] (oVal (.tmp 24) (kBuild [(.int .i64 0),(.int .i64 0),(.int .i64 0),(.int .i64 0),(.int .i64 0),(.int .i64 0),(.int .i64 0),(.int .i64 0),(.int .i64 0),(.int .i64 0),(.int .i64 0),(.int .i64 0),.nilslice] [(0,9,(.tmp 11)),(10,2,(.tmp 18)),(12,1,(.tmp 23))]) (oVal .none (kStore 13 (.tmp 4) (.tmp 24)) oNil))))))))))))))))))))
theorem res41:Try.f41.results.toList=[.cell 4 95]:=by kernel_rfl
def K41:K:=(kSeq (kRegion K41r0 [2,3,4]) (kSeq (kRegion K41r1 [5]) (kSeq (kRegionD K41r2 []) kRet)))
theorem enter41 (cl:CallF) (a0 a1:AV) (s:St):enterA Try.prog X cl 41 [a0,a1] s Try.f41=finA Try.prog Try.f41 (K41 cl ⟨41,none,Try.f41.ntmps,X 41⟩ (paramsEnv 0 [a0,a1] .nil) [] s) :=
  enterA_eq (b:=Try.f41.body.getD .skip) (by kernel_rfl) (by kernel_rfl) (by kernel_rfl) (by kernel_rfl) (by kernel_rfl)
def K42r0:OpsF:=(oVal (.tmp 2) (kBox (tag 122) (.tmp 0)) (oVal (.tmp 3) (kBox (tag 3) (.tmp 1)) (oVal (.tmp 4) (kMove (.con .nilfunc)) oNil)))
def K42r1:OpsF:=(oVal (.tmp 5) (kFunc 64 [] [(.tmp 2),(.tmp 3)]) (oVal (.tmp 4) (kMove (.tmp 5)) oNil))
theorem res42:Try.f42.results.toList=[.tmp 4]:=by kernel_rfl
def K42:K:=(kSeq (kRegion K42r0 [2,3,4]) (kSeq (kRegion K42r1 [4]) kRet))
theorem enter42 (cl:CallF) (a0 a1:AV) (s:St):enterA Try.prog X cl 42 [a0,a1] s Try.f42=finA Try.prog Try.f42 (K42 cl ⟨42,none,Try.f42.ntmps,X 42⟩ (paramsEnv 0 [a0,a1] .nil) [] s) :=
  enterA_eq (b:=Try.f42.body.getD .skip) (by kernel_rfl) (by kernel_rfl) (by kernel_rfl) (by kernel_rfl) (by kernel_rfl)
def K43r0:OpsF:=(oVal (.tmp 1) (kBox (tag 93) (.tmp 0)) (oVal (.tmp 2) (kAlloc [(.int .i64 0),(.int .i64 0)] (tag 26)) oNil))
def K43r1:OpsF:=(oVal (.tmp 3) (kTwo (ixaA 2 1) (.tmp 1) (.con (.int .i64 0))) (oVal (.tmp 4) (kLoad none (.tmp 3)) (oVal (.tmp 5) (kTwo (ixaA 2 1) (.tmp 1) (.con (.int .i64 1))) (oVal (.tmp 6) (kLoad none (.tmp 5)) (oVal (.tmp 7) (kBuild [(.int .i64 0),(.int .i64 0)] [(0,1,(.tmp 4)),(1,1,(.tmp 6))]) (oVal .none (kStore 2 (.tmp 2) (.tmp 7)) oNil))))))
theorem res43:Try.f43.results.toList=[.cell 2 26]:=by kernel_rfl
def K43:K:=(kSeq (kRegion K43r0 [1,2]) (kSeq (kRegion K43r1 []) kRet))
theorem enter43 (cl:CallF) (a0:AV) (s:St):enterA Try.prog X cl 43 [a0] s Try.f43=finA Try.prog Try.f43 (K43 cl ⟨43,none,Try.f43.ntmps,X 43⟩ (paramsEnv 0 [a0] .nil) [] s) :=
  enterA_eq (b:=Try.f43.body.getD .skip) (by kernel_rfl) (by kernel_rfl) (by kernel_rfl) (by kernel_rfl) (by kernel_rfl)
def K30r0:OpsF:=(oVal (.tmp 4) (kMove (.con (.int .i64 0))) oNil)
def K30r1:OpsF:=(oVal (.tmp 6) (kMove (.tmp 1)) (oVal (.tmp 5) (kMove (.tmp 6)) oNil))
def K30r2:OpsF:=(oVal (.tmp 4) (kMove (.con (.int .i64 1))) oNil)
def K30r3:OpsF:=(oVal (.tmp 8) (kMove (.tmp 0)) (oVal (.tmp 7) (kMove (.tmp 8)) oNil))
def K30r4:OpsF:=(oVal (.tmp 4) (kMove (.con (.int .i64 3))) oNil)
def K30r5:OpsF:=(oVal (.tmp 4) (kMove (.con (.int .i64 2))) oNil)
theorem res30:Try.f30.results.toList=[.tmp 4]:=by kernel_rfl
def K30:K:=(kSeq (kRegion K30r0 [4]) (kSeq (kBlock 0 (kSeq (kRegion K30r1 [5]) (kCond (.tmp 5) (kSeq (kRegion K30r2 [4]) kRet) (kSeq (kRegion K30r3 [7]) (kCond (.tmp 7) (kSeq (kRegion K30r4 [4]) kRet) kSkip))))) (kSeq (kRegion K30r5 [4]) kRet)))
theorem enter30 (cl:CallF) (a0 a1:AV) (s:St):enterA Try.prog X cl 30 [a0,a1] s Try.f30=finA Try.prog Try.f30 (K30 cl ⟨30,none,Try.f30.ntmps,X 30⟩ (paramsEnv 0 [a0,a1] .nil) [] s) :=
  enterA_eq (b:=Try.f30.body.getD .skip) (by kernel_rfl) (by kernel_rfl) (by kernel_rfl) (by kernel_rfl) (by kernel_rfl)
def K60r0:OpsF:=(oVal (.tmp 2) (kBox (tag 65) (.tmp 0)) (oVal (.tmp 3) (kMove (.con (.bool false))) oNil))
def K60r1:OpsF:=(oVal (.tmp 4) (kUn (fadA 0) (.tmp 2)) (oVal (.tmp 5) (kLoad none (.tmp 4)) (oVal (.tmp 6) (kLoad none (.tmp 1)) (oVal (.tmp 7) (kInt aNeq (.tmp 5) (.tmp 6)) (oVal (.tmp 3) (kMove (.tmp 7)) oNil)))))
theorem res60:Try.f60.results.toList=[.tmp 3]:=by kernel_rfl
def K60:K:=(kSeq (kRegion K60r0 [2,3]) (kSeq (kRegion K60r1 [3]) kRet))
theorem enter60 (cl:CallF) (a0 a1:AV) (s:St):enterA Try.prog X cl 60 [a0,a1] s Try.f60=finA Try.prog Try.f60 (K60 cl ⟨60,none,Try.f60.ntmps,X 60⟩ (paramsEnv 0 [a0,a1] .nil) [] s) :=
  enterA_eq (b:=Try.f60.body.getD .skip) (by kernel_rfl) (by kernel_rfl) (by kernel_rfl) (by kernel_rfl) (by kernel_rfl)
def K61r0:OpsF:=(oVal (.tmp 1) (kBox (tag 26) (.tmp 0)) (oVal (.tmp 2) (kAlloc [(.int .i64 0),(.int .i64 0)] (tag 93)) oNil))
def K61r1:OpsF:=(oVal (.tmp 3) (kUn (fadA 0) (.tmp 1)) (oVal (.tmp 4) (kLoad none (.tmp 3)) (oVal (.tmp 5) (kUn (fadA 1) (.tmp 1)) (oVal (.tmp 6) (kLoad none (.tmp 5)) (oVal (.tmp 7) (kBuild [(.int .i64 0),(.int .i64 0)] [(0,1,(.tmp 4)),(1,1,(.tmp 6))]) (oVal .none (kStore 2 (.tmp 2) (.tmp 7)) oNil))))))
theorem res61:Try.f61.results.toList=[.cell 2 93]:=by kernel_rfl
def K61:K:=(kSeq (kRegion K61r0 [1,2]) (kSeq (kRegion K61r1 []) kRet))
theorem enter61 (cl:CallF) (a0:AV) (s:St):enterA Try.prog X cl 61 [a0] s Try.f61=finA Try.prog Try.f61 (K61 cl ⟨61,none,Try.f61.ntmps,X 61⟩ (paramsEnv 0 [a0] .nil) [] s) :=
  enterA_eq (b:=Try.f61.body.getD .skip) (by kernel_rfl) (by kernel_rfl) (by kernel_rfl) (by kernel_rfl) (by kernel_rfl)
def K62r0:OpsF:=(oVal (.tmp 4) (kMove (.con .nilslice)) oNil)
def K62r1:OpsF:=(oVal (.tmp 8) (kMove (.tmp 0)) (oVal (.tmp 9) (kMove (.tmp 1)) (oCall (.tmp 10) (.con (.func 74 [] [])) [(.tmp 8),(.tmp 9)] (oVal (.tmp 5) (kMove (.tmp 10)) oNil))))
def K62r2:OpsF:=(oVal (.tmp 11) (kMove (.tmp 5)) (oVal (.tmp 12) (kInt aEql (.tmp 11) (.con (.int .i64 (-1)))) oNil))
def K62r3:OpsF:=(oVal (.tmp 13) (kMove (.tmp 0)) (oVal (.tmp 4) (kMove (.tmp 13)) oNil))
def K62r4:OpsF:=(oVal (.tmp 14) (kMove (.tmp 5)) (oVal (.tmp 15) (kInt aAdd (.tmp 14) (.con (.int .i64 1))) (oVal (.tmp 6) (kMove (.tmp 15)) oNil)))
def K62r5:OpsF:=(oVal (.tmp 16) (kMove (.tmp 6)) (oVal (.tmp 17) (kMove (.tmp 0)) (oVal (.tmp 18) (kUn lenSlA (.tmp 17)) (oVal (.tmp 19) (kInt aLss (.tmp 16) (.tmp 18)) oNil))))
def K62r6:OpsF:=(oVal (.tmp 22) (kMove (.tmp 0)) (oVal (.tmp 23) (kMove (.tmp 6)) (oVal (.tmp 24) (kTwo (ixsA 3) (.tmp 22) (.tmp 23)) (oVal (.tmp 25) (kLoad (some 3) (.tmp 24)) (oVal (.tmp 7) (kAlloc [(.int .i64 0),(.int .i64 0),(.int .i64 0)] (tag 65)) (oVal .none (kStore 3 (.tmp 7) (.tmp 25)) oNil))))))
def K62r7:OpsF:=(oVal (.tmp 26) (kMove (.tmp 1)) (oVal (.tmp 27) (kLoad (some 3) (.tmp 7)) (oCall (.tmp 28) (.tmp 26) [(.tmp 27)] (oVal (.tmp 29) (kUn notA (.tmp 28)) oNil))))
def K62r8:OpsF:=(oVal (.tmp 30) (kMove (.tmp 0)) (oVal (.tmp 31) (kMove (.tmp 5)) (oVal (.tmp 32) (kLoad (some 3) (.tmp 7)) (oVal (.tmp 33) (kTwo (ixsA 3) (.tmp 30) (.tmp 31)) (oVal .none (kStore 3 (.tmp 33) (.tmp 32)) oNil)))))
def K62r9:OpsF:=(oVal (.tmp 34) (kMove (.tmp 5)) (oVal (.tmp 35) (kInt aAdd (.tmp 34) (.con (.int .i64 1))) (oVal (.tmp 5) (kMove (.tmp 35)) oNil)))
def K62r10:OpsF:=(oVal (.tmp 20) (kMove (.tmp 6)) (oVal (.tmp 21) (kInt aAdd (.tmp 20) (.con (.int .i64 1))) (oVal (.tmp 6) (kMove (.tmp 21)) oNil)))
def K62l0:K:=(kSeq (kSeq (kRegion K62r5 [19]) (kCond (.tmp 19) kSkip (kExit 0))) (kSeq (kBlock 1 (kSeq (kRegion K62r6 [7]) (kSeq (kRegion K62r7 [29]) (kCond (.tmp 29) (kSeq (kRegion K62r8 []) (kRegion K62r9 [5])) kSkip)))) (kRegion K62r10 [6])))
def K62r11:OpsF:=(oVal (.tmp 36) (kMove (.tmp 0)) (oVal (.tmp 37) (kMove (.tmp 5)) (oVal (.tmp 38) (kSlice (sliceVal 3) (.tmp 36) (some (.tmp 37)) none) (oVal .none (kUn (clearA [(.int .i64 0),(.int .i64 0),(.int .i64 0)]) (.tmp 38)) oNil))))
def K62r12:OpsF:=(oVal (.tmp 39) (kMove (.tmp 0)) (oVal (.tmp 40) (kMove (.tmp 5)) (oVal (.tmp 41) (kSlice (sliceVal 3) (.tmp 39) none (some (.tmp 40))) (oVal (.tmp 4) (kMove (.tmp 41)) oNil))))
theorem res62:Try.f62.results.toList=[.tmp 4]:=by kernel_rfl
def K62:K:=(kSeq (kRegion K62r0 [4]) (kSeq (kRegion K62r1 [5]) (kSeq (kSeq (kRegion K62r2 [12]) (kCond (.tmp 12) (kSeq (kRegion K62r3 [4]) kRet) kSkip)) (kSeq (kSeq (kRegion K62r4 [6]) (kBlock 0 (kLoop K62l0))) (kSeq (kRegion K62r11 []) (kSeq (kRegion K62r12 [4]) kRet))))))
theorem enter62 (cl:CallF) (a0 a1:AV) (s:St):enterA Try.prog X cl 62 [a0,a1] s Try.f62=finA Try.prog Try.f62 (K62 cl ⟨62,none,Try.f62.ntmps,X 62⟩ (paramsEnv 0 [a0,a1] .nil) [] s) :=
  enterA_eq (b:=Try.f62.body.getD .skip) (by kernel_rfl) (by kernel_rfl) (by kernel_rfl) (by kernel_rfl) (by kernel_rfl)
def K63r0:OpsF:=(oVal (.tmp 2) (kMove (.con .nilslice)) oNil)
def K63r1:OpsF:=(oVal (.tmp 3) (kMove (.tmp 0)) (oVal (.tmp 4) (kEql .nilS false (.tmp 3) (.con .nilslice)) oNil))
def K63r2:OpsF:=(oVal (.tmp 2) (kMove (.con .nilslice)) oNil)
def K63r3:OpsF:=(oVal (.tmp 5) (kBuildSlice [] 0 []) (oVal (.tmp 6) (kMove (.tmp 0)) (oVal (.tmp 7) (kTwo (appendA false 3 24 (tag 65)) (.tmp 5) (.tmp 6)) (oVal (.tmp 2) (kMove (.tmp 7)) oNil))))
theorem res63:Try.f63.results.toList=[.tmp 2]:=by kernel_rfl
def K63:K:=(kSeq (kRegion K63r0 [2]) (kSeq (kSeq (kRegion K63r1 [4]) (kCond (.tmp 4) (kSeq (kRegion K63r2 [2]) kRet) kSkip)) (kSeq (kRegion K63r3 [2]) kRet)))
theorem enter63 (cl:CallF) (a0:AV) (s:St):enterA Try.prog X cl 63 [a0] s Try.f63=finA Try.prog Try.f63 (K63 cl ⟨63,none,Try.f63.ntmps,X 63⟩ (paramsEnv 0 [a0] .nil) [] s) :=
  enterA_eq (b:=Try.f63.body.getD .skip) (by kernel_rfl) (by kernel_rfl) (by kernel_rfl) (by kernel_rfl) (by kernel_rfl)
def K64r0:OpsF:=(oEnd [] (oVal (.tmp 4) (kLoad none (.tmp 1)) (oVal (.tmp 5) (kUn nilA (.tmp 4)) (oVal (.tmp 6) (kUn (fadA 9) (.tmp 5)) (oVal (.tmp 7) (kLoad none (.tmp 6)) (oVal (.tmp 8) (kLoad none (.tmp 2)) (oVal (.tmp 9) (kInt aLss (.tmp 7) (.tmp 8)) oNil)))))))
def K64r1:OpsF:=(oVal (.tmp 10) (kLoad none (.tmp 1)) (oCall (.tmp 11) (.con (.func 65 [] [])) [(.tmp 10)] oNil))
def K64r2:OpsF:=(oEnd [] (oVal (.tmp 12) (kMove (.tmp 0)) (oVal (.tmp 13) (kLoad none (.tmp 1)) (oVal (.tmp 14) (kUn nilA (.tmp 13)) (oVal (.tmp 15) (kUn (fadA 9) (.tmp 14)) (oVal (.tmp 16) (kLoad none (.tmp 15)) (oVal (.tmp 17) (kLoad none (.tmp 1)) (oVal (.tmp 18) (kUn nilA (.tmp 17)) (oVal (.tmp 19) (kUn (fadA 10) (.tmp 18)) (oVal (.tmp 20) (kLoad (some 2) (.tmp 19)) (oCall (.tmp 21) (.tmp 12) [(.tmp 16),(.tmp 20)] (oVal (.tmp 22) (kUn notA (.tmp 21)) oNil))))))))))))
def K64r3:OpsF:=(oVal (.tmp 23) (kLoad none (.tmp 1)) (oCall (.tmp 24) (.con (.func 66 [] [])) [(.tmp 23)] oNil))
def K64r4:OpsF:=(oVal (.tmp 25) (kLoad none (.tmp 1)) (oVal (.tmp 26) (kUn nilA (.tmp 25)) (oVal (.tmp 27) (kUn (fadA 9) (.tmp 26)) (oVal (.tmp 28) (kLoad none (.tmp 27)) (oVal (.tmp 29) (kInt aAdd (.tmp 28) (.con (.int .i64 1))) (oVal (.tmp 30) (kUn nilA (.tmp 25)) (oVal (.tmp 31) (kUn (fadA 9) (.tmp 30)) (oVal .none (kStore 1 (.tmp 31) (.tmp 29)) oNil))))))))
def K64l0:K:=(kSeq (kSeq (kRegionD K64r0 [9]) (kCond (.tmp 9) kSkip (kExit 0))) (kBlock 1 (kSeq (kRegion K64r1 []) (kSeq (kSeq (kRegionD K64r2 [22]) (kCond (.tmp 22) kRet kSkip)) (kSeq (kRegion K64r3 []) (kRegion K64r4 []))))))
theorem res64:Try.f64.results.toList=[]:=by kernel_rfl
def K64:K:=(kBlock 0 (kLoop K64l0))
theorem enter64 (cl:CallF) (a0 a1 a2:AV) (s:St):enterA Try.prog X cl 64 [a0,a1,a2] s Try.f64=finA Try.prog Try.f64 (K64 cl ⟨64,none,Try.f64.ntmps,X 64⟩ (paramsEnv 0 [a0,a1,a2] .nil) [] s) :=
  enterA_eq (b:=Try.f64.body.getD .skip) (by kernel_rfl) (by kernel_rfl) (by kernel_rfl) (by kernel_rfl) (by kernel_rfl)
def K65r0s19:OpsF:=(oVal (.tmp 21) (kPick (.tmp 8) (.tmp 20) (.con (.bool false))) oNil)
def K65r0s18:OpsF:=(oIf 8 true (oVal (.tmp 20) (kInt aEql (.tmp 15) (.tmp 19)) K65r0s19) (oSkip (.tmp 20) K65r0s19))
def K65r0s17:OpsF:=(oIf 8 true (oVal (.tmp 19) (kLoad none (.tmp 18)) K65r0s18) (oSkip (.tmp 19) K65r0s18))
def K65r0s16:OpsF:=(oIf 8 true (oVal (.tmp 18) (kUn (fadA 9) (.tmp 17)) K65r0s17) (oSkip (.tmp 18) K65r0s17))
def K65r0s15:OpsF:=(oIf 8 true (oVal (.tmp 17) (kUn nilA (.tmp 16)) K65r0s16) (oSkip (.tmp 17) K65r0s16))
def K65r0s14:OpsF:=(oIf 8 true (oVal (.tmp 16) (kMove (.tmp 0)) K65r0s15) (oSkip (.tmp 16) K65r0s15))
def K65r0s13:OpsF:=(oIf 8 true (oVal (.tmp 15) (kLoad none (.tmp 14)) K65r0s14) (oSkip (.tmp 15) K65r0s14))
def K65r0s12:OpsF:=(oIf 8 true (oVal (.tmp 14) (kUn (fadA 1) (.tmp 13)) K65r0s13) (oSkip (.tmp 14) K65r0s13))
def K65r0s11:OpsF:=(oIf 8 true (oVal (.tmp 13) (kTwo (ixsA 3) (.tmp 12) (.con (.int .i64 0))) K65r0s12) (oSkip (.tmp 13) K65r0s12))
def K65r0s10:OpsF:=(oIf 8 true (oVal (.tmp 12) (kLoad none (.tmp 11)) K65r0s11) (oSkip (.tmp 12) K65r0s11))
def K65r0s9:OpsF:=(oIf 8 true (oVal (.tmp 11) (kUn (fadA 12) (.tmp 10)) K65r0s10) (oSkip (.tmp 11) K65r0s10))
def K65r0s8:OpsF:=(oIf 8 true (oVal (.tmp 10) (kUn nilA (.tmp 9)) K65r0s9) (oSkip (.tmp 10) K65r0s9))
def K65r0:OpsF:=(oEnd [] (oVal (.tmp 2) (kMove (.tmp 0)) (oVal (.tmp 3) (kUn nilA (.tmp 2)) (oVal (.tmp 4) (kUn (fadA 12) (.tmp 3)) (oVal (.tmp 5) (kLoad none (.tmp 4)) (oVal (.tmp 6) (kUn lenSlA (.tmp 5)) (oVal (.tmp 7) (kGtr (.tmp 6) (.con (.int .i64 0))) (oVal (.tmp 8) (kMove (.tmp 7)) (oIf 8 true (oVal (.tmp 9) (kMove (.tmp 0)) K65r0s8) (oSkip (.tmp 9) K65r0s8))))))))))
def K65r1:OpsF:=(oVal (.tmp 22) (kMove (.tmp 0)) (oVal (.tmp 23) (kMove (.tmp 0)) (oVal (.tmp 24) (kUn nilA (.tmp 23)) (oVal (.tmp 25) (kUn (fadA 12) (.tmp 24)) (oVal (.tmp 26) (kLoad none (.tmp 25)) (oVal (.tmp 27) (kTwo (ixsA 3) (.tmp 26) (.con (.int .i64 0))) (oVal (.tmp 28) (kUn (fadA 2) (.tmp 27)) (oVal (.tmp 29) (kLoad none (.tmp 28)) (oCall (.tmp 30) (.con (.func 75 [] [])) [(.tmp 22),(.tmp 29)] oNil)))))))))
def K65r2:OpsF:=(oVal (.tmp 31) (kMove (.tmp 0)) (oVal (.tmp 32) (kMove (.tmp 0)) (oVal (.tmp 33) (kUn nilA (.tmp 32)) (oVal (.tmp 34) (kUn (fadA 12) (.tmp 33)) (oVal (.tmp 35) (kLoad none (.tmp 34)) (oVal (.tmp 36) (kSlice (sliceVal 3) (.tmp 35) (some (.con (.int .i64 1))) none) (oVal (.tmp 37) (kUn nilA (.tmp 31)) (oVal (.tmp 38) (kUn (fadA 12) (.tmp 37)) (oVal .none (kStore 1 (.tmp 38) (.tmp 36)) oNil)))))))))
def K65l0:K:=(kSeq (kSeq (kRegionD K65r0 [21]) (kCond (.tmp 21) kSkip (kExit 0))) (kBlock 1 (kSeq (kRegion K65r1 []) (kRegion K65r2 []))))
theorem res65:Try.f65.results.toList=[]:=by kernel_rfl
def K65:K:=(kBlock 0 (kLoop K65l0))
theorem enter65 (cl:CallF) (a0:AV) (s:St):enterA Try.prog X cl 65 [a0] s Try.f65=finA Try.prog Try.f65 (K65 cl ⟨65,none,Try.f65.ntmps,X 65⟩ (paramsEnv 0 [a0] .nil) [] s) :=
  enterA_eq (b:=Try.f65.body.getD .skip) (by kernel_rfl) (by kernel_rfl) (by kernel_rfl) (by kernel_rfl) (by kernel_rfl)
def K66r0:OpsF:=(oEnd [] (oVal (.tmp 2) (kMove (.tmp 0)) (oVal (.tmp 3) (kMove (.tmp 0)) (oVal (.tmp 4) (kUn nilA (.tmp 3)) (oVal (.tmp 5) (kUn (fadA 10) (.tmp 4)) (oVal (.tmp 6) (kTwo (ixaA 2 1) (.tmp 5) (.con (.int .i64 0))) (oVal (.tmp 7) (kLoad none (.tmp 6)) (oVal (.tmp 8) (kMove (.tmp 0)) (oVal (.tmp 9) (kUn nilA (.tmp 8)) (oVal (.tmp 10) (kUn (fadA 0) (.tmp 9)) (oVal (.tmp 11) (kUn (fadA 3) (.tmp 10)) (oVal (.tmp 12) (kUn (fadA 1) (.tmp 11)) (oVal (.tmp 13) (kLoad none (.tmp 12)) (oVal (.tmp 14) (kInt aSub (.tmp 7) (.tmp 13)) (oVal (.tmp 15) (kFold maxA (.con (.int .i64 0)) [(.tmp 14)]) (oVal (.tmp 16) (kUn nilA (.tmp 2)) (oVal (.tmp 17) (kUn (fadA 10) (.tmp 16)) (oVal (.tmp 18) (kTwo (ixaA 2 1) (.tmp 17) (.con (.int .i64 0))) (oVal .none (kStore 1 (.tmp 18) (.tmp 15)) oNil)))))))))))))))))))
def K66r1:OpsF:=(oEnd [] (oVal (.tmp 19) (kMove (.tmp 0)) (oVal (.tmp 20) (kMove (.tmp 0)) (oVal (.tmp 21) (kUn nilA (.tmp 20)) (oVal (.tmp 22) (kUn (fadA 10) (.tmp 21)) (oVal (.tmp 23) (kTwo (ixaA 2 1) (.tmp 22) (.con (.int .i64 1))) (oVal (.tmp 24) (kLoad none (.tmp 23)) (oVal (.tmp 25) (kMove (.tmp 0)) (oVal (.tmp 26) (kUn nilA (.tmp 25)) (oVal (.tmp 27) (kUn (fadA 0) (.tmp 26)) (oVal (.tmp 28) (kUn (fadA 3) (.tmp 27)) (oVal (.tmp 29) (kUn (fadA 0) (.tmp 28)) (oVal (.tmp 30) (kLoad none (.tmp 29)) (oVal (.tmp 31) (kInt aSub (.tmp 24) (.tmp 30)) (oVal (.tmp 32) (kFold maxA (.con (.int .i64 0)) [(.tmp 31)]) (oVal (.tmp 33) (kUn nilA (.tmp 19)) (oVal (.tmp 34) (kUn (fadA 10) (.tmp 33)) (oVal (.tmp 35) (kTwo (ixaA 2 1) (.tmp 34) (.con (.int .i64 1))) (oVal .none (kStore 1 (.tmp 35) (.tmp 32)) oNil)))))))))))))))))))
theorem res66:Try.f66.results.toList=[]:=by kernel_rfl
def K66:K:=(kSeq (kRegionD K66r0 []) (kRegionD K66r1 []))
theorem enter66 (cl:CallF) (a0:AV) (s:St):enterA Try.prog X cl 66 [a0] s Try.f66=finA Try.prog Try.f66 (K66 cl ⟨66,none,Try.f66.ntmps,X 66⟩ (paramsEnv 0 [a0] .nil) [] s) :=
  enterA_eq (b:=Try.f66.body.getD .skip) (by kernel_rfl) (by kernel_rfl) (by kernel_rfl) (by kernel_rfl) (by kernel_rfl)
def K74r0:OpsF:=(oVal (.tmp 4) (kMove (.con (.int .i64 0))) oNil)
def K74r1:OpsF:=(oVal (.tmp 6) (kMove (.tmp 0)) (oVal (.tmp 7) (kUn lenSlA (.tmp 6)) (oVal (.tmp 8) (kMove (.con (.int .i64 0))) oNil)))
def K74r2:OpsF:=(oVal (.tmp 9) (kInt aLss (.tmp 8) (.tmp 7)) oNil)
def K74r3:OpsF:=(oVal (.tmp 10) (kMove (.tmp 8)) (oVal (.tmp 5) (kMove (.tmp 10)) oNil))
def K74r4:OpsF:=(oVal (.tmp 11) (kMove (.tmp 1)) (oVal (.tmp 12) (kMove (.tmp 0)) (oVal (.tmp 13) (kMove (.tmp 5)) (oVal (.tmp 14) (kTwo (ixsA 3) (.tmp 12) (.tmp 13)) (oVal (.tmp 15) (kLoad (some 3) (.tmp 14)) (oCall (.tmp 16) (.tmp 11) [(.tmp 15)] oNil))))))
def K74r5:OpsF:=(oVal (.tmp 17) (kMove (.tmp 5)) (oVal (.tmp 4) (kMove (.tmp 17)) oNil))
def K74r6:OpsF:=(oVal (.tmp 18) (kInt aAdd (.tmp 8) (.con (.int .i64 1))) (oVal (.tmp 8) (kMove (.tmp 18)) oNil))
def K74l0:K:=(kSeq (kRegion K74r2 [9]) (kSeq (kCond (.tmp 9) kSkip (kExit 0)) (kSeq (kBlock 1 (kSeq (kRegion K74r3 [5]) (kSeq (kRegion K74r4 [16]) (kCond (.tmp 16) (kSeq (kRegion K74r5 [4]) kRet) kSkip)))) (kRegion K74r6 [8]))))
def K74r7:OpsF:=(oVal (.tmp 4) (kMove (.con (.int .i64 (-1)))) oNil)
theorem res74:Try.f74.results.toList=[.tmp 4]:=by kernel_rfl
def K74:K:=(kSeq (kRegion K74r0 [4]) (kSeq (kSeq (kRegion K74r1 [7,8]) (kBlock 0 (kLoop K74l0))) (kSeq (kRegion K74r7 [4]) kRet)))
theorem enter74 (cl:CallF) (a0 a1:AV) (s:St):enterA Try.prog X cl 74 [a0,a1] s Try.f74=finA Try.prog Try.f74 (K74 cl ⟨74,none,Try.f74.ntmps,X 74⟩ (paramsEnv 0 [a0,a1] .nil) [] s) :=
  enterA_eq (b:=Try.f74.body.getD .skip) (by kernel_rfl) (by kernel_rfl) (by kernel_rfl) (by kernel_rfl) (by kernel_rfl)
def K75r0:OpsF:=(oVal (.tmp 5) (kMove (.con (.int .i64 0))) oNil)
def K75r1:OpsF:=(oVal (.tmp 6) (kInt aLss (.tmp 5) (.con (.int .i64 2))) oNil)
def K75r2:OpsF:=(oVal (.tmp 7) (kMove (.tmp 5)) (oVal (.tmp 4) (kMove (.tmp 7)) oNil))
def K75r3:OpsF:=(oEnd [] (oVal (.tmp 8) (kMove (.tmp 0)) (oVal (.tmp 9) (kMove (.tmp 4)) (oVal (.tmp 10) (kMove (.tmp 0)) (oVal (.tmp 11) (kMove (.tmp 4)) (oVal (.tmp 12) (kUn nilA (.tmp 10)) (oVal (.tmp 13) (kUn (fadA 10) (.tmp 12)) (oVal (.tmp 14) (kTwo (ixaA 2 1) (.tmp 13) (.tmp 11)) (oVal (.tmp 15) (kLoad none (.tmp 14)) (oVal (.tmp 16) (kMove (.tmp 1)) (oVal (.tmp 17) (kInt aAdd (.tmp 15) (.tmp 16)) (oVal (.tmp 18) (kMove (.tmp 0)) (oVal (.tmp 19) (kUn nilA (.tmp 18)) (oVal (.tmp 20) (kUn (fadA 0) (.tmp 19)) (oVal (.tmp 21) (kUn (fadA 0) (.tmp 20)) (oVal (.tmp 22) (kLoad none (.tmp 21)) (oVal (.tmp 23) (kFold minA (.tmp 17) [(.tmp 22)]) (oVal (.tmp 24) (kUn nilA (.tmp 8)) (oVal (.tmp 25) (kUn (fadA 10) (.tmp 24)) (oVal (.tmp 26) (kTwo (ixaA 2 1) (.tmp 25) (.tmp 9)) (oVal .none (kStore 1 (.tmp 26) (.tmp 23)) oNil)))))))))))))))))))))
def K75r4:OpsF:=(oVal (.tmp 27) (kInt aAdd (.tmp 5) (.con (.int .i64 1))) (oVal (.tmp 5) (kMove (.tmp 27)) oNil))
def K75l0:K:=(kSeq (kRegion K75r1 [6]) (kSeq (kCond (.tmp 6) kSkip (kExit 0)) (kSeq (kBlock 1 (kSeq (kRegion K75r2 [4]) (kRegionD K75r3 []))) (kRegion K75r4 [5]))))
theorem res75:Try.f75.results.toList=[]:=by kernel_rfl
def K75:K:=(kSeq (kRegion K75r0 [5]) (kBlock 0 (kLoop K75l0)))
theorem enter75 (cl:CallF) (a0 a1:AV) (s:St):enterA Try.prog X cl 75 [a0,a1] s Try.f75=finA Try.prog Try.f75 (K75 cl ⟨75,none,Try.f75.ntmps,X 75⟩ (paramsEnv 0 [a0,a1] .nil) [] s) :=
  enterA_eq (b:=Try.f75.body.getD .skip) (by kernel_rfl) (by kernel_rfl) (by kernel_rfl) (by kernel_rfl) (by kernel_rfl)
end
end Go.Proofs.Ytlfalcghhckanab.code
set_option maxRecDepth 100000
namespace Go.Proofs.Ytlfalcghhckanab.code
open Go.Abs
noncomputable section
def K28r0:OpsF:=(oVal (.tmp 1) (kBox (tag 31) (.tmp 0)) (oVal (.tmp 2) (kAlloc [(.int .i64 0),(.int .i64 0),.nilslice,.nilslice,.nilslice,.nilslice] (tag 78)) oNil))
def K28r1:OpsF:=(oVal (.tmp 6) (kLoad (some 5) (.tmp 1)) (oVal (.tmp 7) (kBuild [(.int .i64 0),(.int .i64 0),.nilslice,.nilslice,.nilslice,.nilslice] [(0,5,(.tmp 6))]) (oVal (.tmp 3) (kAlloc [(.int .i64 0),(.int .i64 0),.nilslice,.nilslice,.nilslice,.nilslice] (tag 78)) (oVal .none (kStore 6 (.tmp 3) (.tmp 7)) oNil))))
def K28r2:OpsF:=(oVal (.tmp 8) (kUn (fadA 2) (.tmp 1)) (oVal (.tmp 9) (kLoad none (.tmp 8)) (oVal (.tmp 10) (kUn lenSlA (.tmp 9)) (oVal (.tmp 11) (kMove (.con (.int .i64 0))) oNil))))
def K28r3:OpsF:=(oVal (.tmp 12) (kInt aLss (.tmp 11) (.tmp 10)) oNil)
def K28r4:OpsF:=(oVal (.tmp 13) (kMove (.tmp 11)) (oVal (.tmp 4) (kMove (.tmp 13)) oNil))
def K28r5:OpsF:=(oVal (.tmp 14) (kLoad (some 5) (.tmp 1)) (oVal (.tmp 15) (kMove (.tmp 4)) (oCall (.tmp 16) (.con (.func 41 [] [])) [(.tmp 14),(.tmp 15)] (oVal (.tmp 5) (kAlloc [(.int .i64 0),(.int .i64 0),(.int .i64 0),(.int .i64 0),(.int .i64 0),(.int .i64 0),(.int .i64 0),(.int .i64 0),(.int .i64 0),(.int .i64 0),(.int .i64 0),(.int .i64 0),.nilslice] (tag 95)) (oVal .none (kStore 13 (.tmp 5) (.tmp 16)) oNil)))))
def K28r6:OpsF:=(oEnd [] (oVal (.tmp 17) (kUn (fadA 5) (.tmp 3)) (oVal (.tmp 18) (kLoad none (.tmp 17)) (oCallT (some [17]) (.tmp 19) (.con (.func 42 [] [])) [(.tmp 5),(.con (.int .i64 240))] (oVal (.tmp 20) (kFunc 46 [(.tmp 5)] []) (oCallT (some [17]) (.tmp 21) (.con (.func 45 [] [])) [(.tmp 19),(.tmp 20)] (oVal (.tmp 22) (kBuildSlice [.nilslice] 1 [(0,1,(.tmp 21))]) (oVal (.tmp 23) (kTwo (appendA false 1 24 (tag 102)) (.tmp 18) (.tmp 22)) (oVal (.tmp 24) (kUn (fadA 5) (.tmp 3)) (oVal .none (kStore 1 (.tmp 24) (.tmp 23)) oNil))))))))))
def K28r7:OpsF:=(oVal (.tmp 25) (kInt aAdd (.tmp 11) (.con (.int .i64 1))) (oVal (.tmp 11) (kMove (.tmp 25)) oNil))
def K28l0:K:=(kSeq (kRegion K28r3 [12]) (kSeq (kCond (.tmp 12) kSkip (kExit 0)) (kSeq (kBlock 1 (kSeq (kRegion K28r4 [4]) (kSeq (kRegion K28r5 [5]) (kRegionD K28r6 [])))) (kRegion K28r7 [11]))))
def K28r8:OpsF:=(oVal (.tmp 26) (kLoad (some 6) (.tmp 3)) (oVal .none (kStore 6 (.tmp 2) (.tmp 26)) oNil))
theorem res28:Try.f28.results.toList=[.cell 2 78]:=by kernel_rfl
def K28:K:=(kSeq (kRegion K28r0 [1,2]) (kSeq (kRegion K28r1 [3]) (kSeq (kSeq (kRegion K28r2 [10,11]) (kBlock 0 (kLoop K28l0))) (kSeq (kRegion K28r8 []) kRet))))
theorem enter28 (cl:CallF) (a0:AV) (s:St):enterA Try.prog X cl 28 [a0] s Try.f28=finA Try.prog Try.f28 (K28 cl ⟨28,none,Try.f28.ntmps,X 28⟩ (paramsEnv 0 [a0] .nil) [] s) :=
  enterA_eq (b:=Try.f28.body.getD .skip) (by kernel_rfl) (by kernel_rfl) (by kernel_rfl) (by kernel_rfl) (by kernel_rfl)
def K29r0:OpsF:=(oVal (.tmp 3) (kBox (tag 78) (.tmp 0)) (oVal (.tmp 4) (kBox (tag 35) (.tmp 1)) (oVal (.tmp 6) (kAlloc [(.int .i64 0),(.int .i64 0)] (tag 26)) oNil)))
def K29r1:OpsF:=(oEnd [] (oVal (.tmp 7) (kLoad (some 6) (.tmp 3)) (oVal (.tmp 8) (kLoad (some 3) (.tmp 4)) (oVal (.tmp 9) (kMove (.tmp 2)) (oCallT (some [3]) (.tmp 10) (.con (.func 48 [] [])) [(.tmp 7),(.tmp 8),(.tmp 9)] (oVal (.tmp 11) (kLoad (some 6) (.tmp 3)) (oVal (.tmp 12) (kFunc 49 [(.tmp 11)] []) (oCall (.tmp 13) (.con (.func 47 [] [])) [(.tmp 10),(.tmp 12)] (oVal .none (kStore 2 (.tmp 6) (.tmp 13)) oNil)))))))))
theorem res29:Try.f29.results.toList=[.cell 6 26]:=by kernel_rfl
def K29:K:=(kSeq (kRegion K29r0 [3,4,6]) (kSeq (kRegionD K29r1 []) kRet))
theorem enter29 (cl:CallF) (a0 a1 a2:AV) (s:St):enterA Try.prog X cl 29 [a0,a1,a2] s Try.f29=finA Try.prog Try.f29 (K29 cl ⟨29,none,Try.f29.ntmps,X 29⟩ (paramsEnv 0 [a0,a1,a2] .nil) [] s) :=
  enterA_eq (b:=Try.f29.body.getD .skip) (by kernel_rfl) (by kernel_rfl) (by kernel_rfl) (by kernel_rfl) (by kernel_rfl)
def K10r0:OpsF:=(oVal (.tmp 3) (kBox (tag 31) (.tmp 0)) (oVal (.tmp 4) (kBox (tag 35) (.tmp 1)) (oVal (.tmp 6) (kAlloc [(.int .i64 0),(.int .i64 0)] (tag 26)) (oVal (.tmp 7) (kMove (.con (.int .i64 0))) oNil))))
def K10r1:OpsF:=(oEnd [] (oVal (.tmp 9) (kLoad (some 5) (.tmp 3)) (oVal (.tmp 10) (kLoad (some 3) (.tmp 4)) (oCallT (some [15]) (.tmp 11) (.con (.func 25 [] [])) [(.tmp 9),(.tmp 10)] (oVal (.tmp 12) (kMove (.tmp 2)) (oCallT (some [15]) (.tmp 13) (.con (.func 26 [] [])) [(.tmp 12),(.con (.int .i64 0)),(.con (.int .i64 240))] (oVal (.tmp 14) (kMove (.tmp 2)) (oVal (.tmp 15) (kUn (fadA 0) (.tmp 4)) (oVal (.tmp 16) (kLoad none (.tmp 15)) (oVal (.tmp 17) (kInt aGeq (.tmp 14) (.tmp 16)) (oCall (.tmp 18) (.con (.func 27 [] [])) [(.tmp 17),(.con (.int .i64 12))] (oVal (.tmp 19) (kBuildSlice [(.int .i64 0),(.int .i64 0),(.int .i64 0)] 3 [(0,1,(.tmp 11)),(1,1,(.tmp 13)),(2,1,(.tmp 18))]) (oCall (.tmp 20) (.con (.func 24 [] [])) [(.tmp 19)] (oVal (.tmp 8) (kMove (.tmp 20)) oNil))))))))))))))
def K10r2:OpsF:=(oVal (.tmp 21) (kMove (.tmp 8)) (oVal (.tmp 22) (kInt aNeq (.tmp 21) (.con (.int .i64 0))) oNil))
def K10r3:OpsF:=(oVal (.tmp 23) (kBuild [(.int .i64 0),(.int .i64 0)] []) (oVal (.tmp 24) (kMove (.tmp 8)) (oVal .none (kStore 2 (.tmp 6) (.tmp 23)) (oVal (.tmp 7) (kMove (.tmp 24)) oNil))))
def K10r4:OpsF:=(oEnd [] (oVal (.tmp 25) (kLoad (some 5) (.tmp 3)) (oCallT (some [4]) (.tmp 26) (.con (.func 28 [] [])) [(.tmp 25)] (oVal (.tmp 27) (kLoad (some 3) (.tmp 4)) (oVal (.tmp 28) (kMove (.tmp 2)) (oCall (.tmp 29) (.con (.func 29 [] [])) [(.tmp 26),(.tmp 27),(.tmp 28)] (oVal .none (kStore 2 (.tmp 6) (.tmp 29)) (oVal (.tmp 7) (kMove (.con (.int .i64 0))) oNil))))))))
theorem res10:Try.f10.results.toList=[.cell 6 26,.tmp 7]:=by kernel_rfl
def K10:K:=(kSeq (kRegion K10r0 [3,4,6,7]) (kSeq (kRegionD K10r1 [8]) (kSeq (kSeq (kRegion K10r2 [22]) (kCond (.tmp 22) (kSeq (kRegion K10r3 [7]) kRet) kSkip)) (kSeq (kRegionD K10r4 [7]) kRet))))
theorem enter10 (cl:CallF) (a0 a1 a2:AV) (s:St):enterA Try.prog X cl 10 [a0,a1,a2] s Try.f10=finA Try.prog Try.f10 (K10 cl ⟨10,none,Try.f10.ntmps,X 10⟩ (paramsEnv 0 [a0,a1,a2] .nil) [] s) :=
  enterA_eq (b:=Try.f10.body.getD .skip) (by kernel_rfl) (by kernel_rfl) (by kernel_rfl) (by kernel_rfl) (by kernel_rfl)
def K11r0:OpsF:=(oVal (.tmp 3) (kBox (tag 31) (.tmp 0)) (oVal (.tmp 4) (kBox (tag 35) (.tmp 1)) (oVal (.tmp 6) (kMove (.con (.int .i64 0))) (oVal (.tmp 7) (kMove (.con (.int .i64 0))) oNil))))
def K11r1:OpsF:=(oVal (.tmp 11) (kLoad (some 5) (.tmp 3)) (oVal (.tmp 12) (kLoad (some 3) (.tmp 4)) (oVal (.tmp 13) (kMove (.tmp 2)) (oCall (.tmp 14) (.con (.func 10 [] [])) [(.tmp 11),(.tmp 12),(.tmp 13)] (oVal (.tmp 10) (kMove (.tmp 14)) (oVal (.tmp 15) (kUn (extA 0) (.tmp 10)) (oVal (.tmp 16) (kUn (extA 1) (.tmp 10)) (oVal (.tmp 8) (kAlloc [(.int .i64 0),(.int .i64 0)] (tag 26)) (oVal .none (kStore 2 (.tmp 8) (.tmp 15)) (oVal (.tmp 9) (kMove (.tmp 16)) oNil))))))))))
def K11r2:OpsF:=(oVal (.tmp 17) (kMove (.tmp 9)) (oVal (.tmp 18) (kInt aNeq (.tmp 17) (.con (.int .i64 0))) oNil))
def K11r3:OpsF:=(oVal (.tmp 19) (kMove (.tmp 9)) (oVal (.tmp 6) (kMove (.con (.int .i64 0))) (oVal (.tmp 7) (kMove (.tmp 19)) oNil)))
def K11r4:OpsF:=(oVal (.tmp 20) (kUn (fadA 0) (.tmp 8)) (oVal (.tmp 21) (kLoad none (.tmp 20)) (oVal (.tmp 22) (kUn (fadA 1) (.tmp 4)) (oVal (.tmp 23) (kLoad none (.tmp 22)) (oVal (.tmp 24) (kInt aLeq (.tmp 21) (.tmp 23)) (oVal (.tmp 25) (kUn (fadA 1) (.tmp 8)) (oVal (.tmp 26) (kLoad none (.tmp 25)) (oVal (.tmp 27) (kUn (fadA 1) (.tmp 4)) (oVal (.tmp 28) (kLoad none (.tmp 27)) (oVal (.tmp 29) (kInt aLeq (.tmp 26) (.tmp 28)) (oCall (.tmp 30) (.con (.func 30 [] [])) [(.tmp 24),(.tmp 29)] (oVal (.tmp 6) (kMove (.tmp 30)) (oVal (.tmp 7) (kMove (.con (.int .i64 0))) oNil)))))))))))))
theorem res11:Try.f11.results.toList=[.tmp 6,.tmp 7]:=by kernel_rfl
def K11:K:=(kSeq (kRegion K11r0 [3,4,6,7]) (kSeq (kRegion K11r1 [8,9]) (kSeq (kSeq (kRegion K11r2 [18]) (kCond (.tmp 18) (kSeq (kRegion K11r3 [6,7]) kRet) kSkip)) (kSeq (kRegion K11r4 [6,7]) kRet))))
theorem enter11 (cl:CallF) (a0 a1 a2:AV) (s:St):enterA Try.prog X cl 11 [a0,a1,a2] s Try.f11=finA Try.prog Try.f11 (K11 cl ⟨11,none,Try.f11.ntmps,X 11⟩ (paramsEnv 0 [a0,a1,a2] .nil) [] s) :=
  enterA_eq (b:=Try.f11.body.getD .skip) (by kernel_rfl) (by kernel_rfl) (by kernel_rfl) (by kernel_rfl) (by kernel_rfl)
def K45r0:OpsF:=(oVal (.tmp 3) (kBox (tag 104) (.tmp 1)) (oVal (.tmp 4) (kMove (.con .nilslice)) oNil))
def K45r1:OpsF:=(oVal (.tmp 5) (kAlloc [.nilslice] (tag 102)) oNil)
def K45r2:OpsF:=(oVal (.tmp 8) (kMove (.tmp 0)) oNil)
def K45r3:OpsF:=(oVal (.tmp 17) (kLoad none (.tmp 5)) (oVal (.tmp 4) (kMove (.tmp 17)) oNil))
theorem res45:Try.f45.results.toList=[.tmp 4]:=by kernel_rfl
def K45:K:=(kSeq (kRegion K45r0 [3,4]) (kSeq (kRegion K45r1 [5]) (kSeq (kSeq (kRegion K45r2 [8]) (kBlock 0 (kRange (.tmp 8) [9,10] (rangeAt Try.f45 0).1 (rangeAt Try.f45 0).2))) (kSeq (kRegion K45r3 [4]) kRet))))
theorem enter45 (cl:CallF) (a0 a1:AV) (s:St):enterA Try.prog X cl 45 [a0,a1] s Try.f45=finA Try.prog Try.f45 (K45 cl ⟨45,none,Try.f45.ntmps,X 45⟩ (paramsEnv 0 [a0,a1] .nil) [] s) :=
  enterA_eq (b:=Try.f45.body.getD .skip) (by kernel_rfl) (by kernel_rfl) (by kernel_rfl) (by kernel_rfl) (by kernel_rfl)
def K45a0r0:OpsF:=(oVal (.tmp 7) (kAlloc [(.int .i64 0),(.int .i64 0)] (tag 93)) (oVal .none (kStore 2 (.tmp 7) (.tmp 10)) oNil))
def K45a0:K:=(kRegion K45a0r0 [7])
theorem code45a0:codeK Try.prog (X 45) Try.f45.ntmps (rangeAt Try.f45 0).1=some K45a0:=by kernel_rfl
def K45b0r0:OpsF:=(oEnd [] (oVal (.tmp 11) (kLoad none (.tmp 5)) (oVal (.tmp 12) (kLoad none (.tmp 3)) (oVal (.tmp 13) (kLoad (some 2) (.tmp 7)) (oCallT (some [5]) (.tmp 14) (.tmp 12) [(.tmp 13)] (oVal (.tmp 15) (kBuildSlice [(.int .i64 0),(.int .i64 0)] 1 [(0,2,(.tmp 14))]) (oVal (.tmp 16) (kTwo (appendA false 2 16 (tag 93)) (.tmp 11) (.tmp 15)) (oVal .none (kStore 1 (.tmp 5) (.tmp 16)) oNil))))))))
def K45b0:K:=(kBlock 1 (kRegionD K45b0r0 []))
theorem code45b0:codeK Try.prog (X 45) Try.f45.ntmps (rangeAt Try.f45 0).2=some K45b0:=by kernel_rfl
def K46r0:OpsF:=(oVal (.tmp 3) (kBox (tag 93) (.tmp 1)) (oVal (.tmp 4) (kAlloc [(.int .i64 0),(.int .i64 0)] (tag 93)) oNil))
def K46r1:OpsF:=(oVal (.tmp 6) (kMove (.tmp 0)) (oVal (.tmp 7) (kUn nilA (.tmp 6)) (oVal (.tmp 8) (kUn (fadA 0) (.tmp 7)) (oVal (.tmp 9) (kUn (fadA 7) (.tmp 8)) (oVal (.tmp 10) (kLoad (some 2) (.tmp 9)) (oCall (.tmp 11) (.con (.func 61 [] [])) [(.tmp 10)] (oVal (.tmp 5) (kAlloc [(.int .i64 0),(.int .i64 0)] (tag 93)) (oVal .none (kStore 2 (.tmp 5) (.tmp 11)) oNil))))))))
def K46r2:OpsF:=(oVal (.tmp 12) (kTwo (ixaA 2 1) (.tmp 3) (.con (.int .i64 1))) (oVal (.tmp 13) (kLoad none (.tmp 12)) (oVal (.tmp 14) (kGtr (.tmp 13) (.con (.int .i64 0))) oNil)))
def K46r3:OpsF:=(oVal (.tmp 15) (kMove (.tmp 0)) (oVal (.tmp 16) (kUn nilA (.tmp 15)) (oVal (.tmp 17) (kUn (fadA 0) (.tmp 16)) (oVal (.tmp 18) (kUn (fadA 5) (.tmp 17)) (oVal (.tmp 19) (kUn (fadA 0) (.tmp 18)) (oVal (.tmp 20) (kLoad none (.tmp 19)) (oVal (.tmp 21) (kTwo (ixaA 2 1) (.tmp 5) (.con (.int .i64 0))) (oVal .none (kStore 1 (.tmp 21) (.tmp 20)) oNil))))))))
def K46r4:OpsF:=(oVal (.tmp 22) (kTwo (ixaA 2 1) (.tmp 3) (.con (.int .i64 0))) (oVal (.tmp 23) (kLoad none (.tmp 22)) (oVal (.tmp 24) (kGtr (.tmp 23) (.con (.int .i64 0))) oNil)))
def K46r5:OpsF:=(oVal (.tmp 25) (kMove (.tmp 0)) (oVal (.tmp 26) (kUn nilA (.tmp 25)) (oVal (.tmp 27) (kUn (fadA 0) (.tmp 26)) (oVal (.tmp 28) (kUn (fadA 5) (.tmp 27)) (oVal (.tmp 29) (kUn (fadA 1) (.tmp 28)) (oVal (.tmp 30) (kLoad none (.tmp 29)) (oVal (.tmp 31) (kTwo (ixaA 2 1) (.tmp 5) (.con (.int .i64 1))) (oVal .none (kStore 1 (.tmp 31) (.tmp 30)) oNil))))))))
def K46r6:OpsF:=(oVal (.tmp 32) (kLoad (some 2) (.tmp 5)) (oVal .none (kStore 2 (.tmp 4) (.tmp 32)) oNil))
theorem res46:Try.f46.results.toList=[.cell 4 93]:=by kernel_rfl
def K46:K:=(kSeq (kRegion K46r0 [3,4]) (kSeq (kRegion K46r1 [5]) (kSeq (kSeq (kRegion K46r2 [14]) (kCond (.tmp 14) (kRegion K46r3 []) kSkip)) (kSeq (kSeq (kRegion K46r4 [24]) (kCond (.tmp 24) (kRegion K46r5 []) kSkip)) (kSeq (kRegion K46r6 []) kRet)))))
theorem enter46 (cl:CallF) (a0 a1:AV) (s:St):enterA Try.prog X cl 46 [a0,a1] s Try.f46=finA Try.prog Try.f46 (K46 cl ⟨46,none,Try.f46.ntmps,X 46⟩ (paramsEnv 0 [a0,a1] .nil) [] s) :=
  enterA_eq (b:=Try.f46.body.getD .skip) (by kernel_rfl) (by kernel_rfl) (by kernel_rfl) (by kernel_rfl) (by kernel_rfl)
def K47r0:OpsF:=(oVal (.tmp 3) (kBox (tag 104) (.tmp 1)) (oVal (.tmp 4) (kAlloc [(.int .i64 0),(.int .i64 0)] (tag 26)) oNil))
def K47r1:OpsF:=(oVal (.tmp 5) (kAlloc [(.int .i64 0),(.int .i64 0)] (tag 26)) oNil)
def K47r2:OpsF:=(oVal (.tmp 8) (kMove (.tmp 0)) oNil)
def K47r3:OpsF:=(oVal (.tmp 25) (kLoad (some 2) (.tmp 5)) (oVal .none (kStore 2 (.tmp 4) (.tmp 25)) oNil))
theorem res47:Try.f47.results.toList=[.cell 4 26]:=by kernel_rfl
def K47:K:=(kSeq (kRegion K47r0 [3,4]) (kSeq (kRegion K47r1 [5]) (kSeq (kSeq (kRegion K47r2 [8]) (kBlock 0 (kRange (.tmp 8) [9] (rangeAt Try.f47 0).1 (rangeAt Try.f47 0).2))) (kSeq (kRegion K47r3 []) kRet))))
theorem enter47 (cl:CallF) (a0 a1:AV) (s:St):enterA Try.prog X cl 47 [a0,a1] s Try.f47=finA Try.prog Try.f47 (K47 cl ⟨47,none,Try.f47.ntmps,X 47⟩ (paramsEnv 0 [a0,a1] .nil) [] s) :=
  enterA_eq (b:=Try.f47.body.getD .skip) (by kernel_rfl) (by kernel_rfl) (by kernel_rfl) (by kernel_rfl) (by kernel_rfl)
def K47a0r0:OpsF:=(oVal (.tmp 6) (kAlloc [(.int .i64 0),(.int .i64 0)] (tag 93)) (oVal .none (kStore 2 (.tmp 6) (.tmp 9)) oNil))
def K47a0:K:=(kRegion K47a0r0 [6])
theorem code47a0:codeK Try.prog (X 47) Try.f47.ntmps (rangeAt Try.f47 0).1=some K47a0:=by kernel_rfl
def K47b0r0:OpsF:=(oVal (.tmp 10) (kLoad none (.tmp 3)) (oVal (.tmp 11) (kLoad (some 2) (.tmp 6)) (oCall (.tmp 12) (.tmp 10) [(.tmp 11)] (oVal (.tmp 7) (kAlloc [(.int .i64 0),(.int .i64 0)] (tag 93)) (oVal .none (kStore 2 (.tmp 7) (.tmp 12)) oNil)))))
def K47b0r1:OpsF:=(oVal (.tmp 13) (kUn (fadA 0) (.tmp 5)) (oVal (.tmp 14) (kLoad none (.tmp 13)) (oVal (.tmp 15) (kTwo (ixaA 2 1) (.tmp 7) (.con (.int .i64 0))) (oVal (.tmp 16) (kLoad none (.tmp 15)) (oVal (.tmp 17) (kInt aAdd (.tmp 14) (.tmp 16)) (oVal (.tmp 18) (kUn (fadA 0) (.tmp 5)) (oVal .none (kStore 1 (.tmp 18) (.tmp 17)) oNil)))))))
def K47b0r2:OpsF:=(oVal (.tmp 19) (kUn (fadA 1) (.tmp 5)) (oVal (.tmp 20) (kLoad none (.tmp 19)) (oVal (.tmp 21) (kTwo (ixaA 2 1) (.tmp 7) (.con (.int .i64 1))) (oVal (.tmp 22) (kLoad none (.tmp 21)) (oVal (.tmp 23) (kInt aAdd (.tmp 20) (.tmp 22)) (oVal (.tmp 24) (kUn (fadA 1) (.tmp 5)) (oVal .none (kStore 1 (.tmp 24) (.tmp 23)) oNil)))))))
def K47b0:K:=(kBlock 1 (kSeq (kRegion K47b0r0 [7]) (kSeq (kRegion K47b0r1 []) (kRegion K47b0r2 []))))
theorem code47b0:codeK Try.prog (X 47) Try.f47.ntmps (rangeAt Try.f47 0).2=some K47b0:=by kernel_rfl
def K48r0:OpsF:=(oVal (.tmp 3) (kBox (tag 78) (.tmp 0)) (oVal (.tmp 4) (kBox (tag 35) (.tmp 1)) (oVal (.tmp 5) (kBox (tag 3) (.tmp 2)) (oVal (.tmp 6) (kMove (.con .nilfunc)) oNil))))
def K48r1:OpsF:=(oVal (.tmp 7) (kFunc 68 [] [(.tmp 4),(.tmp 5),(.tmp 3)]) (oVal (.tmp 6) (kMove (.tmp 7)) oNil))
theorem res48:Try.f48.results.toList=[.tmp 6]:=by kernel_rfl
def K48:K:=(kSeq (kRegion K48r0 [3,4,5,6]) (kSeq (kRegion K48r1 [6]) kRet))
theorem enter48 (cl:CallF) (a0 a1 a2:AV) (s:St):enterA Try.prog X cl 48 [a0,a1,a2] s Try.f48=finA Try.prog Try.f48 (K48 cl ⟨48,none,Try.f48.ntmps,X 48⟩ (paramsEnv 0 [a0,a1,a2] .nil) [] s) :=
  enterA_eq (b:=Try.f48.body.getD .skip) (by kernel_rfl) (by kernel_rfl) (by kernel_rfl) (by kernel_rfl) (by kernel_rfl)
def K68r0:OpsF:=(oVal (.tmp 6) (kUn (fadA 0) (.tmp 1)) (oVal (.tmp 7) (kLoad none (.tmp 6)) (oVal (.tmp 5) (kMove (.tmp 7)) oNil)))
def K68r1:OpsF:=(oVal (.tmp 8) (kMove (.tmp 5)) (oVal (.tmp 9) (kLoad none (.tmp 2)) (oVal (.tmp 10) (kInt aLss (.tmp 8) (.tmp 9)) oNil)))
def K68r2:OpsF:=(oVal (.tmp 13) (kMove (.tmp 0)) (oVal (.tmp 14) (kLoad (some 6) (.tmp 3)) (oVal (.tmp 15) (kLoad (some 3) (.tmp 1)) (oVal (.tmp 16) (kMove (.tmp 5)) (oCall (.tmp 17) (.con (.func 69 [] [])) [(.tmp 14),(.tmp 15),(.tmp 16)] (oCall (.tmp 18) (.tmp 13) [(.tmp 17)] (oVal (.tmp 19) (kUn notA (.tmp 18)) oNil)))))))
def K68r3:OpsF:=(oVal (.tmp 11) (kMove (.tmp 5)) (oVal (.tmp 12) (kInt aAdd (.tmp 11) (.con (.int .i64 1))) (oVal (.tmp 5) (kMove (.tmp 12)) oNil)))
def K68l0:K:=(kSeq (kSeq (kRegion K68r1 [10]) (kCond (.tmp 10) kSkip (kExit 0))) (kSeq (kBlock 1 (kSeq (kRegion K68r2 [19]) (kCond (.tmp 19) kRet kSkip))) (kRegion K68r3 [5])))
theorem res68:Try.f68.results.toList=[]:=by kernel_rfl
def K68:K:=(kSeq (kRegion K68r0 [5]) (kBlock 0 (kLoop K68l0)))
theorem enter68 (cl:CallF) (a0 a1 a2 a3:AV) (s:St):enterA Try.prog X cl 68 [a0,a1,a2,a3] s Try.f68=finA Try.prog Try.f68 (K68 cl ⟨68,none,Try.f68.ntmps,X 68⟩ (paramsEnv 0 [a0,a1,a2,a3] .nil) [] s) :=
  enterA_eq (b:=Try.f68.body.getD .skip) (by kernel_rfl) (by kernel_rfl) (by kernel_rfl) (by kernel_rfl) (by kernel_rfl)
def K69r0:OpsF:=(oVal (.tmp 3) (kBox (tag 78) (.tmp 0)) (oVal (.tmp 4) (kBox (tag 35) (.tmp 1)) (oVal (.tmp 6) (kAlloc [(.int .i64 0),(.int .i64 0)] (tag 93)) oNil)))
def K69r1:OpsF:=(oVal (.tmp 9) (kUn (fadA 2) (.tmp 4)) (oVal (.tmp 10) (kLoad none (.tmp 9)) (oVal (.tmp 11) (kUn lenSlA (.tmp 10)) (oVal (.tmp 12) (kMove (.con (.int .i64 0))) oNil))))
def K69r2:OpsF:=(oVal (.tmp 13) (kInt aLss (.tmp 12) (.tmp 11)) oNil)
def K69r3:OpsF:=(oVal (.tmp 14) (kTwo (ixsA 3) (.tmp 10) (.tmp 12)) (oVal (.tmp 15) (kLoad (some 3) (.tmp 14)) (oVal (.tmp 8) (kAlloc [(.int .i64 0),(.int .i64 0),(.int .i64 0)] (tag 69)) (oVal .none (kStore 3 (.tmp 8) (.tmp 15)) oNil))))
def K69r4s9:OpsF:=(oVal (.tmp 25) (kPick (.tmp 20) (.tmp 24) (.con (.bool false))) oNil)
def K69r4s8:OpsF:=(oIf 20 true (oVal (.tmp 24) (kInt aLss (.tmp 21) (.tmp 23)) K69r4s9) (oSkip (.tmp 24) K69r4s9))
def K69r4s7:OpsF:=(oIf 20 true (oVal (.tmp 23) (kLoad none (.tmp 22)) K69r4s8) (oSkip (.tmp 23) K69r4s8))
def K69r4s6:OpsF:=(oIf 20 true (oVal (.tmp 22) (kUn (fadA 2) (.tmp 8)) K69r4s7) (oSkip (.tmp 22) K69r4s7))
def K69r4:OpsF:=(oVal (.tmp 16) (kUn (fadA 1) (.tmp 8)) (oVal (.tmp 17) (kLoad none (.tmp 16)) (oVal (.tmp 18) (kMove (.tmp 2)) (oVal (.tmp 19) (kInt aLeq (.tmp 17) (.tmp 18)) (oVal (.tmp 20) (kMove (.tmp 19)) (oIf 20 true (oVal (.tmp 21) (kMove (.tmp 2)) K69r4s6) (oSkip (.tmp 21) K69r4s6)))))))
def K69r5:OpsF:=(oVal (.tmp 26) (kUn (fadA 5) (.tmp 3)) (oVal (.tmp 27) (kLoad none (.tmp 26)) (oVal (.tmp 28) (kUn (fadA 0) (.tmp 8)) (oVal (.tmp 29) (kLoad none (.tmp 28)) (oVal (.tmp 30) (kTwo (ixsA 1) (.tmp 27) (.tmp 29)) (oVal (.tmp 31) (kLoad none (.tmp 30)) (oVal (.tmp 32) (kMove (.tmp 2)) (oVal (.tmp 33) (kTwo (ixsA 2) (.tmp 31) (.tmp 32)) (oVal (.tmp 34) (kLoad (some 2) (.tmp 33)) (oVal .none (kStore 2 (.tmp 6) (.tmp 34)) oNil))))))))))
def K69r6:OpsF:=(oVal (.tmp 35) (kInt aAdd (.tmp 12) (.con (.int .i64 1))) (oVal (.tmp 12) (kMove (.tmp 35)) oNil))
def K69l0:K:=(kSeq (kRegion K69r2 [13]) (kSeq (kCond (.tmp 13) kSkip (kExit 0)) (kSeq (kBlock 1 (kSeq (kRegion K69r3 [8]) (kSeq (kRegion K69r4 [25]) (kCond (.tmp 25) (kSeq (kRegion K69r5 []) kRet) kSkip)))) (kRegion K69r6 [12]))))
def K69r7:OpsF:=(oVal (.tmp 36) (kUn (fadA 0) (.tmp 3)) (oVal (.tmp 37) (kUn (fadA 0) (.tmp 36)) (oVal (.tmp 38) (kLoad (some 2) (.tmp 37)) (oCall (.tmp 39) (.con (.func 61 [] [])) [(.tmp 38)] (oVal .none (kStore 2 (.tmp 6) (.tmp 39)) oNil)))))
theorem res69:Try.f69.results.toList=[.cell 6 93]:=by kernel_rfl
def K69:K:=(kSeq (kRegion K69r0 [3,4,6]) (kSeq (kSeq (kRegion K69r1 [10,11,12]) (kBlock 0 (kLoop K69l0))) (kSeq (kRegion K69r7 []) kRet)))
theorem enter69 (cl:CallF) (a0 a1 a2:AV) (s:St):enterA Try.prog X cl 69 [a0,a1,a2] s Try.f69=finA Try.prog Try.f69 (K69 cl ⟨69,none,Try.f69.ntmps,X 69⟩ (paramsEnv 0 [a0,a1,a2] .nil) [] s) :=
  enterA_eq (b:=Try.f69.body.getD .skip) (by kernel_rfl) (by kernel_rfl) (by kernel_rfl) (by kernel_rfl) (by kernel_rfl)
def K49r0:OpsF:=(oVal (.tmp 2) (kBox (tag 78) (.tmp 0)) (oVal (.tmp 3) (kBox (tag 93) (.tmp 1)) (oVal (.tmp 4) (kAlloc [(.int .i64 0),(.int .i64 0)] (tag 93)) oNil)))
def K49r1:OpsF:=(oVal (.tmp 5) (kAlloc [(.int .i64 0),(.int .i64 0)] (tag 93)) oNil)
def K49r2:OpsF:=(oVal (.tmp 10) (kLoad (some 2) (.tmp 3)) (oVal (.tmp 11) (kMove (.con (.int .i64 0))) oNil))
def K49r3:OpsF:=(oVal (.tmp 12) (kInt aLss (.tmp 11) (.con (.int .i64 2))) oNil)
def K49r4:OpsF:=(oVal (.tmp 13) (kMove (.tmp 11)) (oVal (.tmp 14) (kTwo (indA 2 1 none) (.tmp 10) (.tmp 11)) (oVal (.tmp 6) (kMove (.tmp 13)) (oVal (.tmp 7) (kMove (.tmp 14)) oNil))))
def K49r5:OpsF:=(oVal (.tmp 15) (kUn (fadA 0) (.tmp 2)) (oVal (.tmp 16) (kUn (fadA 4) (.tmp 15)) (oVal (.tmp 17) (kLoad none (.tmp 16)) (oVal (.tmp 18) (kUn lenSlA (.tmp 17)) (oVal (.tmp 19) (kMove (.con (.int .i64 0))) oNil)))))
def K49r6:OpsF:=(oVal (.tmp 20) (kInt aLss (.tmp 19) (.tmp 18)) oNil)
def K49r7:OpsF:=(oVal (.tmp 21) (kTwo (ixsA 2) (.tmp 17) (.tmp 19)) (oVal (.tmp 22) (kLoad (some 2) (.tmp 21)) (oVal (.tmp 9) (kAlloc [(.int .i64 0),(.int .i64 0)] (tag 67)) (oVal .none (kStore 2 (.tmp 9) (.tmp 22)) oNil))))
def K49r8:OpsF:=(oVal (.tmp 23) (kUn (fadA 0) (.tmp 9)) (oVal (.tmp 24) (kLoad none (.tmp 23)) (oVal (.tmp 25) (kMove (.tmp 7)) (oVal (.tmp 26) (kGtr (.tmp 24) (.tmp 25)) oNil))))
def K49r9:OpsF:=(oVal (.tmp 27) (kMove (.tmp 6)) (oVal (.tmp 28) (kUn (fadA 1) (.tmp 9)) (oVal (.tmp 29) (kLoad none (.tmp 28)) (oVal (.tmp 30) (kTwo (ixaA 2 1) (.tmp 5) (.tmp 27)) (oVal .none (kStore 1 (.tmp 30) (.tmp 29)) oNil)))))
def K49r10:OpsF:=(oVal (.tmp 31) (kInt aAdd (.tmp 19) (.con (.int .i64 1))) (oVal (.tmp 19) (kMove (.tmp 31)) oNil))
def K49l0:K:=(kSeq (kRegion K49r6 [20]) (kSeq (kCond (.tmp 20) kSkip (kExit 2)) (kSeq (kBlock 3 (kSeq (kRegion K49r7 [9]) (kSeq (kSeq (kRegion K49r8 [26]) (kCond (.tmp 26) (kExit 1) kSkip)) (kRegion K49r9 [])))) (kRegion K49r10 [19]))))
def K49r11:OpsF:=(oVal (.tmp 32) (kInt aAdd (.tmp 11) (.con (.int .i64 1))) (oVal (.tmp 11) (kMove (.tmp 32)) oNil))
def K49l1:K:=(kSeq (kRegion K49r3 [12]) (kSeq (kCond (.tmp 12) kSkip (kExit 0)) (kSeq (kBlock 1 (kSeq (kRegion K49r4 [6,7]) (kSeq (kRegion K49r5 [17,18,19]) (kBlock 2 (kLoop K49l0))))) (kRegion K49r11 [11]))))
def K49r12:OpsF:=(oVal (.tmp 33) (kLoad (some 2) (.tmp 5)) (oVal .none (kStore 2 (.tmp 4) (.tmp 33)) oNil))
theorem res49:Try.f49.results.toList=[.cell 4 93]:=by kernel_rfl
def K49:K:=(kSeq (kRegion K49r0 [2,3,4]) (kSeq (kRegion K49r1 [5]) (kSeq kSkip (kSeq (kSeq (kRegion K49r2 [10,11]) (kBlock 0 (kLoop K49l1))) (kSeq (kRegion K49r12 []) kRet)))))
theorem enter49 (cl:CallF) (a0 a1:AV) (s:St):enterA Try.prog X cl 49 [a0,a1] s Try.f49=finA Try.prog Try.f49 (K49 cl ⟨49,none,Try.f49.ntmps,X 49⟩ (paramsEnv 0 [a0,a1] .nil) [] s) :=
  enterA_eq (b:=Try.f49.body.getD .skip) (by kernel_rfl) (by kernel_rfl) (by kernel_rfl) (by kernel_rfl) (by kernel_rfl)
end
end Go.Proofs.Ytlfalcghhckanab.code
set_option maxRecDepth 100000
namespace Go.Proofs.Ytlfalcghhckanab.code
open Go.Abs
noncomputable section
def K19r0:OpsF:=(oVal (.tmp 2) (kMove (.con (.int .u64 0))) oNil)
def K19r1:OpsF:=(oVal (.tmp 4) (kMove (.tmp 0)) (oVal (.tmp 5) (kMove (.tmp 0)) (oVal (.tmp 6) (kUn nilA (.tmp 5)) (oVal (.tmp 7) (kUn (fadA 0) (.tmp 6)) (oVal (.tmp 8) (kLoad none (.tmp 7)) (oVal (.tmp 9) (kInt aAdd (.tmp 8) (.con (.int .u64 11562461410679940143))) (oVal (.tmp 10) (kUn nilA (.tmp 4)) (oVal (.tmp 11) (kUn (fadA 0) (.tmp 10)) (oVal .none (kStore 1 (.tmp 11) (.tmp 9)) oNil)))))))))
def K19r2:OpsF:=(oVal (.tmp 12) (kMove (.tmp 0)) (oVal (.tmp 13) (kUn nilA (.tmp 12)) (oVal (.tmp 14) (kUn (fadA 0) (.tmp 13)) (oVal (.tmp 15) (kLoad none (.tmp 14)) (oVal (.tmp 3) (kMove (.tmp 15)) oNil)))))
def K19r3:OpsF:=(oVal (.tmp 16) (kMove (.tmp 3)) (oVal (.tmp 17) (kMove (.tmp 3)) (oVal (.tmp 18) (kShr (.tmp 17) (.con (.int .u64 30))) (oVal (.tmp 19) (kInt aXor (.tmp 16) (.tmp 18)) (oVal (.tmp 20) (kInt aMul (.tmp 19) (.con (.int .u64 13787848793156543929))) (oVal (.tmp 3) (kMove (.tmp 20)) oNil))))))
def K19r4:OpsF:=(oVal (.tmp 21) (kMove (.tmp 3)) (oVal (.tmp 22) (kMove (.tmp 3)) (oVal (.tmp 23) (kShr (.tmp 22) (.con (.int .u64 27))) (oVal (.tmp 24) (kInt aXor (.tmp 21) (.tmp 23)) (oVal (.tmp 25) (kInt aMul (.tmp 24) (.con (.int .u64 10723151780598845931))) (oVal (.tmp 3) (kMove (.tmp 25)) oNil))))))
def K19r5:OpsF:=(oVal (.tmp 26) (kMove (.tmp 3)) (oVal (.tmp 27) (kMove (.tmp 3)) (oVal (.tmp 28) (kShr (.tmp 27) (.con (.int .u64 31))) (oVal (.tmp 29) (kInt aXor (.tmp 26) (.tmp 28)) (oVal (.tmp 2) (kMove (.tmp 29)) oNil)))))
theorem res19:Try.f19.results.toList=[.tmp 2]:=by kernel_rfl
def K19:K:=(kSeq (kRegion K19r0 [2]) (kSeq (kRegion K19r1 []) (kSeq (kRegion K19r2 [3]) (kSeq (kRegion K19r3 [3]) (kSeq (kRegion K19r4 [3]) (kSeq (kRegion K19r5 [2]) kRet))))))
theorem enter19 (cl:CallF) (a0:AV) (s:St):enterA Try.prog X cl 19 [a0] s Try.f19=finA Try.prog Try.f19 (K19 cl ⟨19,none,Try.f19.ntmps,X 19⟩ (paramsEnv 0 [a0] .nil) [] s) :=
  enterA_eq (b:=Try.f19.body.getD .skip) (by kernel_rfl) (by kernel_rfl) (by kernel_rfl) (by kernel_rfl) (by kernel_rfl)
def K8r0:OpsF:=(oVal (.tmp 4) (kMove (.con (.int .i64 0))) oNil)
def K8r1:OpsF:=(oVal (.tmp 5) (kMove (.tmp 1)) (oVal (.tmp 6) (kInt aLss (.tmp 5) (.con (.int .i64 2))) oNil))
def K8r2:OpsF:=(oVal (.tmp 4) (kMove (.con (.int .i64 0))) oNil)
def K8r3:OpsF:=(oVal (.tmp 7) (kMove (.tmp 0)) (oCall (.tmp 8) (.con (.func 19 [] [])) [(.tmp 7)] (oVal (.tmp 9) (kShr (.tmp 8) (.con (.int .u64 2))) (oVal (.tmp 10) (kMove (.tmp 1)) (oVal (.tmp 11) (kUn (cviA .u64) (.tmp 10)) (oVal (.tmp 12) (kInt aRem (.tmp 9) (.tmp 11)) (oVal (.tmp 13) (kUn (cviA .i64) (.tmp 12)) (oVal (.tmp 4) (kMove (.tmp 13)) oNil))))))))
theorem res8:Try.f8.results.toList=[.tmp 4]:=by kernel_rfl
def K8:K:=(kSeq (kRegion K8r0 [4]) (kSeq (kSeq (kRegion K8r1 [6]) (kCond (.tmp 6) (kSeq (kRegion K8r2 [4]) kRet) kSkip)) (kSeq (kRegion K8r3 [4]) kRet)))
theorem enter8 (cl:CallF) (a0 a1:AV) (s:St):enterA Try.prog X cl 8 [a0,a1] s Try.f8=finA Try.prog Try.f8 (K8 cl ⟨8,none,Try.f8.ntmps,X 8⟩ (paramsEnv 0 [a0,a1] .nil) [] s) :=
  enterA_eq (b:=Try.f8.body.getD .skip) (by kernel_rfl) (by kernel_rfl) (by kernel_rfl) (by kernel_rfl) (by kernel_rfl)
def K21r0:OpsF:=(oVal (.tmp 6) (kMove (.con (.int .i64 0))) oNil)
def K21r1:OpsF:=(oVal (.tmp 7) (kMove (.tmp 1)) (oVal (.tmp 8) (kMove (.tmp 0)) (oVal (.tmp 9) (kMove (.tmp 2)) (oVal (.tmp 10) (kMove (.tmp 1)) (oVal (.tmp 11) (kInt aSub (.tmp 9) (.tmp 10)) (oVal (.tmp 12) (kInt aAdd (.tmp 11) (.con (.int .i64 1))) (oCall (.tmp 13) (.con (.func 8 [] [])) [(.tmp 8),(.tmp 12)] (oVal (.tmp 14) (kInt aAdd (.tmp 7) (.tmp 13)) (oVal (.tmp 6) (kMove (.tmp 14)) oNil)))))))))
theorem res21:Try.f21.results.toList=[.tmp 6]:=by kernel_rfl
def K21:K:=(kSeq (kRegion K21r0 [6]) (kSeq (kRegion K21r1 [6]) kRet))
theorem enter21 (cl:CallF) (a0 a1 a2:AV) (s:St):enterA Try.prog X cl 21 [a0,a1,a2] s Try.f21=finA Try.prog Try.f21 (K21 cl ⟨21,none,Try.f21.ntmps,X 21⟩ (paramsEnv 0 [a0,a1,a2] .nil) [] s) :=
  enterA_eq (b:=Try.f21.body.getD .skip) (by kernel_rfl) (by kernel_rfl) (by kernel_rfl) (by kernel_rfl) (by kernel_rfl)
def K22r0:OpsF:=(oVal (.tmp 4) (kMove (.con (.int .i64 0))) oNil)
def K22r1:OpsF:=(oVal (.tmp 5) (kMove (.tmp 1)) (oVal (.tmp 6) (kUn lenSlA (.tmp 5)) (oVal (.tmp 7) (kInt aEql (.tmp 6) (.con (.int .i64 0))) oNil)))
def K22r2:OpsF:=(oVal (.tmp 4) (kMove (.con (.int .i64 0))) oNil)
def K22r3:OpsF:=(oVal (.tmp 8) (kMove (.tmp 1)) (oVal (.tmp 9) (kMove (.tmp 0)) (oVal (.tmp 10) (kMove (.tmp 1)) (oVal (.tmp 11) (kUn lenSlA (.tmp 10)) (oCall (.tmp 12) (.con (.func 8 [] [])) [(.tmp 9),(.tmp 11)] (oVal (.tmp 13) (kTwo (ixsA 1) (.tmp 8) (.tmp 12)) (oVal (.tmp 14) (kLoad none (.tmp 13)) (oVal (.tmp 4) (kMove (.tmp 14)) oNil))))))))
theorem res22:Try.f22.results.toList=[.tmp 4]:=by kernel_rfl
def K22:K:=(kSeq (kRegion K22r0 [4]) (kSeq (kSeq (kRegion K22r1 [7]) (kCond (.tmp 7) (kSeq (kRegion K22r2 [4]) kRet) kSkip)) (kSeq (kRegion K22r3 [4]) kRet)))
theorem enter22 (cl:CallF) (a0 a1:AV) (s:St):enterA Try.prog X cl 22 [a0,a1] s Try.f22=finA Try.prog Try.f22 (K22 cl ⟨22,none,Try.f22.ntmps,X 22⟩ (paramsEnv 0 [a0,a1] .nil) [] s) :=
  enterA_eq (b:=Try.f22.body.getD .skip) (by kernel_rfl) (by kernel_rfl) (by kernel_rfl) (by kernel_rfl) (by kernel_rfl)
def K20r0:OpsF:=(oVal (.tmp 6) (kAlloc [(.int .i64 0),(.int .i64 0)] (tag 26)) oNil)
def K20r1:OpsF:=(oVal (.tmp 9) (kMove (.tmp 0)) (oVal (.tmp 10) (kMove (.tmp 1)) (oVal (.tmp 11) (kMove (.tmp 2)) (oCall (.tmp 12) (.con (.func 21 [] [])) [(.tmp 9),(.tmp 10),(.tmp 11)] (oVal (.tmp 7) (kMove (.tmp 12)) oNil)))))
def K20r2:OpsF:=(oVal (.tmp 13) (kMove (.tmp 0)) (oVal (.tmp 14) (kMove (.tmp 7)) (oVal (.tmp 15) (kMove (.tmp 2)) (oVal (.tmp 16) (kMove (.tmp 7)) (oVal (.tmp 17) (kInt aAdd (.tmp 16) (.con (.int .i64 4))) (oVal (.tmp 18) (kFold minA (.tmp 15) [(.tmp 17)]) (oVal (.tmp 19) (kMove (.tmp 2)) (oVal (.tmp 20) (kBuildSlice [(.int .i64 0),(.int .i64 0),(.int .i64 0)] 3 [(0,1,(.tmp 14)),(1,1,(.tmp 18)),(2,1,(.tmp 19))]) (oCall (.tmp 21) (.con (.func 22 [] [])) [(.tmp 13),(.tmp 20)] (oVal (.tmp 8) (kMove (.tmp 21)) oNil))))))))))
def K20r3:OpsF:=(oVal (.tmp 22) (kMove (.tmp 7)) (oVal (.tmp 23) (kMove (.tmp 0)) (oVal (.tmp 24) (kMove (.tmp 7)) (oVal (.tmp 25) (kMove (.tmp 8)) (oCall (.tmp 26) (.con (.func 21 [] [])) [(.tmp 23),(.tmp 24),(.tmp 25)] (oVal (.tmp 27) (kBuild [(.int .i64 0),(.int .i64 0)] [(0,1,(.tmp 22)),(1,1,(.tmp 26))]) (oVal .none (kStore 2 (.tmp 6) (.tmp 27)) oNil)))))))
theorem res20:Try.f20.results.toList=[.cell 6 26]:=by kernel_rfl
def K20:K:=(kSeq (kRegion K20r0 [6]) (kSeq (kRegion K20r1 [7]) (kSeq (kRegion K20r2 [8]) (kSeq (kRegion K20r3 []) kRet))))
theorem enter20 (cl:CallF) (a0 a1 a2:AV) (s:St):enterA Try.prog X cl 20 [a0,a1,a2] s Try.f20=finA Try.prog Try.f20 (K20 cl ⟨20,none,Try.f20.ntmps,X 20⟩ (paramsEnv 0 [a0,a1,a2] .nil) [] s) :=
  enterA_eq (b:=Try.f20.body.getD .skip) (by kernel_rfl) (by kernel_rfl) (by kernel_rfl) (by kernel_rfl) (by kernel_rfl)
end
end Go.Proofs.Ytlfalcghhckanab.code
set_option maxRecDepth 100000
namespace Go.Proofs.Ytlfalcghhckanab.code
open Go.Abs
noncomputable section
def K5r0:OpsF:=(oVal (.tmp 6) (kAlloc [(.int .i64 0),(.int .i64 0),.nilslice,.nilslice,.nilslice] (tag 31)) oNil)
def K5r1:OpsF:=(oVal (.tmp 16) (kMove (.tmp 0)) (oCall (.tmp 17) (.con (.func 20 [] [])) [(.tmp 16),(.con (.int .i64 (-20))),(.con (.int .i64 200))] (oVal (.tmp 18) (kBuild [(.int .i64 0),(.int .i64 0),.nilslice,.nilslice,.nilslice] [(0,2,(.tmp 17))]) (oVal (.tmp 7) (kAlloc [(.int .i64 0),(.int .i64 0),.nilslice,.nilslice,.nilslice] (tag 31)) (oVal .none (kStore 5 (.tmp 7) (.tmp 18)) oNil)))))
def K5r2:OpsF:=(oVal (.tmp 19) (kMove (.tmp 0)) (oVal (.tmp 20) (kMove (.tmp 1)) (oVal (.tmp 21) (kInt aAdd (.tmp 20) (.con (.int .i64 1))) (oCall (.tmp 22) (.con (.func 8 [] [])) [(.tmp 19),(.tmp 21)] (oVal (.tmp 8) (kMove (.tmp 22)) oNil)))))
def K5r3:OpsF:=(oVal (.tmp 23) (kMove (.tmp 8)) (oVal (.tmp 24) (kGtr (.tmp 23) (.con (.int .i64 0))) oNil))
def K5r4:OpsF:=(oVal (.tmp 27) (kMove (.tmp 0)) (oVal (.tmp 28) (kMove (.tmp 0)) (oVal (.tmp 29) (kBuildSlice [(.int .i64 0),(.int .i64 0)] 2 [(0,1,(.con (.int .i64 30))),(1,1,(.con (.int .i64 500)))]) (oCall (.tmp 30) (.con (.func 22 [] [])) [(.tmp 28),(.tmp 29)] (oCall (.tmp 31) (.con (.func 21 [] [])) [(.tmp 27),(.con (.int .i64 1)),(.tmp 30)] (oVal (.tmp 32) (kBuild [(.int .i64 0),(.int .i64 0),(.int .i64 0),(.int .i64 0),(.int .i64 0),(.int .i64 0),(.int .i64 0),(.int .i64 0),(.int .i64 0)] [(0,1,(.tmp 31))]) (oVal (.tmp 9) (kAlloc [(.int .i64 0),(.int .i64 0),(.int .i64 0),(.int .i64 0),(.int .i64 0),(.int .i64 0),(.int .i64 0),(.int .i64 0),(.int .i64 0)] (tag 63)) (oVal .none (kStore 9 (.tmp 9) (.tmp 32)) oNil))))))))
def K5r5:OpsF:=(oEnd [] (oVal (.tmp 33) (kMove (.tmp 0)) (oVal (.tmp 34) (kUn (fadA 0) (.tmp 9)) (oVal (.tmp 35) (kLoad none (.tmp 34)) (oCallT (some [39]) (.tmp 36) (.con (.func 20 [] [])) [(.tmp 33),(.con (.int .i64 0)),(.tmp 35)] (oVal (.tmp 37) (kMove (.tmp 0)) (oVal (.tmp 38) (kMove (.tmp 0)) (oVal (.tmp 39) (kUn (fadA 0) (.tmp 9)) (oVal (.tmp 40) (kLoad none (.tmp 39)) (oVal (.tmp 41) (kInt aQuo (.tmp 40) (.con (.int .i64 4))) (oVal (.tmp 42) (kInt aAdd (.con (.int .i64 1)) (.tmp 41)) (oVal (.tmp 43) (kBuildSlice [(.int .i64 0),(.int .i64 0)] 2 [(0,1,(.con (.int .i64 2))),(1,1,(.tmp 42))]) (oCall (.tmp 44) (.con (.func 22 [] [])) [(.tmp 38),(.tmp 43)] (oCall (.tmp 45) (.con (.func 20 [] [])) [(.tmp 37),(.con (.int .i64 0)),(.tmp 44)] (oVal (.tmp 46) (kUn (fadA 1) (.tmp 9)) (oVal .none (kStore 2 (.tmp 46) (.tmp 36)) (oVal (.tmp 47) (kUn (fadA 3) (.tmp 9)) (oVal .none (kStore 2 (.tmp 47) (.tmp 45)) oNil))))))))))))))))))
def K5r6:OpsF:=(oVal (.tmp 48) (kMove (.tmp 0)) (oCall (.tmp 49) (.con (.func 20 [] [])) [(.tmp 48),(.con (.int .i64 (-50))),(.con (.int .i64 30))] (oVal (.tmp 50) (kUn (fadA 5) (.tmp 9)) (oVal .none (kStore 2 (.tmp 50) (.tmp 49)) oNil))))
def K5r7:OpsF:=(oVal (.tmp 51) (kMove (.tmp 0)) (oVal (.tmp 52) (kUn (fadA 5) (.tmp 9)) (oVal (.tmp 53) (kUn (fadA 1) (.tmp 52)) (oVal (.tmp 54) (kLoad none (.tmp 53)) (oVal (.tmp 55) (kUn (fadA 5) (.tmp 9)) (oVal (.tmp 56) (kUn (fadA 1) (.tmp 55)) (oVal (.tmp 57) (kLoad none (.tmp 56)) (oVal (.tmp 58) (kInt aAdd (.tmp 57) (.con (.int .i64 120))) (oCall (.tmp 59) (.con (.func 20 [] [])) [(.tmp 51),(.tmp 54),(.tmp 58)] (oVal (.tmp 60) (kUn (fadA 7) (.tmp 9)) (oVal .none (kStore 2 (.tmp 60) (.tmp 59)) oNil)))))))))))
def K5r8:OpsF:=(oVal (.tmp 61) (kUn (fadA 2) (.tmp 7)) (oVal (.tmp 62) (kLoad none (.tmp 61)) (oVal (.tmp 63) (kLoad (some 9) (.tmp 9)) (oVal (.tmp 64) (kBuildSlice [(.int .i64 0),(.int .i64 0),(.int .i64 0),(.int .i64 0),(.int .i64 0),(.int .i64 0),(.int .i64 0),(.int .i64 0),(.int .i64 0)] 1 [(0,9,(.tmp 63))]) (oVal (.tmp 65) (kTwo (appendA false 9 72 (tag 63)) (.tmp 62) (.tmp 64)) (oVal (.tmp 66) (kUn (fadA 2) (.tmp 7)) (oVal .none (kStore 1 (.tmp 66) (.tmp 65)) oNil)))))))
def K5r9:OpsF:=(oVal (.tmp 25) (kMove (.tmp 8)) (oVal (.tmp 26) (kInt aSub (.tmp 25) (.con (.int .i64 1))) (oVal (.tmp 8) (kMove (.tmp 26)) oNil)))
def K5l0:K:=(kSeq (kSeq (kRegion K5r3 [24]) (kCond (.tmp 24) kSkip (kExit 0))) (kSeq (kBlock 1 (kSeq (kRegion K5r4 [9]) (kSeq (kRegionD K5r5 []) (kSeq (kRegion K5r6 []) (kSeq (kRegion K5r7 []) (kRegion K5r8 [])))))) (kRegion K5r9 [8])))
def K5r10:OpsF:=(oVal (.tmp 10) (kMove (.con (.int .i64 0))) oNil)
def K5r11:OpsF:=(oVal (.tmp 67) (kMove (.tmp 0)) (oVal (.tmp 68) (kMove (.tmp 2)) (oVal (.tmp 69) (kInt aAdd (.tmp 68) (.con (.int .i64 1))) (oCall (.tmp 70) (.con (.func 8 [] [])) [(.tmp 67),(.tmp 69)] (oVal (.tmp 11) (kMove (.tmp 70)) oNil)))))
def K5r12s7:OpsF:=(oVal (.tmp 78) (kPick (.tmp 73) (.tmp 77) (.con (.bool false))) oNil)
def K5r12s6:OpsF:=(oIf 73 true (oVal (.tmp 77) (kGtr (.tmp 76) (.con (.int .i64 0))) K5r12s7) (oSkip (.tmp 77) K5r12s7))
def K5r12s5:OpsF:=(oIf 73 true (oVal (.tmp 76) (kUn lenSlA (.tmp 75)) K5r12s6) (oSkip (.tmp 76) K5r12s6))
def K5r12s4:OpsF:=(oIf 73 true (oVal (.tmp 75) (kLoad none (.tmp 74)) K5r12s5) (oSkip (.tmp 75) K5r12s5))
def K5r12:OpsF:=(oVal (.tmp 71) (kMove (.tmp 11)) (oVal (.tmp 72) (kGtr (.tmp 71) (.con (.int .i64 0))) (oVal (.tmp 73) (kMove (.tmp 72)) (oIf 73 true (oVal (.tmp 74) (kUn (fadA 2) (.tmp 7)) K5r12s4) (oSkip (.tmp 74) K5r12s4)))))
def K5r13:OpsF:=(oVal (.tmp 81) (kMove (.tmp 10)) (oVal (.tmp 82) (kMove (.tmp 0)) (oCall (.tmp 83) (.con (.func 8 [] [])) [(.tmp 82),(.con (.int .i64 6))] (oVal (.tmp 84) (kInt aAdd (.tmp 81) (.tmp 83)) (oVal (.tmp 10) (kMove (.tmp 84)) oNil)))))
def K5r14:OpsF:=(oVal (.tmp 85) (kMove (.tmp 0)) (oVal (.tmp 86) (kUn (fadA 2) (.tmp 7)) (oVal (.tmp 87) (kLoad none (.tmp 86)) (oVal (.tmp 88) (kUn lenSlA (.tmp 87)) (oCall (.tmp 89) (.con (.func 8 [] [])) [(.tmp 85),(.tmp 88)] (oVal (.tmp 12) (kMove (.tmp 89)) oNil))))))
def K5r15:OpsF:=(oEnd [] (oVal (.tmp 90) (kUn (fadA 3) (.tmp 7)) (oVal (.tmp 91) (kLoad none (.tmp 90)) (oVal (.tmp 92) (kMove (.tmp 12)) (oVal (.tmp 93) (kMove (.tmp 10)) (oVal (.tmp 94) (kMove (.tmp 0)) (oVal (.tmp 95) (kUn (fadA 2) (.tmp 7)) (oVal (.tmp 96) (kLoad none (.tmp 95)) (oVal (.tmp 97) (kMove (.tmp 12)) (oVal (.tmp 98) (kTwo (ixsA 9) (.tmp 96) (.tmp 97)) (oVal (.tmp 99) (kUn (fadA 0) (.tmp 98)) (oVal (.tmp 100) (kLoad none (.tmp 99)) (oVal (.tmp 101) (kInt aAdd (.tmp 100) (.con (.int .i64 5))) (oCallT (some [90]) (.tmp 102) (.con (.func 8 [] [])) [(.tmp 94),(.tmp 101)] (oVal (.tmp 103) (kBuild [(.int .i64 0),(.int .i64 0),(.int .i64 0)] [(0,1,(.tmp 92)),(1,1,(.tmp 93)),(2,1,(.tmp 102))]) (oVal (.tmp 104) (kBuildSlice [(.int .i64 0),(.int .i64 0),(.int .i64 0)] 1 [(0,3,(.tmp 103))]) (oVal (.tmp 105) (kTwo (appendA false 3 24 (tag 65)) (.tmp 91) (.tmp 104)) (oVal (.tmp 106) (kUn (fadA 3) (.tmp 7)) (oVal .none (kStore 1 (.tmp 106) (.tmp 105)) oNil)))))))))))))))))))
def K5r16:OpsF:=(oVal (.tmp 79) (kMove (.tmp 11)) (oVal (.tmp 80) (kInt aSub (.tmp 79) (.con (.int .i64 1))) (oVal (.tmp 11) (kMove (.tmp 80)) oNil)))
def K5l1:K:=(kSeq (kSeq (kRegion K5r12 [78]) (kCond (.tmp 78) kSkip (kExit 2))) (kSeq (kBlock 3 (kSeq (kRegion K5r13 [10]) (kSeq (kRegion K5r14 [12]) (kRegionD K5r15 [])))) (kRegion K5r16 [11])))
def K5r17:OpsF:=(oVal (.tmp 107) (kMove (.tmp 0)) (oCall (.tmp 108) (.con (.func 21 [] [])) [(.tmp 107),(.con (.int .i64 (-60))),(.con (.int .i64 20))] (oVal (.tmp 109) (kMove (.tmp 0)) (oCall (.tmp 110) (.con (.func 8 [] [])) [(.tmp 109),(.con (.int .i64 3))] (oVal (.tmp 13) (kMove (.tmp 108)) (oVal (.tmp 14) (kMove (.tmp 110)) oNil))))))
def K5r18:OpsF:=(oVal (.tmp 111) (kMove (.tmp 0)) (oCall (.tmp 112) (.con (.func 21 [] [])) [(.tmp 111),(.con (.int .i64 1)),(.con (.int .i64 4))] (oVal (.tmp 15) (kMove (.tmp 112)) oNil)))
def K5r19:OpsF:=(oVal (.tmp 113) (kMove (.tmp 15)) (oVal (.tmp 114) (kGtr (.tmp 113) (.con (.int .i64 0))) oNil))
def K5r20:OpsF:=(oVal (.tmp 117) (kUn (fadA 4) (.tmp 7)) (oVal (.tmp 118) (kLoad none (.tmp 117)) (oVal (.tmp 119) (kMove (.tmp 13)) (oVal (.tmp 120) (kMove (.tmp 14)) (oVal (.tmp 121) (kBuild [(.int .i64 0),(.int .i64 0)] [(0,1,(.tmp 119)),(1,1,(.tmp 120))]) (oVal (.tmp 122) (kBuildSlice [(.int .i64 0),(.int .i64 0)] 1 [(0,2,(.tmp 121))]) (oVal (.tmp 123) (kTwo (appendA false 2 16 (tag 67)) (.tmp 118) (.tmp 122)) (oVal (.tmp 124) (kUn (fadA 4) (.tmp 7)) (oVal .none (kStore 1 (.tmp 124) (.tmp 123)) oNil)))))))))
def K5r21:OpsF:=(oVal (.tmp 125) (kMove (.tmp 13)) (oVal (.tmp 126) (kMove (.tmp 0)) (oCall (.tmp 127) (.con (.func 21 [] [])) [(.tmp 126),(.con (.int .i64 1)),(.con (.int .i64 60))] (oVal (.tmp 128) (kInt aAdd (.tmp 125) (.tmp 127)) (oVal (.tmp 129) (kMove (.tmp 14)) (oVal (.tmp 130) (kMove (.tmp 0)) (oCall (.tmp 131) (.con (.func 8 [] [])) [(.tmp 130),(.con (.int .i64 8))] (oVal (.tmp 132) (kInt aAdd (.tmp 129) (.tmp 131)) (oVal (.tmp 13) (kMove (.tmp 128)) (oVal (.tmp 14) (kMove (.tmp 132)) oNil))))))))))
def K5r22:OpsF:=(oVal (.tmp 115) (kMove (.tmp 15)) (oVal (.tmp 116) (kInt aSub (.tmp 115) (.con (.int .i64 1))) (oVal (.tmp 15) (kMove (.tmp 116)) oNil)))
def K5l2:K:=(kSeq (kSeq (kRegion K5r19 [114]) (kCond (.tmp 114) kSkip (kExit 4))) (kSeq (kBlock 5 (kSeq (kRegion K5r20 []) (kRegion K5r21 [13,14]))) (kRegion K5r22 [15])))
def K5r23:OpsF:=(oVal (.tmp 133) (kLoad (some 5) (.tmp 7)) (oVal .none (kStore 5 (.tmp 6) (.tmp 133)) oNil))
theorem res5:Try.f5.results.toList=[.cell 6 31]:=by kernel_rfl
def K5:K:=(kSeq (kRegion K5r0 [6]) (kSeq (kRegion K5r1 [7]) (kSeq (kSeq (kRegion K5r2 [8]) (kBlock 0 (kLoop K5l0))) (kSeq (kRegion K5r10 [10]) (kSeq (kSeq (kRegion K5r11 [11]) (kBlock 2 (kLoop K5l1))) (kSeq (kRegion K5r17 [13,14]) (kSeq (kSeq (kRegion K5r18 [15]) (kBlock 4 (kLoop K5l2))) (kSeq (kRegion K5r23 []) kRet))))))))
theorem enter5 (cl:CallF) (a0 a1 a2:AV) (s:St):enterA Try.prog X cl 5 [a0,a1,a2] s Try.f5=finA Try.prog Try.f5 (K5 cl ⟨5,none,Try.f5.ntmps,X 5⟩ (paramsEnv 0 [a0,a1,a2] .nil) [] s) :=
  enterA_eq (b:=Try.f5.body.getD .skip) (by kernel_rfl) (by kernel_rfl) (by kernel_rfl) (by kernel_rfl) (by kernel_rfl)
def K6r0:OpsF:=(oVal (.tmp 4) (kBox (tag 31) (.tmp 1)) (oVal (.tmp 6) (kAlloc [(.int .i64 0),(.int .i64 0),.nilslice] (tag 35)) oNil))
def K6r1:OpsF:=(oVal (.tmp 11) (kMove (.tmp 0)) (oCall (.tmp 12) (.con (.func 8 [] [])) [(.tmp 11),(.con (.int .i64 10))] (oVal (.tmp 13) (kMove (.tmp 0)) (oVal (.tmp 14) (kMove (.tmp 0)) (oCall (.tmp 15) (.con (.func 8 [] [])) [(.tmp 14),(.con (.int .i64 40))] (oVal (.tmp 16) (kMove (.tmp 0)) (oCall (.tmp 17) (.con (.func 8 [] [])) [(.tmp 16),(.con (.int .i64 200))] (oVal (.tmp 18) (kBuildSlice [(.int .i64 0),(.int .i64 0),(.int .i64 0)] 3 [(0,1,(.con (.int .i64 0))),(1,1,(.tmp 15)),(2,1,(.tmp 17))]) (oCall (.tmp 19) (.con (.func 22 [] [])) [(.tmp 13),(.tmp 18)] (oVal (.tmp 20) (kBuild [(.int .i64 0),(.int .i64 0),.nilslice] [(0,1,(.tmp 12)),(1,1,(.tmp 19))]) (oVal (.tmp 7) (kAlloc [(.int .i64 0),(.int .i64 0),.nilslice] (tag 35)) (oVal .none (kStore 3 (.tmp 7) (.tmp 20)) oNil))))))))))))
def K6r2:OpsF:=(oVal (.tmp 21) (kUn (fadA 0) (.tmp 7)) (oVal (.tmp 22) (kLoad none (.tmp 21)) (oVal (.tmp 8) (kMove (.tmp 22)) oNil)))
def K6r3:OpsF:=(oVal (.tmp 23) (kMove (.tmp 0)) (oVal (.tmp 24) (kMove (.tmp 2)) (oVal (.tmp 25) (kInt aAdd (.tmp 24) (.con (.int .i64 1))) (oCall (.tmp 26) (.con (.func 8 [] [])) [(.tmp 23),(.tmp 25)] (oVal (.tmp 9) (kMove (.tmp 26)) oNil)))))
def K6r4s7:OpsF:=(oVal (.tmp 34) (kPick (.tmp 29) (.tmp 33) (.con (.bool false))) oNil)
def K6r4s6:OpsF:=(oIf 29 true (oVal (.tmp 33) (kGtr (.tmp 32) (.con (.int .i64 0))) K6r4s7) (oSkip (.tmp 33) K6r4s7))
def K6r4s5:OpsF:=(oIf 29 true (oVal (.tmp 32) (kUn lenSlA (.tmp 31)) K6r4s6) (oSkip (.tmp 32) K6r4s6))
def K6r4s4:OpsF:=(oIf 29 true (oVal (.tmp 31) (kLoad none (.tmp 30)) K6r4s5) (oSkip (.tmp 31) K6r4s5))
def K6r4:OpsF:=(oVal (.tmp 27) (kMove (.tmp 9)) (oVal (.tmp 28) (kGtr (.tmp 27) (.con (.int .i64 0))) (oVal (.tmp 29) (kMove (.tmp 28)) (oIf 29 true (oVal (.tmp 30) (kUn (fadA 2) (.tmp 4)) K6r4s4) (oSkip (.tmp 30) K6r4s4)))))
def K6r5:OpsF:=(oVal (.tmp 37) (kMove (.tmp 0)) (oVal (.tmp 38) (kUn (fadA 2) (.tmp 4)) (oVal (.tmp 39) (kLoad none (.tmp 38)) (oVal (.tmp 40) (kUn lenSlA (.tmp 39)) (oCall (.tmp 41) (.con (.func 8 [] [])) [(.tmp 37),(.tmp 40)] (oVal (.tmp 42) (kMove (.tmp 8)) (oVal (.tmp 43) (kMove (.tmp 0)) (oVal (.tmp 44) (kMove (.tmp 0)) (oCall (.tmp 45) (.con (.func 8 [] [])) [(.tmp 44),(.con (.int .i64 3))] (oVal (.tmp 46) (kBuildSlice [(.int .i64 0),(.int .i64 0)] 2 [(0,1,(.con (.int .i64 0))),(1,1,(.tmp 45))]) (oCall (.tmp 47) (.con (.func 22 [] [])) [(.tmp 43),(.tmp 46)] (oVal (.tmp 48) (kInt aAdd (.tmp 42) (.tmp 47)) (oVal (.tmp 49) (kBuild [(.int .i64 0),(.int .i64 0),(.int .i64 0)] [(0,1,(.tmp 41)),(1,1,(.tmp 48))]) (oVal (.tmp 10) (kAlloc [(.int .i64 0),(.int .i64 0),(.int .i64 0)] (tag 69)) (oVal .none (kStore 3 (.tmp 10) (.tmp 49)) oNil)))))))))))))))
def K6r6:OpsF:=(oEnd [] (oVal (.tmp 50) (kUn (fadA 1) (.tmp 10)) (oVal (.tmp 51) (kLoad none (.tmp 50)) (oVal (.tmp 52) (kMove (.tmp 0)) (oCallT (some [50]) (.tmp 53) (.con (.func 21 [] [])) [(.tmp 52),(.con (.int .i64 1)),(.con (.int .i64 8))] (oVal (.tmp 54) (kInt aAdd (.tmp 51) (.tmp 53)) (oVal (.tmp 55) (kUn (fadA 2) (.tmp 10)) (oVal .none (kStore 1 (.tmp 55) (.tmp 54)) oNil))))))))
def K6r7:OpsF:=(oVal (.tmp 56) (kUn (fadA 2) (.tmp 7)) (oVal (.tmp 57) (kLoad none (.tmp 56)) (oVal (.tmp 58) (kLoad (some 3) (.tmp 10)) (oVal (.tmp 59) (kBuildSlice [(.int .i64 0),(.int .i64 0),(.int .i64 0)] 1 [(0,3,(.tmp 58))]) (oVal (.tmp 60) (kTwo (appendA false 3 24 (tag 69)) (.tmp 57) (.tmp 59)) (oVal (.tmp 61) (kUn (fadA 2) (.tmp 7)) (oVal .none (kStore 1 (.tmp 61) (.tmp 60)) oNil)))))))
def K6r8:OpsF:=(oVal (.tmp 62) (kUn (fadA 2) (.tmp 10)) (oVal (.tmp 63) (kLoad none (.tmp 62)) (oVal (.tmp 8) (kMove (.tmp 63)) oNil)))
def K6r9:OpsF:=(oVal (.tmp 35) (kMove (.tmp 9)) (oVal (.tmp 36) (kInt aSub (.tmp 35) (.con (.int .i64 1))) (oVal (.tmp 9) (kMove (.tmp 36)) oNil)))
def K6l0:K:=(kSeq (kSeq (kRegion K6r4 [34]) (kCond (.tmp 34) kSkip (kExit 0))) (kSeq (kBlock 1 (kSeq (kRegion K6r5 [10]) (kSeq (kRegionD K6r6 []) (kSeq (kRegion K6r7 []) (kRegion K6r8 [8]))))) (kRegion K6r9 [9])))
def K6r10:OpsF:=(oVal (.tmp 64) (kLoad (some 3) (.tmp 7)) (oVal .none (kStore 3 (.tmp 6) (.tmp 64)) oNil))
theorem res6:Try.f6.results.toList=[.cell 6 35]:=by kernel_rfl
def K6:K:=(kSeq (kRegion K6r0 [4,6]) (kSeq (kRegion K6r1 [7]) (kSeq (kRegion K6r2 [8]) (kSeq (kSeq (kRegion K6r3 [9]) (kBlock 0 (kLoop K6l0))) (kSeq (kRegion K6r10 []) kRet)))))
theorem enter6 (cl:CallF) (a0 a1 a2:AV) (s:St):enterA Try.prog X cl 6 [a0,a1,a2] s Try.f6=finA Try.prog Try.f6 (K6 cl ⟨6,none,Try.f6.ntmps,X 6⟩ (paramsEnv 0 [a0,a1,a2] .nil) [] s) :=
  enterA_eq (b:=Try.f6.body.getD .skip) (by kernel_rfl) (by kernel_rfl) (by kernel_rfl) (by kernel_rfl) (by kernel_rfl)
end
end Go.Proofs.Ytlfalcghhckanab.code
set_option maxRecDepth 100000
namespace Go.Proofs.Ytlfalcghhckanab.code
open Go.Abs
noncomputable section
def K12r0:OpsF:=(oVal (.tmp 4) (kAlloc [(.int .i64 0),(.int .i64 0)] (tag 26)) oNil)
def K12r1:OpsF:=(oVal (.tmp 5) (kMove (.tmp 0)) (oVal (.tmp 6) (kMove (.tmp 1)) (oVal (.tmp 7) (kBuild [(.int .i64 0),(.int .i64 0)] [(0,1,(.tmp 5)),(1,1,(.tmp 6))]) (oVal .none (kStore 2 (.tmp 4) (.tmp 7)) oNil))))
theorem res12:Try.f12.results.toList=[.cell 4 26]:=by kernel_rfl
def K12:K:=(kSeq (kRegion K12r0 [4]) (kSeq (kRegion K12r1 []) kRet))
theorem enter12 (cl:CallF) (a0 a1:AV) (s:St):enterA Try.prog X cl 12 [a0,a1] s Try.f12=finA Try.prog Try.f12 (K12 cl ⟨12,none,Try.f12.ntmps,X 12⟩ (paramsEnv 0 [a0,a1] .nil) [] s) :=
  enterA_eq (b:=Try.f12.body.getD .skip) (by kernel_rfl) (by kernel_rfl) (by kernel_rfl) (by kernel_rfl) (by kernel_rfl)
end
end Go.Proofs.Ytlfalcghhckanab.code
set_option maxRecDepth 100000
namespace Go.Proofs.Ytlfalcghhckanab.code
open Go.Abs
noncomputable section
def K7r0:OpsF:=(oVal (.tmp 3) (kBox (tag 35) (.tmp 1)) (oVal (.tmp 4) (kMove (.con (.int .i64 0))) oNil))
def K7r1:OpsF:=(oEnd [] (oVal (.tmp 5) (kUn (fadA 0) (.tmp 3)) (oVal (.tmp 6) (kLoad none (.tmp 5)) (oVal (.tmp 7) (kMove (.tmp 0)) (oVal (.tmp 8) (kMove (.tmp 0)) (oVal (.tmp 9) (kBuildSlice [(.int .i64 0),(.int .i64 0),(.int .i64 0)] 3 [(0,1,(.con (.int .i64 6))),(1,1,(.con (.int .i64 30))),(2,1,(.con (.int .i64 60)))]) (oCallT (some [5]) (.tmp 10) (.con (.func 22 [] [])) [(.tmp 8),(.tmp 9)] (oCallT (some [5]) (.tmp 11) (.con (.func 8 [] [])) [(.tmp 7),(.tmp 10)] (oVal (.tmp 12) (kInt aAdd (.tmp 6) (.tmp 11)) (oVal (.tmp 13) (kFold minA (.con (.int .i64 240)) [(.tmp 12)]) (oVal (.tmp 4) (kMove (.tmp 13)) oNil)))))))))))
theorem res7:Try.f7.results.toList=[.tmp 4]:=by kernel_rfl
def K7:K:=(kSeq (kRegion K7r0 [3,4]) (kSeq (kRegionD K7r1 [4]) kRet))
theorem enter7 (cl:CallF) (a0 a1:AV) (s:St):enterA Try.prog X cl 7 [a0,a1] s Try.f7=finA Try.prog Try.f7 (K7 cl ⟨7,none,Try.f7.ntmps,X 7⟩ (paramsEnv 0 [a0,a1] .nil) [] s) :=
  enterA_eq (b:=Try.f7.body.getD .skip) (by kernel_rfl) (by kernel_rfl) (by kernel_rfl) (by kernel_rfl) (by kernel_rfl)
end
end Go.Proofs.Ytlfalcghhckanab.code
set_option maxRecDepth 100000
namespace Go.Proofs.Ytlfalcghhckanab.code
open Go.Abs
noncomputable section
def K50r0:OpsF:=(oVal (.tmp 6) (kMove (.con (.bool false))) oNil)
def K50r1s7:OpsF:=(oVal (.tmp 14) (kPick (.tmp 10) (.tmp 13) (.con (.bool false))) (oVal (.tmp 6) (kMove (.tmp 14)) oNil))
def K50r1s6:OpsF:=(oIf 10 true (oVal (.tmp 13) (kInt aLeq (.tmp 11) (.tmp 12)) K50r1s7) (oSkip (.tmp 13) K50r1s7))
def K50r1s5:OpsF:=(oIf 10 true (oVal (.tmp 12) (kMove (.tmp 2)) K50r1s6) (oSkip (.tmp 12) K50r1s6))
def K50r1:OpsF:=(oVal (.tmp 7) (kMove (.tmp 0)) (oVal (.tmp 8) (kMove (.tmp 1)) (oVal (.tmp 9) (kInt aGeq (.tmp 7) (.tmp 8)) (oVal (.tmp 10) (kMove (.tmp 9)) (oIf 10 true (oVal (.tmp 11) (kMove (.tmp 0)) K50r1s5) (oSkip (.tmp 11) K50r1s5))))))
theorem res50:Try.f50.results.toList=[.tmp 6]:=by kernel_rfl
def K50:K:=(kSeq (kRegion K50r0 [6]) (kSeq (kRegion K50r1 [6]) kRet))
theorem enter50 (cl:CallF) (a0 a1 a2:AV) (s:St):enterA Try.prog X cl 50 [a0,a1,a2] s Try.f50=finA Try.prog Try.f50 (K50 cl ⟨50,none,Try.f50.ntmps,X 50⟩ (paramsEnv 0 [a0,a1,a2] .nil) [] s) :=
  enterA_eq (b:=Try.f50.body.getD .skip) (by kernel_rfl) (by kernel_rfl) (by kernel_rfl) (by kernel_rfl) (by kernel_rfl)
def K31r0:OpsF:=(oVal (.tmp 2) (kBox (tag 35) (.tmp 0)) (oVal (.tmp 4) (kMove (.con (.int .i64 0))) oNil))
def K31r1:OpsF:=(oVal (.tmp 5) (kMove (.con (.int .i64 0))) oNil)
def K31r2:OpsF:=(oVal (.tmp 6) (kMove (.tmp 5)) (oVal (.tmp 7) (kUn (fadA 2) (.tmp 2)) (oVal (.tmp 8) (kLoad none (.tmp 7)) (oVal (.tmp 9) (kUn lenSlA (.tmp 8)) (oVal (.tmp 10) (kInt aLss (.tmp 6) (.tmp 9)) oNil)))))
def K31r3:OpsF:=(oEnd [] (oVal (.tmp 13) (kMove (.tmp 1)) (oVal (.tmp 14) (kUn (fadA 2) (.tmp 2)) (oVal (.tmp 15) (kLoad none (.tmp 14)) (oVal (.tmp 16) (kMove (.tmp 5)) (oVal (.tmp 17) (kTwo (ixsA 3) (.tmp 15) (.tmp 16)) (oVal (.tmp 18) (kUn (fadA 1) (.tmp 17)) (oVal (.tmp 19) (kLoad none (.tmp 18)) (oVal (.tmp 20) (kUn (fadA 2) (.tmp 2)) (oVal (.tmp 21) (kLoad none (.tmp 20)) (oVal (.tmp 22) (kMove (.tmp 5)) (oVal (.tmp 23) (kTwo (ixsA 3) (.tmp 21) (.tmp 22)) (oVal (.tmp 24) (kUn (fadA 2) (.tmp 23)) (oVal (.tmp 25) (kLoad none (.tmp 24)) (oVal (.tmp 26) (kInt aSub (.tmp 25) (.con (.int .i64 1))) (oCall (.tmp 27) (.con (.func 50 [] [])) [(.tmp 13),(.tmp 19),(.tmp 26)] oNil))))))))))))))))
def K31r4:OpsF:=(oVal (.tmp 28) (kUn (fadA 2) (.tmp 2)) (oVal (.tmp 29) (kLoad none (.tmp 28)) (oVal (.tmp 30) (kMove (.tmp 5)) (oVal (.tmp 31) (kTwo (ixsA 3) (.tmp 29) (.tmp 30)) (oVal (.tmp 32) (kUn (fadA 0) (.tmp 31)) (oVal (.tmp 33) (kLoad none (.tmp 32)) (oVal (.tmp 4) (kMove (.tmp 33)) oNil)))))))
def K31r5:OpsF:=(oVal (.tmp 11) (kMove (.tmp 5)) (oVal (.tmp 12) (kInt aAdd (.tmp 11) (.con (.int .i64 1))) (oVal (.tmp 5) (kMove (.tmp 12)) oNil)))
def K31l0:K:=(kSeq (kSeq (kRegion K31r2 [10]) (kCond (.tmp 10) kSkip (kExit 0))) (kSeq (kBlock 1 (kSeq (kRegionD K31r3 [27]) (kCond (.tmp 27) (kSeq (kRegion K31r4 [4]) kRet) kSkip))) (kRegion K31r5 [5])))
def K31r6:OpsF:=(oVal (.tmp 4) (kMove (.con (.int .i64 (-1)))) oNil)
theorem res31:Try.f31.results.toList=[.tmp 4]:=by kernel_rfl
def K31:K:=(kSeq (kRegion K31r0 [2,4]) (kSeq (kSeq (kRegion K31r1 [5]) (kBlock 0 (kLoop K31l0))) (kSeq (kRegion K31r6 [4]) kRet)))
theorem enter31 (cl:CallF) (a0 a1:AV) (s:St):enterA Try.prog X cl 31 [a0,a1] s Try.f31=finA Try.prog Try.f31 (K31 cl ⟨31,none,Try.f31.ntmps,X 31⟩ (paramsEnv 0 [a0,a1] .nil) [] s) :=
  enterA_eq (b:=Try.f31.body.getD .skip) (by kernel_rfl) (by kernel_rfl) (by kernel_rfl) (by kernel_rfl) (by kernel_rfl)
def K32r0:OpsF:=(oVal (.tmp 2) (kBox (tag 31) (.tmp 0)) (oVal (.tmp 4) (kMove (.con (.int .i64 0))) oNil))
def K32r1:OpsF:=(oVal (.tmp 5) (kMove (.con (.int .i64 0))) oNil)
def K32r2:OpsF:=(oVal (.tmp 6) (kMove (.con (.int .i64 0))) oNil)
def K32r3:OpsF:=(oVal (.tmp 7) (kMove (.tmp 6)) (oVal (.tmp 8) (kUn (fadA 4) (.tmp 2)) (oVal (.tmp 9) (kLoad none (.tmp 8)) (oVal (.tmp 10) (kUn lenSlA (.tmp 9)) (oVal (.tmp 11) (kInt aLss (.tmp 7) (.tmp 10)) oNil)))))
def K32r4:OpsF:=(oVal (.tmp 14) (kUn (fadA 4) (.tmp 2)) (oVal (.tmp 15) (kLoad none (.tmp 14)) (oVal (.tmp 16) (kMove (.tmp 6)) (oVal (.tmp 17) (kTwo (ixsA 2) (.tmp 15) (.tmp 16)) (oVal (.tmp 18) (kUn (fadA 0) (.tmp 17)) (oVal (.tmp 19) (kLoad none (.tmp 18)) (oVal (.tmp 20) (kMove (.tmp 1)) (oVal (.tmp 21) (kInt aLeq (.tmp 19) (.tmp 20)) oNil))))))))
def K32r5:OpsF:=(oVal (.tmp 22) (kUn (fadA 4) (.tmp 2)) (oVal (.tmp 23) (kLoad none (.tmp 22)) (oVal (.tmp 24) (kMove (.tmp 6)) (oVal (.tmp 25) (kTwo (ixsA 2) (.tmp 23) (.tmp 24)) (oVal (.tmp 26) (kUn (fadA 1) (.tmp 25)) (oVal (.tmp 27) (kLoad none (.tmp 26)) (oVal (.tmp 5) (kMove (.tmp 27)) oNil)))))))
def K32r6:OpsF:=(oVal (.tmp 12) (kMove (.tmp 6)) (oVal (.tmp 13) (kInt aAdd (.tmp 12) (.con (.int .i64 1))) (oVal (.tmp 6) (kMove (.tmp 13)) oNil)))
def K32l0:K:=(kSeq (kSeq (kRegion K32r3 [11]) (kCond (.tmp 11) kSkip (kExit 0))) (kSeq (kBlock 1 (kSeq (kRegion K32r4 [21]) (kCond (.tmp 21) (kRegion K32r5 [5]) kSkip))) (kRegion K32r6 [6])))
def K32r7:OpsF:=(oVal (.tmp 28) (kMove (.tmp 5)) (oVal (.tmp 4) (kMove (.tmp 28)) oNil))
theorem res32:Try.f32.results.toList=[.tmp 4]:=by kernel_rfl
def K32:K:=(kSeq (kRegion K32r0 [2,4]) (kSeq (kRegion K32r1 [5]) (kSeq (kSeq (kRegion K32r2 [6]) (kBlock 0 (kLoop K32l0))) (kSeq (kRegion K32r7 [4]) kRet))))
theorem enter32 (cl:CallF) (a0 a1:AV) (s:St):enterA Try.prog X cl 32 [a0,a1] s Try.f32=finA Try.prog Try.f32 (K32 cl ⟨32,none,Try.f32.ntmps,X 32⟩ (paramsEnv 0 [a0,a1] .nil) [] s) :=
  enterA_eq (b:=Try.f32.body.getD .skip) (by kernel_rfl) (by kernel_rfl) (by kernel_rfl) (by kernel_rfl) (by kernel_rfl)
def K18r0:OpsF:=(oVal (.tmp 5) (kBox (tag 31) (.tmp 0)) (oVal (.tmp 10) (kMove (.con (.int .i64 0))) oNil))
def K18r1:OpsF:=(oVal (.tmp 15) (kUn (fadA 2) (.tmp 5)) (oVal (.tmp 16) (kLoad none (.tmp 15)) (oVal (.tmp 17) (kMove (.tmp 1)) (oVal (.tmp 18) (kTwo (ixsA 9) (.tmp 16) (.tmp 17)) (oVal (.tmp 19) (kUn (fadA 0) (.tmp 18)) (oVal (.tmp 20) (kLoad none (.tmp 19)) (oVal (.tmp 11) (kMove (.tmp 20)) oNil)))))))
def K18r2:OpsF:=(oVal (.tmp 12) (kMove (.con (.int .i64 0))) oNil)
def K18r3:OpsF:=(oVal (.tmp 13) (kMove (.con (.int .i64 0))) oNil)
def K18r4:OpsF:=(oVal (.tmp 23) (kMove (.tmp 13)) (oVal (.tmp 24) (kUn (fadA 3) (.tmp 5)) (oVal (.tmp 25) (kLoad none (.tmp 24)) (oVal (.tmp 26) (kUn lenSlA (.tmp 25)) (oVal (.tmp 27) (kInt aLss (.tmp 23) (.tmp 26)) oNil)))))
def K18r5:OpsF:=(oVal (.tmp 30) (kUn (fadA 3) (.tmp 5)) (oVal (.tmp 31) (kLoad none (.tmp 30)) (oVal (.tmp 32) (kMove (.tmp 13)) (oVal (.tmp 33) (kTwo (ixsA 3) (.tmp 31) (.tmp 32)) (oVal (.tmp 34) (kLoad (some 3) (.tmp 33)) (oVal (.tmp 14) (kAlloc [(.int .i64 0),(.int .i64 0),(.int .i64 0)] (tag 65)) (oVal .none (kStore 3 (.tmp 14) (.tmp 34)) oNil)))))))
def K18r6s9:OpsF:=(oVal (.tmp 44) (kPick (.tmp 39) (.tmp 43) (.con (.bool false))) oNil)
def K18r6s8:OpsF:=(oIf 39 true (oVal (.tmp 43) (kInt aEql (.tmp 41) (.tmp 42)) K18r6s9) (oSkip (.tmp 43) K18r6s9))
def K18r6s7:OpsF:=(oIf 39 true (oVal (.tmp 42) (kMove (.tmp 12)) K18r6s8) (oSkip (.tmp 42) K18r6s8))
def K18r6s6:OpsF:=(oIf 39 true (oVal (.tmp 41) (kLoad none (.tmp 40)) K18r6s7) (oSkip (.tmp 41) K18r6s7))
def K18r6:OpsF:=(oVal (.tmp 35) (kUn (fadA 0) (.tmp 14)) (oVal (.tmp 36) (kLoad none (.tmp 35)) (oVal (.tmp 37) (kMove (.tmp 1)) (oVal (.tmp 38) (kInt aEql (.tmp 36) (.tmp 37)) (oVal (.tmp 39) (kMove (.tmp 38)) (oIf 39 true (oVal (.tmp 40) (kUn (fadA 1) (.tmp 14)) K18r6s6) (oSkip (.tmp 40) K18r6s6)))))))
def K18r7:OpsF:=(oVal (.tmp 45) (kMove (.tmp 11)) (oVal (.tmp 46) (kMove (.tmp 2)) (oVal (.tmp 47) (kUn (fadA 2) (.tmp 14)) (oVal (.tmp 48) (kLoad none (.tmp 47)) (oVal (.tmp 49) (kInt aAdd (.tmp 46) (.tmp 48)) (oVal (.tmp 50) (kFold minA (.tmp 45) [(.tmp 49)]) (oVal (.tmp 2) (kMove (.tmp 50)) oNil)))))))
def K18r8:OpsF:=(oVal (.tmp 28) (kMove (.tmp 13)) (oVal (.tmp 29) (kInt aAdd (.tmp 28) (.con (.int .i64 1))) (oVal (.tmp 13) (kMove (.tmp 29)) oNil)))
def K18l0:K:=(kSeq (kSeq (kRegion K18r4 [27]) (kCond (.tmp 27) kSkip (kExit 2))) (kSeq (kBlock 3 (kSeq (kRegion K18r5 [14]) (kSeq (kRegion K18r6 [44]) (kCond (.tmp 44) (kRegion K18r7 [2]) kSkip)))) (kRegion K18r8 [13])))
def K18r9:OpsF:=(oVal (.tmp 51) (kMove (.tmp 12)) (oVal (.tmp 52) (kMove (.tmp 4)) (oVal (.tmp 53) (kInt aEql (.tmp 51) (.tmp 52)) oNil)))
def K18r10:OpsF:=(oVal (.tmp 54) (kMove (.tmp 2)) (oVal (.tmp 10) (kMove (.tmp 54)) oNil))
def K18r11:OpsF:=(oVal (.tmp 55) (kMove (.tmp 2)) (oVal (.tmp 56) (kMove (.tmp 3)) (oVal (.tmp 57) (kMove (.tmp 12)) (oVal (.tmp 58) (kTwo (ixsA 1) (.tmp 56) (.tmp 57)) (oVal (.tmp 59) (kLoad none (.tmp 58)) (oVal (.tmp 60) (kInt aSub (.tmp 55) (.tmp 59)) (oVal (.tmp 61) (kFold maxA (.con (.int .i64 0)) [(.tmp 60)]) (oVal (.tmp 2) (kMove (.tmp 61)) oNil))))))))
def K18r12:OpsF:=(oVal (.tmp 21) (kMove (.tmp 12)) (oVal (.tmp 22) (kInt aAdd (.tmp 21) (.con (.int .i64 1))) (oVal (.tmp 12) (kMove (.tmp 22)) oNil)))
def K18l1:K:=(kSeq (kBlock 1 (kSeq (kSeq (kRegion K18r3 [13]) (kBlock 2 (kLoop K18l0))) (kSeq (kSeq (kRegion K18r9 [53]) (kCond (.tmp 53) (kSeq (kRegion K18r10 [10]) kRet) kSkip)) (kRegion K18r11 [2])))) (kRegion K18r12 [12]))
theorem res18:Try.f18.results.toList=[.tmp 10]:=by kernel_rfl
def K18:K:=(kSeq (kRegion K18r0 [5,10]) (kSeq (kRegion K18r1 [11]) (kSeq (kRegion K18r2 [12]) (kBlock 0 (kLoop K18l1)))))
theorem enter18 (cl:CallF) (a0 a1 a2 a3 a4:AV) (s:St):enterA Try.prog X cl 18 [a0,a1,a2,a3,a4] s Try.f18=finA Try.prog Try.f18 (K18 cl ⟨18,none,Try.f18.ntmps,X 18⟩ (paramsEnv 0 [a0,a1,a2,a3,a4] .nil) [] s) :=
  enterA_eq (b:=Try.f18.body.getD .skip) (by kernel_rfl) (by kernel_rfl) (by kernel_rfl) (by kernel_rfl) (by kernel_rfl)
def K13r0:OpsF:=(oVal (.tmp 4) (kBox (tag 31) (.tmp 0)) (oVal (.tmp 5) (kBox (tag 35) (.tmp 1)) (oVal (.tmp 6) (kBox (tag 41) (.tmp 2)) (oVal (.tmp 8) (kMove (.con (.int .i64 0))) oNil))))
def K13r1:OpsF:=(oVal (.tmp 9) (kMove (.con (.int .i64 0))) oNil)
def K13r2:OpsF:=(oVal (.tmp 13) (kUn (fadA 0) (.tmp 5)) (oVal (.tmp 14) (kLoad none (.tmp 13)) (oVal (.tmp 10) (kMove (.tmp 14)) oNil)))
def K13r3:OpsF:=(oVal (.tmp 15) (kMove (.tmp 10)) (oVal (.tmp 16) (kMove (.tmp 3)) (oVal (.tmp 17) (kInt aLss (.tmp 15) (.tmp 16)) oNil)))
def K13r4:OpsF:=(oVal (.tmp 20) (kLoad (some 3) (.tmp 5)) (oVal (.tmp 21) (kMove (.tmp 10)) (oCall (.tmp 22) (.con (.func 31 [] [])) [(.tmp 20),(.tmp 21)] (oVal (.tmp 11) (kMove (.tmp 22)) oNil))))
def K13r5:OpsF:=(oVal (.tmp 23) (kUn (fadA 4) (.tmp 6)) (oVal (.tmp 24) (kLoad none (.tmp 23)) (oVal (.tmp 25) (kMove (.tmp 10)) (oVal (.tmp 26) (kTwo (ixsA 1) (.tmp 24) (.tmp 25)) (oVal (.tmp 27) (kLoad none (.tmp 26)) (oVal (.tmp 12) (kMove (.tmp 27)) oNil))))))
def K13r6:OpsF:=(oVal (.tmp 28) (kMove (.tmp 11)) (oVal (.tmp 29) (kInt aGeq (.tmp 28) (.con (.int .i64 0))) oNil))
def K13r7:OpsF:=(oVal (.tmp 30) (kUn (fadA 3) (.tmp 6)) (oVal (.tmp 31) (kLoad none (.tmp 30)) (oVal (.tmp 32) (kMove (.tmp 11)) (oVal (.tmp 33) (kTwo (ixsA 1) (.tmp 31) (.tmp 32)) (oVal (.tmp 34) (kLoad none (.tmp 33)) (oVal (.tmp 35) (kMove (.tmp 10)) (oVal (.tmp 36) (kTwo (ixsA 1) (.tmp 34) (.tmp 35)) (oVal (.tmp 37) (kLoad none (.tmp 36)) (oVal (.tmp 12) (kMove (.tmp 37)) oNil)))))))))
def K13r8:OpsF:=(oEnd [] (oVal (.tmp 38) (kLoad (some 5) (.tmp 4)) (oVal (.tmp 39) (kMove (.tmp 11)) (oVal (.tmp 40) (kUn (fadA 0) (.tmp 6)) (oVal (.tmp 41) (kLoad none (.tmp 40)) (oVal (.tmp 42) (kMove (.tmp 11)) (oVal (.tmp 43) (kTwo (ixsA 1) (.tmp 41) (.tmp 42)) (oVal (.tmp 44) (kLoad none (.tmp 43)) (oVal (.tmp 45) (kUn (fadA 1) (.tmp 6)) (oVal (.tmp 46) (kLoad none (.tmp 45)) (oVal (.tmp 47) (kMove (.tmp 11)) (oVal (.tmp 48) (kTwo (ixsA 1) (.tmp 46) (.tmp 47)) (oVal (.tmp 49) (kLoad none (.tmp 48)) (oVal (.tmp 50) (kMove (.tmp 10)) (oCall (.tmp 51) (.con (.func 18 [] [])) [(.tmp 38),(.tmp 39),(.tmp 44),(.tmp 49),(.tmp 50)] (oVal (.tmp 52) (kGtr (.tmp 51) (.con (.int .i64 0))) oNil))))))))))))))))
def K13r9:OpsF:=(oVal (.tmp 53) (kUn (fadA 2) (.tmp 6)) (oVal (.tmp 54) (kLoad none (.tmp 53)) (oVal (.tmp 55) (kMove (.tmp 11)) (oVal (.tmp 56) (kTwo (ixsA 1) (.tmp 54) (.tmp 55)) (oVal (.tmp 57) (kLoad none (.tmp 56)) (oVal (.tmp 58) (kMove (.tmp 10)) (oVal (.tmp 59) (kTwo (ixsA 1) (.tmp 57) (.tmp 58)) (oVal (.tmp 60) (kLoad none (.tmp 59)) (oVal (.tmp 12) (kMove (.tmp 60)) oNil)))))))))
def K13r10:OpsF:=(oVal (.tmp 61) (kMove (.tmp 9)) (oVal (.tmp 62) (kLoad (some 5) (.tmp 4)) (oVal (.tmp 63) (kMove (.tmp 12)) (oCall (.tmp 64) (.con (.func 32 [] [])) [(.tmp 62),(.tmp 63)] (oVal (.tmp 65) (kInt aAdd (.tmp 61) (.tmp 64)) (oVal (.tmp 9) (kMove (.tmp 65)) oNil))))))
def K13r11:OpsF:=(oVal (.tmp 18) (kMove (.tmp 10)) (oVal (.tmp 19) (kInt aAdd (.tmp 18) (.con (.int .i64 1))) (oVal (.tmp 10) (kMove (.tmp 19)) oNil)))
def K13l0:K:=(kSeq (kSeq (kRegion K13r3 [17]) (kCond (.tmp 17) kSkip (kExit 0))) (kSeq (kBlock 1 (kSeq (kRegion K13r4 [11]) (kSeq (kRegion K13r5 [12]) (kSeq (kSeq (kRegion K13r6 [29]) (kCond (.tmp 29) (kSeq (kRegion K13r7 [12]) (kSeq (kRegionD K13r8 [52]) (kCond (.tmp 52) (kRegion K13r9 [12]) kSkip))) kSkip)) (kRegion K13r10 [9]))))) (kRegion K13r11 [10])))
def K13r12:OpsF:=(oVal (.tmp 66) (kMove (.tmp 9)) (oVal (.tmp 8) (kMove (.tmp 66)) oNil))
theorem res13:Try.f13.results.toList=[.tmp 8]:=by kernel_rfl
def K13:K:=(kSeq (kRegion K13r0 [4,5,6,8]) (kSeq (kRegion K13r1 [9]) (kSeq (kSeq (kRegion K13r2 [10]) (kBlock 0 (kLoop K13l0))) (kSeq (kRegion K13r12 [8]) kRet))))
theorem enter13 (cl:CallF) (a0 a1 a2 a3:AV) (s:St):enterA Try.prog X cl 13 [a0,a1,a2,a3] s Try.f13=finA Try.prog Try.f13 (K13 cl ⟨13,none,Try.f13.ntmps,X 13⟩ (paramsEnv 0 [a0,a1,a2,a3] .nil) [] s) :=
  enterA_eq (b:=Try.f13.body.getD .skip) (by kernel_rfl) (by kernel_rfl) (by kernel_rfl) (by kernel_rfl) (by kernel_rfl)
def K23r0:OpsF:=(oVal (.tmp 2) (kBox (tag 26) (.tmp 0)) (oVal (.tmp 4) (kMove (.con (.int .i64 0))) oNil))
def K23r1:OpsF:=(oVal (.tmp 5) (kMove (.tmp 1)) oNil)
def K23r2:OpsF:=(oVal (.tmp 6) (kUn (fadA 0) (.tmp 2)) (oVal (.tmp 7) (kLoad none (.tmp 6)) (oVal (.tmp 4) (kMove (.tmp 7)) oNil)))
def K23r3:OpsF:=(oVal (.tmp 8) (kUn (fadA 1) (.tmp 2)) (oVal (.tmp 9) (kLoad none (.tmp 8)) (oVal (.tmp 4) (kMove (.tmp 9)) oNil)))
theorem res23:Try.f23.results.toList=[.tmp 4]:=by kernel_rfl
def K23:K:=(kSeq (kRegion K23r0 [2,4]) (kSeq (kSeq (kRegion K23r1 [5]) (kCond (.tmp 5) (kSeq (kRegion K23r2 [4]) kRet) kSkip)) (kSeq (kRegion K23r3 [4]) kRet)))
theorem enter23 (cl:CallF) (a0 a1:AV) (s:St):enterA Try.prog X cl 23 [a0,a1] s Try.f23=finA Try.prog Try.f23 (K23 cl ⟨23,none,Try.f23.ntmps,X 23⟩ (paramsEnv 0 [a0,a1] .nil) [] s) :=
  enterA_eq (b:=Try.f23.body.getD .skip) (by kernel_rfl) (by kernel_rfl) (by kernel_rfl) (by kernel_rfl) (by kernel_rfl)
def K9r0:OpsF:=(oVal (.tmp 3) (kBox (tag 31) (.tmp 0)) (oVal (.tmp 6) (kAlloc [.nilslice,.nilslice,.nilslice,.nilslice,.nilslice] (tag 41)) oNil))
def K9r1:OpsF:=(oVal (.tmp 15) (kBuild [.nilslice,.nilslice,.nilslice,.nilslice,.nilslice] []) (oVal (.tmp 7) (kAlloc [.nilslice,.nilslice,.nilslice,.nilslice,.nilslice] (tag 41)) (oVal .none (kStore 5 (.tmp 7) (.tmp 15)) oNil)))
def K9r2:OpsF:=(oVal (.tmp 8) (kMove (.con (.int .i64 0))) oNil)
def K9r3:OpsF:=(oVal (.tmp 16) (kMove (.tmp 8)) (oVal (.tmp 17) (kMove (.tmp 1)) (oVal (.tmp 18) (kInt aLss (.tmp 16) (.tmp 17)) oNil)))
def K9r4:OpsF:=(oEnd [] (oVal (.tmp 21) (kUn (fadA 4) (.tmp 7)) (oVal (.tmp 22) (kLoad none (.tmp 21)) (oVal (.tmp 23) (kUn (fadA 0) (.tmp 3)) (oVal (.tmp 24) (kLoad (some 2) (.tmp 23)) (oVal (.tmp 25) (kMove (.tmp 2)) (oCallT (some [21]) (.tmp 26) (.con (.func 23 [] [])) [(.tmp 24),(.tmp 25)] (oVal (.tmp 27) (kBuildSlice [(.int .i64 0)] 1 [(0,1,(.tmp 26))]) (oVal (.tmp 28) (kTwo (appendA false 1 8 (tag 3)) (.tmp 22) (.tmp 27)) (oVal (.tmp 29) (kUn (fadA 4) (.tmp 7)) (oVal .none (kStore 1 (.tmp 29) (.tmp 28)) oNil)))))))))))
def K9r5:OpsF:=(oVal (.tmp 19) (kMove (.tmp 8)) (oVal (.tmp 20) (kInt aAdd (.tmp 19) (.con (.int .i64 1))) (oVal (.tmp 8) (kMove (.tmp 20)) oNil)))
def K9l0:K:=(kSeq (kSeq (kRegion K9r3 [18]) (kCond (.tmp 18) kSkip (kExit 0))) (kSeq (kBlock 1 (kRegionD K9r4 [])) (kRegion K9r5 [8])))
def K9r6:OpsF:=(oVal (.tmp 9) (kMove (.con (.int .i64 0))) oNil)
def K9r7:OpsF:=(oVal (.tmp 30) (kMove (.tmp 9)) (oVal (.tmp 31) (kUn (fadA 2) (.tmp 3)) (oVal (.tmp 32) (kLoad none (.tmp 31)) (oVal (.tmp 33) (kUn lenSlA (.tmp 32)) (oVal (.tmp 34) (kInt aLss (.tmp 30) (.tmp 33)) oNil)))))
def K9r8:OpsF:=(oVal (.tmp 37) (kUn (fadA 2) (.tmp 3)) (oVal (.tmp 38) (kLoad none (.tmp 37)) (oVal (.tmp 39) (kMove (.tmp 9)) (oVal (.tmp 40) (kTwo (ixsA 9) (.tmp 38) (.tmp 39)) (oVal (.tmp 41) (kLoad (some 9) (.tmp 40)) (oVal (.tmp 10) (kAlloc [(.int .i64 0),(.int .i64 0),(.int .i64 0),(.int .i64 0),(.int .i64 0),(.int .i64 0),(.int .i64 0),(.int .i64 0),(.int .i64 0)] (tag 63)) (oVal .none (kStore 9 (.tmp 10) (.tmp 41)) oNil)))))))
def K9r9:OpsF:=(oEnd [] (oVal (.tmp 42) (kUn (fadA 0) (.tmp 7)) (oVal (.tmp 43) (kLoad none (.tmp 42)) (oVal (.tmp 44) (kUn (fadA 1) (.tmp 10)) (oVal (.tmp 45) (kLoad (some 2) (.tmp 44)) (oVal (.tmp 46) (kMove (.tmp 2)) (oVal (.tmp 47) (kUn notA (.tmp 46)) (oCallT (some [42]) (.tmp 48) (.con (.func 23 [] [])) [(.tmp 45),(.tmp 47)] (oVal (.tmp 49) (kBuildSlice [(.int .i64 0)] 1 [(0,1,(.tmp 48))]) (oVal (.tmp 50) (kTwo (appendA false 1 8 (tag 3)) (.tmp 43) (.tmp 49)) (oVal (.tmp 51) (kUn (fadA 0) (.tmp 7)) (oVal .none (kStore 1 (.tmp 51) (.tmp 50)) oNil))))))))))))
def K9r10:OpsF:=(oVal (.tmp 11) (kMove (.con .nilslice)) (oVal (.tmp 12) (kMove (.con .nilslice)) (oVal (.tmp 13) (kMove (.con .nilslice)) oNil)))
def K9r11:OpsF:=(oVal (.tmp 14) (kMove (.con (.int .i64 0))) oNil)
def K9r12:OpsF:=(oVal (.tmp 52) (kMove (.tmp 14)) (oVal (.tmp 53) (kMove (.tmp 1)) (oVal (.tmp 54) (kInt aLss (.tmp 52) (.tmp 53)) oNil)))
def K9r13:OpsF:=(oEnd [(57,65),(57,72),(64,72)] (oVal (.tmp 57) (kMove (.tmp 11)) (oVal (.tmp 58) (kUn (fadA 3) (.tmp 10)) (oVal (.tmp 59) (kLoad (some 2) (.tmp 58)) (oVal (.tmp 60) (kMove (.tmp 2)) (oCallT (some [65,72]) (.tmp 61) (.con (.func 23 [] [])) [(.tmp 59),(.tmp 60)] (oVal (.tmp 62) (kBuildSlice [(.int .i64 0)] 1 [(0,1,(.tmp 61))]) (oVal (.tmp 63) (kTwo (appendA false 1 8 (tag 3)) (.tmp 57) (.tmp 62)) (oVal (.tmp 64) (kMove (.tmp 12)) (oVal (.tmp 65) (kUn (fadA 5) (.tmp 10)) (oVal (.tmp 66) (kLoad (some 2) (.tmp 65)) (oVal (.tmp 67) (kMove (.tmp 2)) (oCallT (some [72]) (.tmp 68) (.con (.func 23 [] [])) [(.tmp 66),(.tmp 67)] (oVal (.tmp 69) (kBuildSlice [(.int .i64 0)] 1 [(0,1,(.tmp 68))]) (oVal (.tmp 70) (kTwo (appendA false 1 8 (tag 3)) (.tmp 64) (.tmp 69)) (oVal (.tmp 71) (kMove (.tmp 13)) (oVal (.tmp 72) (kUn (fadA 7) (.tmp 10)) (oVal (.tmp 73) (kLoad (some 2) (.tmp 72)) (oVal (.tmp 74) (kMove (.tmp 2)) (oCall (.tmp 75) (.con (.func 23 [] [])) [(.tmp 73),(.tmp 74)] (oVal (.tmp 76) (kBuildSlice [(.int .i64 0)] 1 [(0,1,(.tmp 75))]) (oVal (.tmp 77) (kTwo (appendA false 1 8 (tag 3)) (.tmp 71) (.tmp 76)) (oVal (.tmp 11) (kMove (.tmp 63)) (oVal (.tmp 12) (kMove (.tmp 70)) (oVal (.tmp 13) (kMove (.tmp 77)) oNil)))))))))))))))))))))))))
def K9r14:OpsF:=(oVal (.tmp 55) (kMove (.tmp 14)) (oVal (.tmp 56) (kInt aAdd (.tmp 55) (.con (.int .i64 1))) (oVal (.tmp 14) (kMove (.tmp 56)) oNil)))
def K9l1:K:=(kSeq (kSeq (kRegion K9r12 [54]) (kCond (.tmp 54) kSkip (kExit 4))) (kSeq (kBlock 5 (kRegionD K9r13 [11,12,13])) (kRegion K9r14 [14])))
def K9r15:OpsF:=(oEnd [(79,83),(79,88),(84,88)] (oVal (.tmp 78) (kUn (fadA 1) (.tmp 7)) (oVal (.tmp 79) (kLoad none (.tmp 78)) (oVal (.tmp 80) (kMove (.tmp 11)) (oVal (.tmp 81) (kBuildSlice [.nilslice] 1 [(0,1,(.tmp 80))]) (oVal (.tmp 82) (kTwo (appendA false 1 24 (tag 22)) (.tmp 79) (.tmp 81)) (oVal (.tmp 83) (kUn (fadA 2) (.tmp 7)) (oVal (.tmp 84) (kLoad none (.tmp 83)) (oVal (.tmp 85) (kMove (.tmp 12)) (oVal (.tmp 86) (kBuildSlice [.nilslice] 1 [(0,1,(.tmp 85))]) (oVal (.tmp 87) (kTwo (appendA false 1 24 (tag 22)) (.tmp 84) (.tmp 86)) (oVal (.tmp 88) (kUn (fadA 3) (.tmp 7)) (oVal (.tmp 89) (kLoad none (.tmp 88)) (oVal (.tmp 90) (kMove (.tmp 13)) (oVal (.tmp 91) (kBuildSlice [.nilslice] 1 [(0,1,(.tmp 90))]) (oVal (.tmp 92) (kTwo (appendA false 1 24 (tag 22)) (.tmp 89) (.tmp 91)) (oVal (.tmp 93) (kUn (fadA 1) (.tmp 7)) (oVal .none (kStore 1 (.tmp 93) (.tmp 82)) (oVal (.tmp 94) (kUn (fadA 2) (.tmp 7)) (oVal .none (kStore 1 (.tmp 94) (.tmp 87)) (oVal (.tmp 95) (kUn (fadA 3) (.tmp 7)) (oVal .none (kStore 1 (.tmp 95) (.tmp 92)) oNil))))))))))))))))))))))
def K9r16:OpsF:=(oVal (.tmp 35) (kMove (.tmp 9)) (oVal (.tmp 36) (kInt aAdd (.tmp 35) (.con (.int .i64 1))) (oVal (.tmp 9) (kMove (.tmp 36)) oNil)))
def K9l2:K:=(kSeq (kSeq (kRegion K9r7 [34]) (kCond (.tmp 34) kSkip (kExit 2))) (kSeq (kBlock 3 (kSeq (kRegion K9r8 [10]) (kSeq (kRegionD K9r9 []) (kSeq (kRegion K9r10 [11,12,13]) (kSeq (kSeq (kRegion K9r11 [14]) (kBlock 4 (kLoop K9l1))) (kRegionD K9r15 [])))))) (kRegion K9r16 [9])))
def K9r17:OpsF:=(oVal (.tmp 96) (kLoad (some 5) (.tmp 7)) (oVal .none (kStore 5 (.tmp 6) (.tmp 96)) oNil))
theorem res9:Try.f9.results.toList=[.cell 6 41]:=by kernel_rfl
def K9:K:=(kSeq (kRegion K9r0 [3,6]) (kSeq (kRegion K9r1 [7]) (kSeq (kSeq (kRegion K9r2 [8]) (kBlock 0 (kLoop K9l0))) (kSeq (kSeq (kRegion K9r6 [9]) (kBlock 2 (kLoop K9l2))) (kSeq (kRegion K9r17 []) kRet)))))
theorem enter9 (cl:CallF) (a0 a1 a2:AV) (s:St):enterA Try.prog X cl 9 [a0,a1,a2] s Try.f9=finA Try.prog Try.f9 (K9 cl ⟨9,none,Try.f9.ntmps,X 9⟩ (paramsEnv 0 [a0,a1,a2] .nil) [] s) :=
  enterA_eq (b:=Try.f9.body.getD .skip) (by kernel_rfl) (by kernel_rfl) (by kernel_rfl) (by kernel_rfl) (by kernel_rfl)
def K14r0:OpsF:=(oVal (.tmp 4) (kMove (.con (.int .i64 0))) oNil)
def K14r1:OpsF:=(oVal (.tmp 6) (kMove (.tmp 0)) (oVal (.tmp 5) (kMove (.tmp 6)) oNil))
def K14r2:OpsF:=(oVal (.tmp 4) (kMove (.con (.int .i64 1))) oNil)
def K14r3:OpsF:=(oVal (.tmp 8) (kMove (.tmp 1)) (oVal (.tmp 9) (kUn notA (.tmp 8)) (oVal (.tmp 7) (kMove (.tmp 9)) oNil)))
def K14r4:OpsF:=(oVal (.tmp 4) (kMove (.con (.int .i64 2))) oNil)
def K14r5:OpsF:=(oVal (.tmp 4) (kMove (.con (.int .i64 3))) oNil)
theorem res14:Try.f14.results.toList=[.tmp 4]:=by kernel_rfl
def K14:K:=(kSeq (kRegion K14r0 [4]) (kSeq (kBlock 0 (kSeq (kRegion K14r1 [5]) (kCond (.tmp 5) (kSeq (kRegion K14r2 [4]) kRet) (kSeq (kRegion K14r3 [7]) (kCond (.tmp 7) (kSeq (kRegion K14r4 [4]) kRet) kSkip))))) (kSeq (kRegion K14r5 [4]) kRet)))
theorem enter14 (cl:CallF) (a0 a1:AV) (s:St):enterA Try.prog X cl 14 [a0,a1] s Try.f14=finA Try.prog Try.f14 (K14 cl ⟨14,none,Try.f14.ntmps,X 14⟩ (paramsEnv 0 [a0,a1] .nil) [] s) :=
  enterA_eq (b:=Try.f14.body.getD .skip) (by kernel_rfl) (by kernel_rfl) (by kernel_rfl) (by kernel_rfl) (by kernel_rfl)
end
end Go.Proofs.Ytlfalcghhckanab.code
set_option maxRecDepth 100000
namespace Go.Proofs.Ytlfalcghhckanab.code
open Go.Abs
noncomputable section
def K3r2:OpsF:=(oVal (.tmp 22) (kMove (.tmp 3)) (oCall (.tmp 23) (.con (.func 5 [] [])) [(.tmp 22),(.con (.int .i64 3)),(.con (.int .i64 5))] (oVal (.tmp 4) (kAlloc [(.int .i64 0),(.int .i64 0),.nilslice,.nilslice,.nilslice] (tag 31)) (oVal .none (kStore 5 (.tmp 4) (.tmp 23)) oNil))))
def K3r3:OpsF:=(oVal (.tmp 24) (kMove (.tmp 3)) (oVal (.tmp 25) (kLoad (some 5) (.tmp 4)) (oCall (.tmp 26) (.con (.func 6 [] [])) [(.tmp 24),(.tmp 25),(.con (.int .i64 4))] (oVal (.tmp 5) (kAlloc [(.int .i64 0),(.int .i64 0),.nilslice] (tag 35)) (oVal .none (kStore 3 (.tmp 5) (.tmp 26)) oNil)))))
def K3r4:OpsF:=(oEnd [] (oVal (.tmp 27) (kMove (.tmp 3)) (oVal (.tmp 28) (kLoad (some 3) (.tmp 5)) (oCallT (some [32,33]) (.tmp 29) (.con (.func 7 [] [])) [(.tmp 27),(.tmp 28)] (oVal (.tmp 30) (kFold minA (.con (.int .i64 50)) [(.tmp 29)]) (oVal (.tmp 31) (kMove (.tmp 3)) (oVal (.tmp 32) (kUn (fadA 2) (.tmp 4)) (oVal (.tmp 33) (kLoad none (.tmp 32)) (oVal (.tmp 34) (kUn lenSlA (.tmp 33)) (oCall (.tmp 35) (.con (.func 8 [] [])) [(.tmp 31),(.tmp 34)] (oVal (.tmp 6) (kMove (.tmp 30)) (oVal (.tmp 7) (kMove (.tmp 35)) oNil))))))))))))
def K3r5:OpsF:=(oEnd [] (oVal (.tmp 36) (kLoad (some 5) (.tmp 4)) (oCallT (some [4]) (.tmp 37) (.con (.func 9 [] [])) [(.tmp 36),(.con (.int .i64 51)),(.con (.bool true))] (oVal (.tmp 38) (kLoad (some 5) (.tmp 4)) (oCall (.tmp 39) (.con (.func 9 [] [])) [(.tmp 38),(.con (.int .i64 51)),(.con (.bool false))] (oVal (.tmp 8) (kAlloc [.nilslice,.nilslice,.nilslice,.nilslice,.nilslice] (tag 41)) (oVal (.tmp 9) (kAlloc [.nilslice,.nilslice,.nilslice,.nilslice,.nilslice] (tag 41)) (oVal .none (kStore 5 (.tmp 8) (.tmp 37)) (oVal .none (kStore 5 (.tmp 9) (.tmp 39)) oNil)))))))))
def K3r6:OpsF:=(oVal (.tmp 41) (kLoad (some 5) (.tmp 4)) (oVal (.tmp 42) (kLoad (some 3) (.tmp 5)) (oVal (.tmp 43) (kMove (.tmp 6)) (oCall (.tmp 44) (.con (.func 10 [] [])) [(.tmp 41),(.tmp 42),(.tmp 43)] (oVal (.tmp 40) (kMove (.tmp 44)) (oVal (.tmp 45) (kUn (extA 0) (.tmp 40)) (oVal (.tmp 46) (kUn (extA 1) (.tmp 40)) (oVal (.tmp 10) (kAlloc [(.int .i64 0),(.int .i64 0)] (tag 26)) (oVal .none (kStore 2 (.tmp 10) (.tmp 45)) (oVal (.tmp 11) (kMove (.tmp 46)) oNil))))))))))
def K3r7:OpsF:=(oVal (.tmp 48) (kLoad (some 5) (.tmp 4)) (oVal (.tmp 49) (kLoad (some 3) (.tmp 5)) (oVal (.tmp 50) (kMove (.tmp 6)) (oCall (.tmp 51) (.con (.func 11 [] [])) [(.tmp 48),(.tmp 49),(.tmp 50)] (oVal (.tmp 47) (kMove (.tmp 51)) (oVal (.tmp 52) (kUn (extA 0) (.tmp 47)) (oVal (.tmp 53) (kUn (extA 1) (.tmp 47)) (oVal (.tmp 12) (kMove (.tmp 52)) (oVal (.tmp 13) (kMove (.tmp 53)) oNil)))))))))
def K3r8:OpsF:=(oEnd [] (oVal (.tmp 54) (kLoad (some 5) (.tmp 4)) (oVal (.tmp 55) (kLoad (some 3) (.tmp 5)) (oVal (.tmp 56) (kLoad (some 5) (.tmp 8)) (oVal (.tmp 57) (kMove (.tmp 6)) (oCallT (some [4,5,9]) (.tmp 58) (.con (.func 13 [] [])) [(.tmp 54),(.tmp 55),(.tmp 56),(.tmp 57)] (oVal (.tmp 59) (kLoad (some 5) (.tmp 4)) (oVal (.tmp 60) (kLoad (some 3) (.tmp 5)) (oVal (.tmp 61) (kLoad (some 5) (.tmp 9)) (oVal (.tmp 62) (kMove (.tmp 6)) (oCall (.tmp 63) (.con (.func 13 [] [])) [(.tmp 59),(.tmp 60),(.tmp 61),(.tmp 62)] (oCall (.tmp 64) (.con (.func 12 [] [])) [(.tmp 58),(.tmp 63)] (oVal (.tmp 14) (kAlloc [(.int .i64 0),(.int .i64 0)] (tag 26)) (oVal .none (kStore 2 (.tmp 14) (.tmp 64)) oNil))))))))))))))
def K3r9s25:OpsF:=(oVal (.tmp 90) (kPick (.tmp 76) (.con (.bool true)) (.tmp 89)) oNil)
def K3r9s24:OpsF:=(oIf 76 false (oVal (.tmp 89) (kInt aNeq (.tmp 77) (.tmp 88)) K3r9s25) (oSkip (.tmp 89) K3r9s25))
def K3r9s23:OpsF:=(oIf 76 false (oCall (.tmp 88) (.con (.func 14 [] [])) [(.tmp 82),(.tmp 87)] K3r9s24) (oSkip (.tmp 88) K3r9s24))
def K3r9s22:OpsF:=(oIf 76 false (oVal (.tmp 87) (kInt aLeq (.tmp 84) (.tmp 86)) K3r9s23) (oSkip (.tmp 87) K3r9s23))
def K3r9s21:OpsF:=(oIf 76 false (oVal (.tmp 86) (kLoad none (.tmp 85)) K3r9s22) (oSkip (.tmp 86) K3r9s22))
def K3r9s20:OpsF:=(oIf 76 false (oVal (.tmp 85) (kUn (fadA 1) (.tmp 5)) K3r9s21) (oSkip (.tmp 85) K3r9s21))
def K3r9s19:OpsF:=(oIf 76 false (oVal (.tmp 84) (kLoad none (.tmp 83)) K3r9s20) (oSkip (.tmp 84) K3r9s20))
def K3r9s18:OpsF:=(oIf 76 false (oVal (.tmp 83) (kUn (fadA 0) (.tmp 14)) K3r9s19) (oSkip (.tmp 83) K3r9s19))
def K3r9s17:OpsF:=(oIf 76 false (oVal (.tmp 82) (kInt aLeq (.tmp 79) (.tmp 81)) K3r9s18) (oSkip (.tmp 82) K3r9s18))
def K3r9s16:OpsF:=(oIf 76 false (oVal (.tmp 81) (kLoad none (.tmp 80)) K3r9s17) (oSkip (.tmp 81) K3r9s17))
def K3r9s15:OpsF:=(oIf 76 false (oVal (.tmp 80) (kUn (fadA 1) (.tmp 5)) K3r9s16) (oSkip (.tmp 80) K3r9s16))
def K3r9s14:OpsF:=(oIf 76 false (oVal (.tmp 79) (kLoad none (.tmp 78)) K3r9s15) (oSkip (.tmp 79) K3r9s15))
def K3r9s13:OpsF:=(oIf 76 false (oVal (.tmp 78) (kUn (fadA 1) (.tmp 14)) K3r9s14) (oSkip (.tmp 78) K3r9s14))
def K3r9s10:OpsF:=(oVal (.tmp 75) (kPick (.tmp 71) (.con (.bool true)) (.tmp 74)) (oVal (.tmp 76) (kMove (.tmp 75)) (oIf 76 false (oVal (.tmp 77) (kMove (.tmp 12)) K3r9s13) (oSkip (.tmp 77) K3r9s13))))
def K3r9s9:OpsF:=(oIf 71 false (oVal (.tmp 74) (kEql (.row [(0,none,.int),(1,none,.int)]) true (.tmp 72) (.tmp 73)) K3r9s10) (oSkip (.tmp 74) K3r9s10))
def K3r9s8:OpsF:=(oIf 71 false (oVal (.tmp 73) (kLoad (some 2) (.tmp 14)) K3r9s9) (oSkip (.tmp 73) K3r9s9))
def K3r9s5:OpsF:=(oVal (.tmp 70) (kPick (.tmp 67) (.con (.bool true)) (.tmp 69)) (oVal (.tmp 71) (kMove (.tmp 70)) (oIf 71 false (oVal (.tmp 72) (kLoad (some 2) (.tmp 10)) K3r9s8) (oSkip (.tmp 72) K3r9s8))))
def K3r9s4:OpsF:=(oIf 67 false (oVal (.tmp 69) (kInt aNeq (.tmp 68) (.con (.int .i64 0))) K3r9s5) (oSkip (.tmp 69) K3r9s5))
def K3r9:OpsF:=(oVal (.tmp 65) (kMove (.tmp 11)) (oVal (.tmp 66) (kInt aNeq (.tmp 65) (.con (.int .i64 0))) (oVal (.tmp 67) (kMove (.tmp 66)) (oIf 67 false (oVal (.tmp 68) (kMove (.tmp 13)) K3r9s4) (oSkip (.tmp 68) K3r9s4)))))
def K3r10:OpsF:=(oVal (.tmp 2) (kMove (.con (.bool false))) oNil)
def K3r11:OpsF:=(oVal (.tmp 91) (kUn (fadA 2) (.tmp 4)) (oVal (.tmp 92) (kLoad none (.tmp 91)) (oVal (.tmp 93) (kUn lenSlA (.tmp 92)) (oVal (.tmp 94) (kInt aEql (.tmp 93) (.con (.int .i64 0))) oNil))))
def K3r12:OpsF:=(oCall (.tmp 95) (.con (.func 15 [] [])) [] (oVal (.tmp 2) (kMove (.tmp 95)) oNil))
def K3r13:OpsF:=(oVal (.tmp 97) (kLoad (some 5) (.tmp 4)) (oVal (.tmp 98) (kMove (.tmp 7)) (oVal (.tmp 99) (kMove (.tmp 6)) (oCall (.tmp 100) (.con (.func 16 [] [])) [(.tmp 97),(.tmp 98),(.tmp 99)] (oVal (.tmp 96) (kMove (.tmp 100)) (oVal (.tmp 101) (kUn (extA 0) (.tmp 96)) (oVal (.tmp 102) (kUn (extA 1) (.tmp 96)) (oVal (.tmp 15) (kAlloc [(.int .i64 0),(.int .i64 0)] (tag 26)) (oVal .none (kStore 2 (.tmp 15) (.tmp 101)) (oVal (.tmp 16) (kMove (.tmp 102)) oNil))))))))))
def K3r14:OpsF:=(oVal (.tmp 104) (kLoad (some 5) (.tmp 4)) (oVal (.tmp 105) (kMove (.tmp 7)) (oVal (.tmp 106) (kMove (.tmp 6)) (oCall (.tmp 107) (.con (.func 17 [] [])) [(.tmp 104),(.tmp 105),(.tmp 106)] (oVal (.tmp 103) (kMove (.tmp 107)) (oVal (.tmp 108) (kUn (extA 0) (.tmp 103)) (oVal (.tmp 109) (kUn (extA 1) (.tmp 103)) (oVal (.tmp 17) (kMove (.tmp 108)) (oVal (.tmp 18) (kMove (.tmp 109)) oNil)))))))))
def K3r15:OpsF:=(oEnd [] (oVal (.tmp 110) (kLoad (some 5) (.tmp 4)) (oVal (.tmp 111) (kMove (.tmp 7)) (oVal (.tmp 112) (kUn (fadA 0) (.tmp 9)) (oVal (.tmp 113) (kLoad none (.tmp 112)) (oVal (.tmp 114) (kMove (.tmp 7)) (oVal (.tmp 115) (kTwo (ixsA 1) (.tmp 113) (.tmp 114)) (oVal (.tmp 116) (kLoad none (.tmp 115)) (oVal (.tmp 117) (kUn (fadA 1) (.tmp 9)) (oVal (.tmp 118) (kLoad none (.tmp 117)) (oVal (.tmp 119) (kMove (.tmp 7)) (oVal (.tmp 120) (kTwo (ixsA 1) (.tmp 118) (.tmp 119)) (oVal (.tmp 121) (kLoad none (.tmp 120)) (oVal (.tmp 122) (kMove (.tmp 6)) (oCallT (some [4,126,129,131,134]) (.tmp 123) (.con (.func 18 [] [])) [(.tmp 110),(.tmp 111),(.tmp 116),(.tmp 121),(.tmp 122)] (oVal (.tmp 124) (kLoad (some 5) (.tmp 4)) (oVal (.tmp 125) (kMove (.tmp 7)) (oVal (.tmp 126) (kUn (fadA 0) (.tmp 8)) (oVal (.tmp 127) (kLoad none (.tmp 126)) (oVal (.tmp 128) (kMove (.tmp 7)) (oVal (.tmp 129) (kTwo (ixsA 1) (.tmp 127) (.tmp 128)) (oVal (.tmp 130) (kLoad none (.tmp 129)) (oVal (.tmp 131) (kUn (fadA 1) (.tmp 8)) (oVal (.tmp 132) (kLoad none (.tmp 131)) (oVal (.tmp 133) (kMove (.tmp 7)) (oVal (.tmp 134) (kTwo (ixsA 1) (.tmp 132) (.tmp 133)) (oVal (.tmp 135) (kLoad none (.tmp 134)) (oVal (.tmp 136) (kMove (.tmp 6)) (oCall (.tmp 137) (.con (.func 18 [] [])) [(.tmp 124),(.tmp 125),(.tmp 130),(.tmp 135),(.tmp 136)] (oCall (.tmp 138) (.con (.func 12 [] [])) [(.tmp 123),(.tmp 137)] (oVal (.tmp 19) (kAlloc [(.int .i64 0),(.int .i64 0)] (tag 26)) (oVal .none (kStore 2 (.tmp 19) (.tmp 138)) oNil))))))))))))))))))))))))))))))))
def K3r16s24:OpsF:=(oVal (.tmp 163) (kPick (.tmp 161) (.tmp 162) (.con (.bool false))) (oVal (.tmp 2) (kMove (.tmp 163)) oNil))
def K3r16s21:OpsF:=(oVal (.tmp 160) (kPick (.tmp 150) (.tmp 159) (.con (.bool false))) (oVal (.tmp 161) (kMove (.tmp 160)) (oIf 161 true (oCall (.tmp 162) (.con (.func 15 [] [])) [] K3r16s24) (oSkip (.tmp 162) K3r16s24))))
def K3r16s20:OpsF:=(oIf 150 true (oVal (.tmp 159) (kInt aEql (.tmp 151) (.tmp 158)) K3r16s21) (oSkip (.tmp 159) K3r16s21))
def K3r16s19:OpsF:=(oIf 150 true (oCall (.tmp 158) (.con (.func 14 [] [])) [(.tmp 154),(.tmp 157)] K3r16s20) (oSkip (.tmp 158) K3r16s20))
def K3r16s18:OpsF:=(oIf 150 true (oVal (.tmp 157) (kGtr (.tmp 156) (.con (.int .i64 0))) K3r16s19) (oSkip (.tmp 157) K3r16s19))
def K3r16s17:OpsF:=(oIf 150 true (oVal (.tmp 156) (kLoad none (.tmp 155)) K3r16s18) (oSkip (.tmp 156) K3r16s18))
def K3r16s16:OpsF:=(oIf 150 true (oVal (.tmp 155) (kUn (fadA 1) (.tmp 19)) K3r16s17) (oSkip (.tmp 155) K3r16s17))
def K3r16s15:OpsF:=(oIf 150 true (oVal (.tmp 154) (kGtr (.tmp 153) (.con (.int .i64 0))) K3r16s16) (oSkip (.tmp 154) K3r16s16))
def K3r16s14:OpsF:=(oIf 150 true (oVal (.tmp 153) (kLoad none (.tmp 152)) K3r16s15) (oSkip (.tmp 153) K3r16s15))
def K3r16s13:OpsF:=(oIf 150 true (oVal (.tmp 152) (kUn (fadA 0) (.tmp 19)) K3r16s14) (oSkip (.tmp 152) K3r16s14))
def K3r16s10:OpsF:=(oVal (.tmp 149) (kPick (.tmp 145) (.tmp 148) (.con (.bool false))) (oVal (.tmp 150) (kMove (.tmp 149)) (oIf 150 true (oVal (.tmp 151) (kMove (.tmp 17)) K3r16s13) (oSkip (.tmp 151) K3r16s13))))
def K3r16s9:OpsF:=(oIf 145 true (oVal (.tmp 148) (kEql (.row [(0,none,.int),(1,none,.int)]) false (.tmp 146) (.tmp 147)) K3r16s10) (oSkip (.tmp 148) K3r16s10))
def K3r16s8:OpsF:=(oIf 145 true (oVal (.tmp 147) (kLoad (some 2) (.tmp 19)) K3r16s9) (oSkip (.tmp 147) K3r16s9))
def K3r16s5:OpsF:=(oVal (.tmp 144) (kPick (.tmp 141) (.tmp 143) (.con (.bool false))) (oVal (.tmp 145) (kMove (.tmp 144)) (oIf 145 true (oVal (.tmp 146) (kLoad (some 2) (.tmp 15)) K3r16s8) (oSkip (.tmp 146) K3r16s8))))
def K3r16s4:OpsF:=(oIf 141 true (oVal (.tmp 143) (kInt aEql (.tmp 142) (.con (.int .i64 0))) K3r16s5) (oSkip (.tmp 143) K3r16s5))
def K3r16:OpsF:=(oVal (.tmp 139) (kMove (.tmp 16)) (oVal (.tmp 140) (kInt aEql (.tmp 139) (.con (.int .i64 0))) (oVal (.tmp 141) (kMove (.tmp 140)) (oIf 141 true (oVal (.tmp 142) (kMove (.tmp 18)) K3r16s4) (oSkip (.tmp 142) K3r16s4)))))
theorem res3:Try.f3.results.toList=[.tmp 2]:=by kernel_rfl
end
end Go.Proofs.Ytlfalcghhckanab.code
