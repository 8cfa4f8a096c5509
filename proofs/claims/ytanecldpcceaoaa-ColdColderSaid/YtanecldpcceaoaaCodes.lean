/- The code of functions as the interpreter has it, region by region. -/
import Derived.Test.YtanecldpcceaoaaAbsTab
import Derived.Test.YtanecldpcceaoaaAbsWalk
import Derived.KernelRfl
set_option maxRecDepth 100000
namespace Go.Proofs.Ytanecldpcceaoaa.code
open Go.Abs
noncomputable section
def K17r0:OpsF:=(oVal (.tmp 2) (kMove (.con (.int .i64 0))) oNil)
def K17r1:OpsF:=(oVal (.tmp 3) (kMove (.con (.int .i64 0))) oNil)
def K17r2:OpsF:=(oVal (.tmp 6) (kMove (.tmp 0)) (oVal (.tmp 7) (kUn lenSlA (.tmp 6)) (oVal (.tmp 8) (kMove (.con (.int .i64 0))) oNil)))
def K17r3:OpsF:=(oVal (.tmp 9) (kInt aLss (.tmp 8) (.tmp 7)) oNil)
def K17r4:OpsF:=(oVal (.tmp 10) (kTwo (ixsA 1) (.tmp 6) (.tmp 8)) (oVal (.tmp 11) (kLoad none (.tmp 10)) (oVal (.tmp 5) (kMove (.tmp 11)) oNil)))
def K17r5:OpsF:=(oVal (.tmp 12) (kMove (.tmp 5)) (oVal (.tmp 13) (kMove (.tmp 3)) (oVal (.tmp 14) (kInt aNeq (.tmp 12) (.tmp 13)) oNil)))
def K17r6:OpsF:=(oVal (.tmp 15) (kMove (.tmp 5)) (oVal (.tmp 2) (kMove (.tmp 15)) oNil))
def K17r7:OpsF:=(oVal (.tmp 16) (kInt aAdd (.tmp 8) (.con (.int .i64 1))) (oVal (.tmp 8) (kMove (.tmp 16)) oNil))
def K17l0:K:=(kSeq (kRegion K17r3 [9]) (kSeq (kCond (.tmp 9) kSkip (kExit 0)) (kSeq (kBlock 1 (kSeq (kRegion K17r4 [5]) (kSeq (kRegion K17r5 [14]) (kCond (.tmp 14) (kSeq (kRegion K17r6 [2]) kRet) kSkip)))) (kRegion K17r7 [8]))))
def K17r8:OpsF:=(oVal (.tmp 17) (kMove (.tmp 3)) (oVal (.tmp 2) (kMove (.tmp 17)) oNil))
theorem res17:Try.f17.results.toList=[.tmp 2]:=by kernel_rfl
def K17:K:=(kSeq (kRegion K17r0 [2]) (kSeq (kRegion K17r1 [3]) (kSeq (kSeq (kRegion K17r2 [6,7,8]) (kBlock 0 (kLoop K17l0))) (kSeq (kRegion K17r8 [2]) kRet))))
theorem enter17 (cl:CallF) (a0:AV) (s:St):enterA Try.prog X cl 17 [a0] s Try.f17=finA Try.prog Try.f17 (K17 cl ⟨17,none,Try.f17.ntmps,X 17⟩ (paramsEnv 0 [a0] .nil) [] s) :=
  enterA_eq (b:=Try.f17.body.getD .skip) (by kernel_rfl) (by kernel_rfl) (by kernel_rfl) (by kernel_rfl) (by kernel_rfl)
def K49r0:OpsF:=(oVal (.tmp 6) (kMove (.con (.int .i64 0))) oNil)
def K49r1:OpsF:=(oVal (.tmp 8) (kMove (.tmp 0)) (oVal (.tmp 9) (kMove (.tmp 1)) (oVal (.tmp 10) (kInt aLss (.tmp 8) (.tmp 9)) (oVal (.tmp 7) (kMove (.tmp 10)) oNil))))
def K49r2:OpsF:=(oVal (.tmp 6) (kMove (.con (.int .i64 7))) oNil)
def K49r3:OpsF:=(oVal (.tmp 12) (kMove (.tmp 0)) (oVal (.tmp 13) (kMove (.tmp 2)) (oVal (.tmp 14) (kGtr (.tmp 12) (.tmp 13)) (oVal (.tmp 11) (kMove (.tmp 14)) oNil))))
def K49r4:OpsF:=(oVal (.tmp 6) (kMove (.con (.int .i64 6))) oNil)
def K49r5:OpsF:=(oVal (.tmp 6) (kMove (.con (.int .i64 0))) oNil)
theorem res49:Try.f49.results.toList=[.tmp 6]:=by kernel_rfl
def K49:K:=(kSeq (kRegion K49r0 [6]) (kSeq (kBlock 0 (kSeq (kRegion K49r1 [7]) (kCond (.tmp 7) (kSeq (kRegion K49r2 [6]) kRet) (kSeq (kRegion K49r3 [11]) (kCond (.tmp 11) (kSeq (kRegion K49r4 [6]) kRet) kSkip))))) (kSeq (kRegion K49r5 [6]) kRet)))
theorem enter49 (cl:CallF) (a0 a1 a2:AV) (s:St):enterA Try.prog X cl 49 [a0,a1,a2] s Try.f49=finA Try.prog Try.f49 (K49 cl ⟨49,none,Try.f49.ntmps,X 49⟩ (paramsEnv 0 [a0,a1,a2] .nil) [] s) :=
  enterA_eq (b:=Try.f49.body.getD .skip) (by kernel_rfl) (by kernel_rfl) (by kernel_rfl) (by kernel_rfl) (by kernel_rfl)
def K59r0:OpsF:=(oVal (.tmp 4) (kMove (.con (.int .i64 0))) oNil)
def K59r1s6:OpsF:=(oVal (.tmp 11) (kPick (.tmp 7) (.con (.bool true)) (.tmp 10)) oNil)
def K59r1s5:OpsF:=(oIf 7 false (oVal (.tmp 10) (kInt aGeq (.tmp 8) (.tmp 9)) K59r1s6) (oSkip (.tmp 10) K59r1s6))
def K59r1s4:OpsF:=(oIf 7 false (oVal (.tmp 9) (kMove (.tmp 1)) K59r1s5) (oSkip (.tmp 9) K59r1s5))
def K59r1:OpsF:=(oVal (.tmp 5) (kMove (.tmp 0)) (oVal (.tmp 6) (kInt aLss (.tmp 5) (.con (.int .i64 0))) (oVal (.tmp 7) (kMove (.tmp 6)) (oIf 7 false (oVal (.tmp 8) (kMove (.tmp 0)) K59r1s4) (oSkip (.tmp 8) K59r1s4)))))
def K59r2:OpsF:=(oVal (.tmp 4) (kMove (.con (.int .i64 3))) oNil)
def K59r3:OpsF:=(oVal (.tmp 4) (kMove (.con (.int .i64 0))) oNil)
theorem res59:Try.f59.results.toList=[.tmp 4]:=by kernel_rfl
def K59:K:=(kSeq (kRegion K59r0 [4]) (kSeq (kSeq (kRegion K59r1 [11]) (kCond (.tmp 11) (kSeq (kRegion K59r2 [4]) kRet) kSkip)) (kSeq (kRegion K59r3 [4]) kRet)))
theorem enter59 (cl:CallF) (a0 a1:AV) (s:St):enterA Try.prog X cl 59 [a0,a1] s Try.f59=finA Try.prog Try.f59 (K59 cl ⟨59,none,Try.f59.ntmps,X 59⟩ (paramsEnv 0 [a0,a1] .nil) [] s) :=
  enterA_eq (b:=Try.f59.body.getD .skip) (by kernel_rfl) (by kernel_rfl) (by kernel_rfl) (by kernel_rfl) (by kernel_rfl)
def K63r0:OpsF:=(oVal (.tmp 3) (kBox (tag 26) (.tmp 0)) (oVal (.tmp 6) (kMove (.con (.int .i64 0))) oNil))
def K63r1:OpsF:=(oEnd [] (oVal (.tmp 8) (kUn (fadA 0) (.tmp 3)) (oVal (.tmp 9) (kLoad none (.tmp 8)) (oVal (.tmp 10) (kMove (.tmp 1)) (oVal (.tmp 11) (kMove (.tmp 2)) (oCallT (some [13]) (.tmp 12) (.con (.func 19 [] [])) [(.tmp 9),(.tmp 10),(.tmp 11)] (oVal (.tmp 13) (kUn (fadA 1) (.tmp 3)) (oVal (.tmp 14) (kLoad none (.tmp 13)) (oVal (.tmp 15) (kMove (.tmp 1)) (oVal (.tmp 16) (kMove (.tmp 2)) (oCall (.tmp 17) (.con (.func 19 [] [])) [(.tmp 14),(.tmp 15),(.tmp 16)] (oVal (.tmp 18) (kBuildSlice [(.int .i64 0),(.int .i64 0)] 2 [(0,1,(.tmp 12)),(1,1,(.tmp 17))]) (oCall (.tmp 19) (.con (.func 17 [] [])) [(.tmp 18)] (oVal (.tmp 7) (kMove (.tmp 19)) oNil))))))))))))))
def K63r2:OpsF:=(oVal (.tmp 20) (kMove (.tmp 7)) (oVal (.tmp 21) (kInt aNeq (.tmp 20) (.con (.int .i64 0))) oNil))
def K63r3:OpsF:=(oVal (.tmp 22) (kMove (.tmp 7)) (oVal (.tmp 6) (kMove (.tmp 22)) oNil))
def K63r4:OpsF:=(oVal (.tmp 23) (kUn (fadA 0) (.tmp 3)) (oVal (.tmp 24) (kLoad none (.tmp 23)) (oVal (.tmp 25) (kUn (fadA 1) (.tmp 3)) (oVal (.tmp 26) (kLoad none (.tmp 25)) (oVal (.tmp 27) (kGtr (.tmp 24) (.tmp 26)) oNil)))))
def K63r5:OpsF:=(oVal (.tmp 6) (kMove (.con (.int .i64 5))) oNil)
def K63r6:OpsF:=(oVal (.tmp 6) (kMove (.con (.int .i64 0))) oNil)
theorem res63:Try.f63.results.toList=[.tmp 6]:=by kernel_rfl
def K63:K:=(kSeq (kRegion K63r0 [3,6]) (kSeq (kSeq (kRegionD K63r1 [7]) (kSeq (kRegion K63r2 [21]) (kCond (.tmp 21) (kSeq (kRegion K63r3 [6]) kRet) kSkip))) (kSeq (kSeq (kRegion K63r4 [27]) (kCond (.tmp 27) (kSeq (kRegion K63r5 [6]) kRet) kSkip)) (kSeq (kRegion K63r6 [6]) kRet))))
theorem enter63 (cl:CallF) (a0 a1 a2:AV) (s:St):enterA Try.prog X cl 63 [a0,a1,a2] s Try.f63=finA Try.prog Try.f63 (K63 cl ⟨63,none,Try.f63.ntmps,X 63⟩ (paramsEnv 0 [a0,a1,a2] .nil) [] s) :=
  enterA_eq (b:=Try.f63.body.getD .skip) (by kernel_rfl) (by kernel_rfl) (by kernel_rfl) (by kernel_rfl) (by kernel_rfl)
def K20r0:OpsF:=(oVal (.tmp 4) (kMove (.con (.int .i64 0))) oNil)
def K20r1:OpsF:=(oVal (.tmp 5) (kMove (.tmp 0)) oNil)
def K20r2:OpsF:=(oVal (.tmp 4) (kMove (.con (.int .i64 0))) oNil)
def K20r3:OpsF:=(oVal (.tmp 6) (kMove (.tmp 1)) (oVal (.tmp 4) (kMove (.tmp 6)) oNil))
theorem res20:Try.f20.results.toList=[.tmp 4]:=by kernel_rfl
def K20:K:=(kSeq (kRegion K20r0 [4]) (kSeq (kSeq (kRegion K20r1 [5]) (kCond (.tmp 5) (kSeq (kRegion K20r2 [4]) kRet) kSkip)) (kSeq (kRegion K20r3 [4]) kRet)))
theorem enter20 (cl:CallF) (a0 a1:AV) (s:St):enterA Try.prog X cl 20 [a0,a1] s Try.f20=finA Try.prog Try.f20 (K20 cl ⟨20,none,Try.f20.ntmps,X 20⟩ (paramsEnv 0 [a0,a1] .nil) [] s) :=
  enterA_eq (b:=Try.f20.body.getD .skip) (by kernel_rfl) (by kernel_rfl) (by kernel_rfl) (by kernel_rfl) (by kernel_rfl)
def K19r0:OpsF:=(oVal (.tmp 6) (kMove (.con (.int .i64 0))) oNil)
def K19r1s7:OpsF:=(oVal (.tmp 14) (kPick (.tmp 10) (.con (.bool true)) (.tmp 13)) oNil)
def K19r1s6:OpsF:=(oIf 10 false (oVal (.tmp 13) (kGtr (.tmp 11) (.tmp 12)) K19r1s7) (oSkip (.tmp 13) K19r1s7))
def K19r1s5:OpsF:=(oIf 10 false (oVal (.tmp 12) (kMove (.tmp 2)) K19r1s6) (oSkip (.tmp 12) K19r1s6))
def K19r1:OpsF:=(oVal (.tmp 7) (kMove (.tmp 0)) (oVal (.tmp 8) (kMove (.tmp 1)) (oVal (.tmp 9) (kInt aLss (.tmp 7) (.tmp 8)) (oVal (.tmp 10) (kMove (.tmp 9)) (oIf 10 false (oVal (.tmp 11) (kMove (.tmp 0)) K19r1s5) (oSkip (.tmp 11) K19r1s5))))))
def K19r2:OpsF:=(oVal (.tmp 6) (kMove (.con (.int .i64 1))) oNil)
def K19r3:OpsF:=(oVal (.tmp 6) (kMove (.con (.int .i64 0))) oNil)
theorem res19:Try.f19.results.toList=[.tmp 6]:=by kernel_rfl
def K19:K:=(kSeq (kRegion K19r0 [6]) (kSeq (kSeq (kRegion K19r1 [14]) (kCond (.tmp 14) (kSeq (kRegion K19r2 [6]) kRet) kSkip)) (kSeq (kRegion K19r3 [6]) kRet)))
theorem enter19 (cl:CallF) (a0 a1 a2:AV) (s:St):enterA Try.prog X cl 19 [a0,a1,a2] s Try.f19=finA Try.prog Try.f19 (K19 cl ⟨19,none,Try.f19.ntmps,X 19⟩ (paramsEnv 0 [a0,a1,a2] .nil) [] s) :=
  enterA_eq (b:=Try.f19.body.getD .skip) (by kernel_rfl) (by kernel_rfl) (by kernel_rfl) (by kernel_rfl) (by kernel_rfl)
def K31r0:OpsF:=(oVal (.tmp 1) (kBox (tag 31) (.tmp 0)) (oVal (.tmp 2) (kMove (.con (.int .i64 0))) oNil))
def K31r1:OpsF:=(oEnd [] (oVal (.tmp 3) (kUn (fadA 0) (.tmp 1)) (oVal (.tmp 4) (kLoad (some 2) (.tmp 3)) (oCallT (some [6,1,11]) (.tmp 5) (.con (.func 45 [] [])) [(.tmp 4)] (oVal (.tmp 6) (kUn (fadA 2) (.tmp 1)) (oVal (.tmp 7) (kLoad none (.tmp 6)) (oCallT (some [1,11]) (.tmp 8) (.con (.func 46 [] [])) [(.tmp 7)] (oVal (.tmp 9) (kLoad (some 5) (.tmp 1)) (oCallT (some [11]) (.tmp 10) (.con (.func 47 [] [])) [(.tmp 9)] (oVal (.tmp 11) (kUn (fadA 4) (.tmp 1)) (oVal (.tmp 12) (kLoad none (.tmp 11)) (oCall (.tmp 13) (.con (.func 48 [] [])) [(.tmp 12)] (oVal (.tmp 14) (kBuildSlice [(.int .i64 0),(.int .i64 0),(.int .i64 0),(.int .i64 0)] 4 [(0,1,(.tmp 5)),(1,1,(.tmp 8)),(2,1,(.tmp 10)),(3,1,(.tmp 13))]) (oCall (.tmp 15) (.con (.func 17 [] [])) [(.tmp 14)] (oVal (.tmp 2) (kMove (.tmp 15)) oNil)))))))))))))))
theorem res31:Try.f31.results.toList=[.tmp 2]:=by kernel_rfl
def K31:K:=(kSeq (kRegion K31r0 [1,2]) (kSeq (kRegionD K31r1 [2]) kRet))
theorem enter31 (cl:CallF) (a0:AV) (s:St):enterA Try.prog X cl 31 [a0] s Try.f31=finA Try.prog Try.f31 (K31 cl ⟨31,none,Try.f31.ntmps,X 31⟩ (paramsEnv 0 [a0] .nil) [] s) :=
  enterA_eq (b:=Try.f31.body.getD .skip) (by kernel_rfl) (by kernel_rfl) (by kernel_rfl) (by kernel_rfl) (by kernel_rfl)
def K18r0:OpsF:=(oVal (.tmp 2) (kBox (tag 31) (.tmp 0)) (oVal (.tmp 3) (kBox (tag 35) (.tmp 1)) (oVal (.tmp 4) (kMove (.con (.int .i64 0))) oNil)))
def K18r1:OpsF:=(oEnd [] (oVal (.tmp 5) (kLoad (some 5) (.tmp 2)) (oCallT (some [2,3]) (.tmp 6) (.con (.func 31 [] [])) [(.tmp 5)] (oVal (.tmp 7) (kLoad (some 5) (.tmp 2)) (oVal (.tmp 8) (kLoad (some 3) (.tmp 3)) (oCall (.tmp 9) (.con (.func 32 [] [])) [(.tmp 7),(.tmp 8)] (oVal (.tmp 10) (kBuildSlice [(.int .i64 0),(.int .i64 0)] 2 [(0,1,(.tmp 6)),(1,1,(.tmp 9))]) (oCall (.tmp 11) (.con (.func 17 [] [])) [(.tmp 10)] (oVal (.tmp 4) (kMove (.tmp 11)) oNil)))))))))
theorem res18:Try.f18.results.toList=[.tmp 4]:=by kernel_rfl
def K18:K:=(kSeq (kRegion K18r0 [2,3,4]) (kSeq (kRegionD K18r1 [4]) kRet))
theorem enter18 (cl:CallF) (a0 a1:AV) (s:St):enterA Try.prog X cl 18 [a0,a1] s Try.f18=finA Try.prog Try.f18 (K18 cl ⟨18,none,Try.f18.ntmps,X 18⟩ (paramsEnv 0 [a0,a1] .nil) [] s) :=
  enterA_eq (b:=Try.f18.body.getD .skip) (by kernel_rfl) (by kernel_rfl) (by kernel_rfl) (by kernel_rfl) (by kernel_rfl)
def K40r0:OpsF:=(oVal (.tmp 2) (kBox (tag 31) (.tmp 0)) (oVal (.tmp 4) (kMove (.con (.int .i64 0))) oNil))
def K40r1:OpsF:=(oVal (.tmp 5) (kMove (.tmp 1)) (oVal (.tmp 6) (kUn (fadA 2) (.tmp 2)) (oVal (.tmp 7) (kLoad none (.tmp 6)) (oVal (.tmp 8) (kUn lenSlA (.tmp 7)) (oCall (.tmp 9) (.con (.func 59 [] [])) [(.tmp 5),(.tmp 8)] (oVal (.tmp 4) (kMove (.tmp 9)) oNil))))))
theorem res40:Try.f40.results.toList=[.tmp 4]:=by kernel_rfl
def K40:K:=(kSeq (kRegion K40r0 [2,4]) (kSeq (kRegion K40r1 [4]) kRet))
theorem enter40 (cl:CallF) (a0 a1:AV) (s:St):enterA Try.prog X cl 40 [a0,a1] s Try.f40=finA Try.prog Try.f40 (K40 cl ⟨40,none,Try.f40.ntmps,X 40⟩ (paramsEnv 0 [a0,a1] .nil) [] s) :=
  enterA_eq (b:=Try.f40.body.getD .skip) (by kernel_rfl) (by kernel_rfl) (by kernel_rfl) (by kernel_rfl) (by kernel_rfl)
def K46r0:OpsF:=(oVal (.tmp 2) (kMove (.con (.int .i64 0))) oNil)
def K46r1:OpsF:=(oVal (.tmp 7) (kMove (.tmp 0)) (oVal (.tmp 8) (kUn lenSlA (.tmp 7)) (oCall (.tmp 9) (.con (.func 49 [] [])) [(.tmp 8),(.con (.int .i64 0)),(.con (.int .i64 6))] (oVal (.tmp 3) (kMove (.tmp 9)) oNil))))
def K46r2:OpsF:=(oVal (.tmp 10) (kMove (.tmp 3)) (oVal (.tmp 11) (kInt aNeq (.tmp 10) (.con (.int .i64 0))) oNil))
def K46r3:OpsF:=(oVal (.tmp 12) (kMove (.tmp 3)) (oVal (.tmp 2) (kMove (.tmp 12)) oNil))
def K46r4:OpsF:=(oVal (.tmp 13) (kMove (.tmp 0)) (oVal (.tmp 14) (kUn lenSlA (.tmp 13)) (oVal (.tmp 15) (kMove (.con (.int .i64 0))) oNil)))
def K46r5:OpsF:=(oVal (.tmp 16) (kInt aLss (.tmp 15) (.tmp 14)) oNil)
def K46r6:OpsF:=(oVal (.tmp 17) (kTwo (ixsA 9) (.tmp 13) (.tmp 15)) (oVal (.tmp 18) (kLoad (some 9) (.tmp 17)) (oVal (.tmp 5) (kAlloc [(.int .i64 0),(.int .i64 0),(.int .i64 0),(.int .i64 0),(.int .i64 0),(.int .i64 0),(.int .i64 0),(.int .i64 0),(.int .i64 0)] (tag 42)) (oVal .none (kStore 9 (.tmp 5) (.tmp 18)) oNil))))
def K46r7:OpsF:=(oEnd [] (oVal (.tmp 19) (kUn (fadA 0) (.tmp 5)) (oVal (.tmp 20) (kLoad none (.tmp 19)) (oCallT (some [22,24,27,30,33,37,40]) (.tmp 21) (.con (.func 19 [] [])) [(.tmp 20),(.con (.int .i64 0)),(.con (.int .i64 100000))] (oVal (.tmp 22) (kUn (fadA 1) (.tmp 5)) (oVal (.tmp 23) (kLoad (some 2) (.tmp 22)) (oVal (.tmp 24) (kUn (fadA 0) (.tmp 5)) (oVal (.tmp 25) (kLoad none (.tmp 24)) (oCallT (some [27,30,33,37,40]) (.tmp 26) (.con (.func 63 [] [])) [(.tmp 23),(.con (.int .i64 0)),(.tmp 25)] (oVal (.tmp 27) (kUn (fadA 3) (.tmp 5)) (oVal (.tmp 28) (kLoad (some 2) (.tmp 27)) (oCallT (some [30,33,37,40]) (.tmp 29) (.con (.func 63 [] [])) [(.tmp 28),(.con (.int .i64 0)),(.con (.int .i64 100000))] (oVal (.tmp 30) (kUn (fadA 5) (.tmp 5)) (oVal (.tmp 31) (kLoad (some 2) (.tmp 30)) (oCallT (some [33,37,40]) (.tmp 32) (.con (.func 45 [] [])) [(.tmp 31)] (oVal (.tmp 33) (kUn (fadA 7) (.tmp 5)) (oVal (.tmp 34) (kLoad (some 2) (.tmp 33)) (oCallT (some [37,40]) (.tmp 35) (.con (.func 45 [] [])) [(.tmp 34)] (oVal (.tmp 36) (kUn (fadA 5) (.tmp 5)) (oVal (.tmp 37) (kUn (fadA 1) (.tmp 36)) (oVal (.tmp 38) (kLoad none (.tmp 37)) (oVal (.tmp 39) (kUn (fadA 7) (.tmp 5)) (oVal (.tmp 40) (kUn (fadA 0) (.tmp 39)) (oVal (.tmp 41) (kLoad none (.tmp 40)) (oVal (.tmp 42) (kInt aLeq (.tmp 38) (.tmp 41)) (oCall (.tmp 43) (.con (.func 20 [] [])) [(.tmp 42),(.con (.int .i64 9))] (oVal (.tmp 44) (kBuildSlice [(.int .i64 0),(.int .i64 0),(.int .i64 0),(.int .i64 0),(.int .i64 0),(.int .i64 0)] 6 [(0,1,(.tmp 21)),(1,1,(.tmp 26)),(2,1,(.tmp 29)),(3,1,(.tmp 32)),(4,1,(.tmp 35)),(5,1,(.tmp 43))]) (oCall (.tmp 45) (.con (.func 17 [] [])) [(.tmp 44)] (oVal (.tmp 6) (kMove (.tmp 45)) oNil)))))))))))))))))))))))))))))
def K46r8:OpsF:=(oVal (.tmp 46) (kMove (.tmp 6)) (oVal (.tmp 47) (kInt aNeq (.tmp 46) (.con (.int .i64 0))) oNil))
def K46r9:OpsF:=(oVal (.tmp 48) (kMove (.tmp 6)) (oVal (.tmp 2) (kMove (.tmp 48)) oNil))
def K46r10:OpsF:=(oVal (.tmp 49) (kInt aAdd (.tmp 15) (.con (.int .i64 1))) (oVal (.tmp 15) (kMove (.tmp 49)) oNil))
def K46l0:K:=(kSeq (kRegion K46r5 [16]) (kSeq (kCond (.tmp 16) kSkip (kExit 0)) (kSeq (kBlock 1 (kSeq (kRegion K46r6 [5]) (kSeq (kRegionD K46r7 [6]) (kSeq (kRegion K46r8 [47]) (kCond (.tmp 47) (kSeq (kRegion K46r9 [2]) kRet) kSkip))))) (kRegion K46r10 [15]))))
def K46r11:OpsF:=(oVal (.tmp 2) (kMove (.con (.int .i64 0))) oNil)
theorem res46:Try.f46.results.toList=[.tmp 2]:=by kernel_rfl
def K46:K:=(kSeq (kRegion K46r0 [2]) (kSeq (kSeq (kRegion K46r1 [3]) (kSeq (kRegion K46r2 [11]) (kCond (.tmp 11) (kSeq (kRegion K46r3 [2]) kRet) kSkip))) (kSeq (kSeq (kRegion K46r4 [13,14,15]) (kBlock 0 (kLoop K46l0))) (kSeq (kRegion K46r11 [2]) kRet))))
theorem enter46 (cl:CallF) (a0:AV) (s:St):enterA Try.prog X cl 46 [a0] s Try.f46=finA Try.prog Try.f46 (K46 cl ⟨46,none,Try.f46.ntmps,X 46⟩ (paramsEnv 0 [a0] .nil) [] s) :=
  enterA_eq (b:=Try.f46.body.getD .skip) (by kernel_rfl) (by kernel_rfl) (by kernel_rfl) (by kernel_rfl) (by kernel_rfl)
def K47r0:OpsF:=(oVal (.tmp 1) (kBox (tag 31) (.tmp 0)) (oVal (.tmp 2) (kMove (.con (.int .i64 0))) oNil))
def K47r1:OpsF:=(oVal (.tmp 8) (kUn (fadA 3) (.tmp 1)) (oVal (.tmp 9) (kLoad none (.tmp 8)) (oVal (.tmp 10) (kUn lenSlA (.tmp 9)) (oCall (.tmp 11) (.con (.func 49 [] [])) [(.tmp 10),(.con (.int .i64 0)),(.con (.int .i64 20))] (oVal (.tmp 3) (kMove (.tmp 11)) oNil)))))
def K47r2:OpsF:=(oVal (.tmp 12) (kMove (.tmp 3)) (oVal (.tmp 13) (kInt aNeq (.tmp 12) (.con (.int .i64 0))) oNil))
def K47r3:OpsF:=(oVal (.tmp 14) (kMove (.tmp 3)) (oVal (.tmp 2) (kMove (.tmp 14)) oNil))
def K47r4:OpsF:=(oVal (.tmp 4) (kMove (.con (.int .i64 0))) oNil)
def K47r5:OpsF:=(oVal (.tmp 15) (kUn (fadA 3) (.tmp 1)) (oVal (.tmp 16) (kLoad none (.tmp 15)) (oVal (.tmp 17) (kUn lenSlA (.tmp 16)) (oVal (.tmp 18) (kMove (.con (.int .i64 0))) oNil))))
def K47r6:OpsF:=(oVal (.tmp 19) (kInt aLss (.tmp 18) (.tmp 17)) oNil)
def K47r7:OpsF:=(oVal (.tmp 20) (kTwo (ixsA 3) (.tmp 16) (.tmp 18)) (oVal (.tmp 21) (kLoad (some 3) (.tmp 20)) (oVal (.tmp 6) (kAlloc [(.int .i64 0),(.int .i64 0),(.int .i64 0)] (tag 58)) (oVal .none (kStore 3 (.tmp 6) (.tmp 21)) oNil))))
def K47r8:OpsF:=(oEnd [] (oVal (.tmp 22) (kLoad (some 5) (.tmp 1)) (oVal (.tmp 23) (kUn (fadA 0) (.tmp 6)) (oVal (.tmp 24) (kLoad none (.tmp 23)) (oCallT (some [26,29,32]) (.tmp 25) (.con (.func 40 [] [])) [(.tmp 22),(.tmp 24)] (oVal (.tmp 26) (kUn (fadA 1) (.tmp 6)) (oVal (.tmp 27) (kLoad none (.tmp 26)) (oCallT (some [29,32]) (.tmp 28) (.con (.func 41 [] [])) [(.tmp 27)] (oVal (.tmp 29) (kUn (fadA 2) (.tmp 6)) (oVal (.tmp 30) (kLoad none (.tmp 29)) (oCallT (some [32]) (.tmp 31) (.con (.func 19 [] [])) [(.tmp 30),(.con (.int .i64 0)),(.con (.int .i64 100000))] (oVal (.tmp 32) (kUn (fadA 1) (.tmp 6)) (oVal (.tmp 33) (kLoad none (.tmp 32)) (oVal (.tmp 34) (kMove (.tmp 4)) (oVal (.tmp 35) (kInt aGeq (.tmp 33) (.tmp 34)) (oCall (.tmp 36) (.con (.func 20 [] [])) [(.tmp 35),(.con (.int .i64 5))] (oVal (.tmp 37) (kBuildSlice [(.int .i64 0),(.int .i64 0),(.int .i64 0),(.int .i64 0)] 4 [(0,1,(.tmp 25)),(1,1,(.tmp 28)),(2,1,(.tmp 31)),(3,1,(.tmp 36))]) (oCall (.tmp 38) (.con (.func 17 [] [])) [(.tmp 37)] (oVal (.tmp 7) (kMove (.tmp 38)) oNil)))))))))))))))))))
def K47r9:OpsF:=(oVal (.tmp 39) (kMove (.tmp 7)) (oVal (.tmp 40) (kInt aNeq (.tmp 39) (.con (.int .i64 0))) oNil))
def K47r10:OpsF:=(oVal (.tmp 41) (kMove (.tmp 7)) (oVal (.tmp 2) (kMove (.tmp 41)) oNil))
def K47r11:OpsF:=(oVal (.tmp 42) (kUn (fadA 1) (.tmp 6)) (oVal (.tmp 43) (kLoad none (.tmp 42)) (oVal (.tmp 4) (kMove (.tmp 43)) oNil)))
def K47r12:OpsF:=(oVal (.tmp 44) (kInt aAdd (.tmp 18) (.con (.int .i64 1))) (oVal (.tmp 18) (kMove (.tmp 44)) oNil))
def K47l0:K:=(kSeq (kRegion K47r6 [19]) (kSeq (kCond (.tmp 19) kSkip (kExit 0)) (kSeq (kBlock 1 (kSeq (kRegion K47r7 [6]) (kSeq (kRegionD K47r8 [7]) (kSeq (kSeq (kRegion K47r9 [40]) (kCond (.tmp 40) (kSeq (kRegion K47r10 [2]) kRet) kSkip)) (kRegion K47r11 [4]))))) (kRegion K47r12 [18]))))
def K47r13:OpsF:=(oVal (.tmp 2) (kMove (.con (.int .i64 0))) oNil)
theorem res47:Try.f47.results.toList=[.tmp 2]:=by kernel_rfl
def K47:K:=(kSeq (kRegion K47r0 [1,2]) (kSeq (kSeq (kRegion K47r1 [3]) (kSeq (kRegion K47r2 [13]) (kCond (.tmp 13) (kSeq (kRegion K47r3 [2]) kRet) kSkip))) (kSeq (kRegion K47r4 [4]) (kSeq (kSeq (kRegion K47r5 [16,17,18]) (kBlock 0 (kLoop K47l0))) (kSeq (kRegion K47r13 [2]) kRet)))))
theorem enter47 (cl:CallF) (a0:AV) (s:St):enterA Try.prog X cl 47 [a0] s Try.f47=finA Try.prog Try.f47 (K47 cl ⟨47,none,Try.f47.ntmps,X 47⟩ (paramsEnv 0 [a0] .nil) [] s) :=
  enterA_eq (b:=Try.f47.body.getD .skip) (by kernel_rfl) (by kernel_rfl) (by kernel_rfl) (by kernel_rfl) (by kernel_rfl)
def K41r0:OpsF:=(oVal (.tmp 2) (kMove (.con (.int .i64 0))) oNil)
def K41r1:OpsF:=(oVal (.tmp 3) (kMove (.tmp 0)) (oCall (.tmp 4) (.con (.func 19 [] [])) [(.tmp 3),(.con (.int .i64 0)),(.con (.int .i64 239))] (oVal (.tmp 2) (kMove (.tmp 4)) oNil)))
theorem res41:Try.f41.results.toList=[.tmp 2]:=by kernel_rfl
def K41:K:=(kSeq (kRegion K41r0 [2]) (kSeq (kRegion K41r1 [2]) kRet))
theorem enter41 (cl:CallF) (a0:AV) (s:St):enterA Try.prog X cl 41 [a0] s Try.f41=finA Try.prog Try.f41 (K41 cl ⟨41,none,Try.f41.ntmps,X 41⟩ (paramsEnv 0 [a0] .nil) [] s) :=
  enterA_eq (b:=Try.f41.body.getD .skip) (by kernel_rfl) (by kernel_rfl) (by kernel_rfl) (by kernel_rfl) (by kernel_rfl)
def K32r0:OpsF:=(oVal (.tmp 2) (kBox (tag 31) (.tmp 0)) (oVal (.tmp 3) (kBox (tag 35) (.tmp 1)) (oVal (.tmp 4) (kMove (.con (.int .i64 0))) oNil)))
def K32r1:OpsF:=(oEnd [] (oVal (.tmp 10) (kUn (fadA 0) (.tmp 3)) (oVal (.tmp 11) (kLoad none (.tmp 10)) (oCallT (some [13,16,17]) (.tmp 12) (.con (.func 41 [] [])) [(.tmp 11)] (oVal (.tmp 13) (kUn (fadA 1) (.tmp 3)) (oVal (.tmp 14) (kLoad none (.tmp 13)) (oCallT (some [16,17]) (.tmp 15) (.con (.func 19 [] [])) [(.tmp 14),(.con (.int .i64 0)),(.con (.int .i64 100000))] (oVal (.tmp 16) (kUn (fadA 2) (.tmp 3)) (oVal (.tmp 17) (kLoad none (.tmp 16)) (oVal (.tmp 18) (kUn lenSlA (.tmp 17)) (oCall (.tmp 19) (.con (.func 49 [] [])) [(.tmp 18),(.con (.int .i64 0)),(.con (.int .i64 8))] (oVal (.tmp 20) (kBuildSlice [(.int .i64 0),(.int .i64 0),(.int .i64 0)] 3 [(0,1,(.tmp 12)),(1,1,(.tmp 15)),(2,1,(.tmp 19))]) (oCall (.tmp 21) (.con (.func 17 [] [])) [(.tmp 20)] (oVal (.tmp 5) (kMove (.tmp 21)) oNil))))))))))))))
def K32r2:OpsF:=(oVal (.tmp 22) (kMove (.tmp 5)) (oVal (.tmp 23) (kInt aNeq (.tmp 22) (.con (.int .i64 0))) oNil))
def K32r3:OpsF:=(oVal (.tmp 24) (kMove (.tmp 5)) (oVal (.tmp 4) (kMove (.tmp 24)) oNil))
def K32r4:OpsF:=(oVal (.tmp 25) (kUn (fadA 0) (.tmp 3)) (oVal (.tmp 26) (kLoad none (.tmp 25)) (oVal (.tmp 6) (kMove (.tmp 26)) oNil)))
def K32r5:OpsF:=(oVal (.tmp 27) (kUn (fadA 2) (.tmp 3)) (oVal (.tmp 28) (kLoad none (.tmp 27)) (oVal (.tmp 29) (kUn lenSlA (.tmp 28)) (oVal (.tmp 30) (kMove (.con (.int .i64 0))) oNil))))
def K32r6:OpsF:=(oVal (.tmp 31) (kInt aLss (.tmp 30) (.tmp 29)) oNil)
def K32r7:OpsF:=(oVal (.tmp 32) (kTwo (ixsA 3) (.tmp 28) (.tmp 30)) (oVal (.tmp 33) (kLoad (some 3) (.tmp 32)) (oVal (.tmp 8) (kAlloc [(.int .i64 0),(.int .i64 0),(.int .i64 0)] (tag 62)) (oVal .none (kStore 3 (.tmp 8) (.tmp 33)) oNil))))
def K32r8s20:OpsF:=(oVal (.tmp 54) (kPick (.tmp 49) (.tmp 53) (.con (.bool false))) (oCall (.tmp 55) (.con (.func 20 [] [])) [(.tmp 54),(.con (.int .i64 5))] (oVal (.tmp 56) (kBuildSlice [(.int .i64 0),(.int .i64 0),(.int .i64 0),(.int .i64 0)] 4 [(0,1,(.tmp 37)),(1,1,(.tmp 40)),(2,1,(.tmp 43)),(3,1,(.tmp 55))]) (oCall (.tmp 57) (.con (.func 17 [] [])) [(.tmp 56)] (oVal (.tmp 9) (kMove (.tmp 57)) oNil)))))
def K32r8s19:OpsF:=(oIf 49 true (oVal (.tmp 53) (kInt aGeq (.tmp 51) (.tmp 52)) K32r8s20) (oSkip (.tmp 53) K32r8s20))
def K32r8s18:OpsF:=(oIf 49 true (oVal (.tmp 52) (kMove (.tmp 6)) K32r8s19) (oSkip (.tmp 52) K32r8s19))
def K32r8s17:OpsF:=(oIf 49 true (oVal (.tmp 51) (kLoad none (.tmp 50)) K32r8s18) (oSkip (.tmp 51) K32r8s18))
def K32r8:OpsF:=(oEnd [] (oVal (.tmp 34) (kLoad (some 5) (.tmp 2)) (oVal (.tmp 35) (kUn (fadA 0) (.tmp 8)) (oVal (.tmp 36) (kLoad none (.tmp 35)) (oCallT (some [38,41,44,46]) (.tmp 37) (.con (.func 40 [] [])) [(.tmp 34),(.tmp 36)] (oVal (.tmp 38) (kUn (fadA 1) (.tmp 8)) (oVal (.tmp 39) (kLoad none (.tmp 38)) (oCallT (some [41,44,46]) (.tmp 40) (.con (.func 19 [] [])) [(.tmp 39),(.con (.int .i64 0)),(.con (.int .i64 240))] (oVal (.tmp 41) (kUn (fadA 2) (.tmp 8)) (oVal (.tmp 42) (kLoad none (.tmp 41)) (oCallT (some [44,46]) (.tmp 43) (.con (.func 19 [] [])) [(.tmp 42),(.con (.int .i64 0)),(.con (.int .i64 240))] (oVal (.tmp 44) (kUn (fadA 1) (.tmp 8)) (oVal (.tmp 45) (kLoad none (.tmp 44)) (oVal (.tmp 46) (kUn (fadA 2) (.tmp 8)) (oVal (.tmp 47) (kLoad none (.tmp 46)) (oVal (.tmp 48) (kInt aLss (.tmp 45) (.tmp 47)) (oVal (.tmp 49) (kMove (.tmp 48)) (oIf 49 true (oVal (.tmp 50) (kUn (fadA 1) (.tmp 8)) K32r8s17) (oSkip (.tmp 50) K32r8s17)))))))))))))))))))
def K32r9:OpsF:=(oVal (.tmp 58) (kMove (.tmp 9)) (oVal (.tmp 59) (kInt aNeq (.tmp 58) (.con (.int .i64 0))) oNil))
def K32r10:OpsF:=(oVal (.tmp 60) (kMove (.tmp 9)) (oVal (.tmp 4) (kMove (.tmp 60)) oNil))
def K32r11:OpsF:=(oVal (.tmp 61) (kUn (fadA 2) (.tmp 8)) (oVal (.tmp 62) (kLoad none (.tmp 61)) (oVal (.tmp 6) (kMove (.tmp 62)) oNil)))
def K32r12:OpsF:=(oVal (.tmp 63) (kInt aAdd (.tmp 30) (.con (.int .i64 1))) (oVal (.tmp 30) (kMove (.tmp 63)) oNil))
def K32l0:K:=(kSeq (kRegion K32r6 [31]) (kSeq (kCond (.tmp 31) kSkip (kExit 0)) (kSeq (kBlock 1 (kSeq (kRegion K32r7 [8]) (kSeq (kRegionD K32r8 [9]) (kSeq (kSeq (kRegion K32r9 [59]) (kCond (.tmp 59) (kSeq (kRegion K32r10 [4]) kRet) kSkip)) (kRegion K32r11 [6]))))) (kRegion K32r12 [30]))))
def K32r13:OpsF:=(oVal (.tmp 4) (kMove (.con (.int .i64 0))) oNil)
theorem res32:Try.f32.results.toList=[.tmp 4]:=by kernel_rfl
def K32:K:=(kSeq (kRegion K32r0 [2,3,4]) (kSeq (kRegionD K32r1 [5]) (kSeq (kSeq (kRegion K32r2 [23]) (kCond (.tmp 23) (kSeq (kRegion K32r3 [4]) kRet) kSkip)) (kSeq (kRegion K32r4 [6]) (kSeq (kSeq (kRegion K32r5 [28,29,30]) (kBlock 0 (kLoop K32l0))) (kSeq (kRegion K32r13 [4]) kRet))))))
theorem enter32 (cl:CallF) (a0 a1:AV) (s:St):enterA Try.prog X cl 32 [a0,a1] s Try.f32=finA Try.prog Try.f32 (K32 cl ⟨32,none,Try.f32.ntmps,X 32⟩ (paramsEnv 0 [a0,a1] .nil) [] s) :=
  enterA_eq (b:=Try.f32.body.getD .skip) (by kernel_rfl) (by kernel_rfl) (by kernel_rfl) (by kernel_rfl) (by kernel_rfl)
def K48r0:OpsF:=(oVal (.tmp 2) (kMove (.con (.int .i64 0))) oNil)
def K48r1:OpsF:=(oVal (.tmp 8) (kMove (.tmp 0)) (oVal (.tmp 9) (kUn lenSlA (.tmp 8)) (oCall (.tmp 10) (.con (.func 49 [] [])) [(.tmp 9),(.con (.int .i64 1)),(.con (.int .i64 6))] (oVal (.tmp 3) (kMove (.tmp 10)) oNil))))
def K48r2:OpsF:=(oVal (.tmp 11) (kMove (.tmp 3)) (oVal (.tmp 12) (kInt aNeq (.tmp 11) (.con (.int .i64 0))) oNil))
def K48r3:OpsF:=(oVal (.tmp 13) (kMove (.tmp 3)) (oVal (.tmp 2) (kMove (.tmp 13)) oNil))
def K48r4:OpsF:=(oVal (.tmp 14) (kBuild [(.int .i64 0),(.int .i64 0)] [(0,1,(.con (.int .i64 (-301))))]) (oVal (.tmp 4) (kAlloc [(.int .i64 0),(.int .i64 0)] (tag 60)) (oVal .none (kStore 2 (.tmp 4) (.tmp 14)) oNil)))
def K48r5:OpsF:=(oVal (.tmp 15) (kMove (.tmp 0)) (oVal (.tmp 16) (kUn lenSlA (.tmp 15)) (oVal (.tmp 17) (kMove (.con (.int .i64 0))) oNil)))
def K48r6:OpsF:=(oVal (.tmp 18) (kInt aLss (.tmp 17) (.tmp 16)) oNil)
def K48r7:OpsF:=(oVal (.tmp 19) (kTwo (ixsA 2) (.tmp 15) (.tmp 17)) (oVal (.tmp 20) (kLoad (some 2) (.tmp 19)) (oVal (.tmp 6) (kAlloc [(.int .i64 0),(.int .i64 0)] (tag 60)) (oVal .none (kStore 2 (.tmp 6) (.tmp 20)) oNil))))
def K48r8s17:OpsF:=(oVal (.tmp 38) (kPick (.tmp 32) (.tmp 37) (.con (.bool false))) (oCall (.tmp 39) (.con (.func 20 [] [])) [(.tmp 38),(.con (.int .i64 5))] (oVal (.tmp 40) (kBuildSlice [(.int .i64 0),(.int .i64 0),(.int .i64 0)] 3 [(0,1,(.tmp 23)),(1,1,(.tmp 26)),(2,1,(.tmp 39))]) (oCall (.tmp 41) (.con (.func 17 [] [])) [(.tmp 40)] (oVal (.tmp 7) (kMove (.tmp 41)) oNil)))))
def K48r8s16:OpsF:=(oIf 32 true (oVal (.tmp 37) (kInt aGeq (.tmp 34) (.tmp 36)) K48r8s17) (oSkip (.tmp 37) K48r8s17))
def K48r8s15:OpsF:=(oIf 32 true (oVal (.tmp 36) (kLoad none (.tmp 35)) K48r8s16) (oSkip (.tmp 36) K48r8s16))
def K48r8s14:OpsF:=(oIf 32 true (oVal (.tmp 35) (kUn (fadA 1) (.tmp 4)) K48r8s15) (oSkip (.tmp 35) K48r8s15))
def K48r8s13:OpsF:=(oIf 32 true (oVal (.tmp 34) (kLoad none (.tmp 33)) K48r8s14) (oSkip (.tmp 34) K48r8s14))
def K48r8:OpsF:=(oEnd [] (oVal (.tmp 21) (kUn (fadA 0) (.tmp 6)) (oVal (.tmp 22) (kLoad none (.tmp 21)) (oCallT (some [24,27,29]) (.tmp 23) (.con (.func 19 [] [])) [(.tmp 22),(.con (.int .i64 (-300))),(.con (.int .i64 400))] (oVal (.tmp 24) (kUn (fadA 1) (.tmp 6)) (oVal (.tmp 25) (kLoad none (.tmp 24)) (oCallT (some [27,29]) (.tmp 26) (.con (.func 19 [] [])) [(.tmp 25),(.con (.int .i64 0)),(.con (.int .i64 1000))] (oVal (.tmp 27) (kUn (fadA 0) (.tmp 6)) (oVal (.tmp 28) (kLoad none (.tmp 27)) (oVal (.tmp 29) (kUn (fadA 0) (.tmp 4)) (oVal (.tmp 30) (kLoad none (.tmp 29)) (oVal (.tmp 31) (kGtr (.tmp 28) (.tmp 30)) (oVal (.tmp 32) (kMove (.tmp 31)) (oIf 32 true (oVal (.tmp 33) (kUn (fadA 1) (.tmp 6)) K48r8s13) (oSkip (.tmp 33) K48r8s13)))))))))))))))
def K48r9:OpsF:=(oVal (.tmp 42) (kMove (.tmp 7)) (oVal (.tmp 43) (kInt aNeq (.tmp 42) (.con (.int .i64 0))) oNil))
def K48r10:OpsF:=(oVal (.tmp 44) (kMove (.tmp 7)) (oVal (.tmp 2) (kMove (.tmp 44)) oNil))
def K48r11:OpsF:=(oVal (.tmp 45) (kLoad (some 2) (.tmp 6)) (oVal .none (kStore 2 (.tmp 4) (.tmp 45)) oNil))
def K48r12:OpsF:=(oVal (.tmp 46) (kInt aAdd (.tmp 17) (.con (.int .i64 1))) (oVal (.tmp 17) (kMove (.tmp 46)) oNil))
def K48l0:K:=(kSeq (kRegion K48r6 [18]) (kSeq (kCond (.tmp 18) kSkip (kExit 0)) (kSeq (kBlock 1 (kSeq (kRegion K48r7 [6]) (kSeq (kRegionD K48r8 [7]) (kSeq (kSeq (kRegion K48r9 [43]) (kCond (.tmp 43) (kSeq (kRegion K48r10 [2]) kRet) kSkip)) (kRegion K48r11 []))))) (kRegion K48r12 [17]))))
def K48r13:OpsF:=(oVal (.tmp 2) (kMove (.con (.int .i64 0))) oNil)
theorem res48:Try.f48.results.toList=[.tmp 2]:=by kernel_rfl
def K48:K:=(kSeq (kRegion K48r0 [2]) (kSeq (kSeq (kRegion K48r1 [3]) (kSeq (kRegion K48r2 [12]) (kCond (.tmp 12) (kSeq (kRegion K48r3 [2]) kRet) kSkip))) (kSeq (kRegion K48r4 [4]) (kSeq (kSeq (kRegion K48r5 [15,16,17]) (kBlock 0 (kLoop K48l0))) (kSeq (kRegion K48r13 [2]) kRet)))))
theorem enter48 (cl:CallF) (a0:AV) (s:St):enterA Try.prog X cl 48 [a0] s Try.f48=finA Try.prog Try.f48 (K48 cl ⟨48,none,Try.f48.ntmps,X 48⟩ (paramsEnv 0 [a0] .nil) [] s) :=
  enterA_eq (b:=Try.f48.body.getD .skip) (by kernel_rfl) (by kernel_rfl) (by kernel_rfl) (by kernel_rfl) (by kernel_rfl)
def K45r0:OpsF:=(oVal (.tmp 1) (kBox (tag 26) (.tmp 0)) (oVal (.tmp 2) (kMove (.con (.int .i64 0))) oNil))
def K45r1:OpsF:=(oVal (.tmp 3) (kLoad (some 2) (.tmp 1)) (oCall (.tmp 4) (.con (.func 63 [] [])) [(.tmp 3),(.con (.int .i64 (-300))),(.con (.int .i64 400))] (oVal (.tmp 2) (kMove (.tmp 4)) oNil)))
theorem res45:Try.f45.results.toList=[.tmp 2]:=by kernel_rfl
def K45:K:=(kSeq (kRegion K45r0 [1,2]) (kSeq (kRegion K45r1 [2]) kRet))
theorem enter45 (cl:CallF) (a0:AV) (s:St):enterA Try.prog X cl 45 [a0] s Try.f45=finA Try.prog Try.f45 (K45 cl ⟨45,none,Try.f45.ntmps,X 45⟩ (paramsEnv 0 [a0] .nil) [] s) :=
  enterA_eq (b:=Try.f45.body.getD .skip) (by kernel_rfl) (by kernel_rfl) (by kernel_rfl) (by kernel_rfl) (by kernel_rfl)
end
end Go.Proofs.Ytanecldpcceaoaa.code
set_option maxRecDepth 100000
namespace Go.Proofs.Ytanecldpcceaoaa.code
open Go.Abs
noncomputable section
def K33r0:OpsF:=(oVal (.tmp 2) (kBox (tag 31) (.tmp 0)) (oVal (.tmp 3) (kBox (tag 3) (.tmp 1)) (oVal (.tmp 4) (kAlloc [(.int .i64 0),(.int .i64 0),(.int .i64 0),(.int .i64 0),(.int .i64 0),(.int .i64 0),(.int .i64 0),(.int .i64 0),(.int .i64 0),(.int .i64 0),(.int .i64 0),(.int .i64 0),.nilslice] (tag 86)) oNil)))
def K33r1:OpsF:=(oVal (.tmp 6) (kFunc 50 [] [(.tmp 3)]) (oVal (.tmp 5) (kMove (.tmp 6)) oNil))
def K33r2:OpsF:=(oEnd [] (oVal (.tmp 7) (kUn (fadA 2) (.tmp 2)) (oVal (.tmp 8) (kLoad none (.tmp 7)) (oVal (.tmp 9) (kLoad none (.tmp 3)) (oVal (.tmp 10) (kTwo (ixsA 9) (.tmp 8) (.tmp 9)) (oVal (.tmp 11) (kLoad (some 9) (.tmp 10)) (oVal (.tmp 12) (kUn (fadA 2) (.tmp 2)) (oVal (.tmp 13) (kLoad none (.tmp 12)) (oVal (.tmp 14) (kLoad none (.tmp 3)) (oVal (.tmp 15) (kTwo (ixsA 9) (.tmp 13) (.tmp 14)) (oVal (.tmp 16) (kUn (fadA 1) (.tmp 15)) (oVal (.tmp 17) (kLoad (some 2) (.tmp 16)) (oCallT (some [7,3,10,19]) (.tmp 18) (.con (.func 51 [] [])) [(.tmp 17)] (oVal (.tmp 19) (kUn (fadA 3) (.tmp 2)) (oVal (.tmp 20) (kLoad none (.tmp 19)) (oCallT (some [7,3,10]) (.tmp 21) (.con (.func 53 [] [])) [(.tmp 20)] (oVal (.tmp 22) (kMove (.tmp 5)) (oCallT (some [7,3,10]) (.tmp 23) (.con (.func 52 [] [])) [(.tmp 21),(.tmp 22)] (oVal (.tmp 24) (kBuild [(.int .i64 0),(.int .i64 0),(.int .i64 0),(.int .i64 0),(.int .i64 0),(.int .i64 0),(.int .i64 0),(.int .i64 0),(.int .i64 0),(.int .i64 0),(.int .i64 0),(.int .i64 0),.nilslice] [(0,9,(.tmp 11)),(10,2,(.tmp 18)),(12,1,(.tmp 23))]) (oVal .none (kStore 13 (.tmp 4) (.tmp 24)) oNil))))))))))))))))))))
theorem res33:Try.f33.results.toList=[.cell 4 86]:=by kernel_rfl
def K33:K:=(kSeq (kRegion K33r0 [2,3,4]) (kSeq (kRegion K33r1 [5]) (kSeq (kRegionD K33r2 []) kRet)))
theorem enter33 (cl:CallF) (a0 a1:AV) (s:St):enterA Try.prog X cl 33 [a0,a1] s Try.f33=finA Try.prog Try.f33 (K33 cl ⟨33,none,Try.f33.ntmps,X 33⟩ (paramsEnv 0 [a0,a1] .nil) [] s) :=
  enterA_eq (b:=Try.f33.body.getD .skip) (by kernel_rfl) (by kernel_rfl) (by kernel_rfl) (by kernel_rfl) (by kernel_rfl)
def K35r0:OpsF:=(oVal (.tmp 2) (kBox (tag 110) (.tmp 0)) (oVal (.tmp 3) (kBox (tag 3) (.tmp 1)) (oVal (.tmp 4) (kMove (.con .nilfunc)) oNil)))
def K35r1:OpsF:=(oVal (.tmp 5) (kFunc 54 [] [(.tmp 2),(.tmp 3)]) (oVal (.tmp 4) (kMove (.tmp 5)) oNil))
theorem res35:Try.f35.results.toList=[.tmp 4]:=by kernel_rfl
def K35:K:=(kSeq (kRegion K35r0 [2,3,4]) (kSeq (kRegion K35r1 [4]) kRet))
theorem enter35 (cl:CallF) (a0 a1:AV) (s:St):enterA Try.prog X cl 35 [a0,a1] s Try.f35=finA Try.prog Try.f35 (K35 cl ⟨35,none,Try.f35.ntmps,X 35⟩ (paramsEnv 0 [a0,a1] .nil) [] s) :=
  enterA_eq (b:=Try.f35.body.getD .skip) (by kernel_rfl) (by kernel_rfl) (by kernel_rfl) (by kernel_rfl) (by kernel_rfl)
def K50r0:OpsF:=(oVal (.tmp 2) (kBox (tag 58) (.tmp 0)) (oVal (.tmp 3) (kMove (.con (.bool false))) oNil))
def K50r1:OpsF:=(oVal (.tmp 4) (kUn (fadA 0) (.tmp 2)) (oVal (.tmp 5) (kLoad none (.tmp 4)) (oVal (.tmp 6) (kLoad none (.tmp 1)) (oVal (.tmp 7) (kInt aNeq (.tmp 5) (.tmp 6)) (oVal (.tmp 3) (kMove (.tmp 7)) oNil)))))
theorem res50:Try.f50.results.toList=[.tmp 3]:=by kernel_rfl
def K50:K:=(kSeq (kRegion K50r0 [2,3]) (kSeq (kRegion K50r1 [3]) kRet))
theorem enter50 (cl:CallF) (a0 a1:AV) (s:St):enterA Try.prog X cl 50 [a0,a1] s Try.f50=finA Try.prog Try.f50 (K50 cl ⟨50,none,Try.f50.ntmps,X 50⟩ (paramsEnv 0 [a0,a1] .nil) [] s) :=
  enterA_eq (b:=Try.f50.body.getD .skip) (by kernel_rfl) (by kernel_rfl) (by kernel_rfl) (by kernel_rfl) (by kernel_rfl)
def K51r0:OpsF:=(oVal (.tmp 1) (kBox (tag 26) (.tmp 0)) (oVal (.tmp 2) (kAlloc [(.int .i64 0),(.int .i64 0)] (tag 84)) oNil))
def K51r1:OpsF:=(oVal (.tmp 3) (kUn (fadA 0) (.tmp 1)) (oVal (.tmp 4) (kLoad none (.tmp 3)) (oVal (.tmp 5) (kUn (fadA 1) (.tmp 1)) (oVal (.tmp 6) (kLoad none (.tmp 5)) (oVal (.tmp 7) (kBuild [(.int .i64 0),(.int .i64 0)] [(0,1,(.tmp 4)),(1,1,(.tmp 6))]) (oVal .none (kStore 2 (.tmp 2) (.tmp 7)) oNil))))))
theorem res51:Try.f51.results.toList=[.cell 2 84]:=by kernel_rfl
def K51:K:=(kSeq (kRegion K51r0 [1,2]) (kSeq (kRegion K51r1 []) kRet))
theorem enter51 (cl:CallF) (a0:AV) (s:St):enterA Try.prog X cl 51 [a0] s Try.f51=finA Try.prog Try.f51 (K51 cl ⟨51,none,Try.f51.ntmps,X 51⟩ (paramsEnv 0 [a0] .nil) [] s) :=
  enterA_eq (b:=Try.f51.body.getD .skip) (by kernel_rfl) (by kernel_rfl) (by kernel_rfl) (by kernel_rfl) (by kernel_rfl)
def K52r0:OpsF:=(oVal (.tmp 4) (kMove (.con .nilslice)) oNil)
def K52r1:OpsF:=(oVal (.tmp 8) (kMove (.tmp 0)) (oVal (.tmp 9) (kMove (.tmp 1)) (oCall (.tmp 10) (.con (.func 64 [] [])) [(.tmp 8),(.tmp 9)] (oVal (.tmp 5) (kMove (.tmp 10)) oNil))))
def K52r2:OpsF:=(oVal (.tmp 11) (kMove (.tmp 5)) (oVal (.tmp 12) (kInt aEql (.tmp 11) (.con (.int .i64 (-1)))) oNil))
def K52r3:OpsF:=(oVal (.tmp 13) (kMove (.tmp 0)) (oVal (.tmp 4) (kMove (.tmp 13)) oNil))
def K52r4:OpsF:=(oVal (.tmp 14) (kMove (.tmp 5)) (oVal (.tmp 15) (kInt aAdd (.tmp 14) (.con (.int .i64 1))) (oVal (.tmp 6) (kMove (.tmp 15)) oNil)))
def K52r5:OpsF:=(oVal (.tmp 16) (kMove (.tmp 6)) (oVal (.tmp 17) (kMove (.tmp 0)) (oVal (.tmp 18) (kUn lenSlA (.tmp 17)) (oVal (.tmp 19) (kInt aLss (.tmp 16) (.tmp 18)) oNil))))
def K52r6:OpsF:=(oVal (.tmp 22) (kMove (.tmp 0)) (oVal (.tmp 23) (kMove (.tmp 6)) (oVal (.tmp 24) (kTwo (ixsA 3) (.tmp 22) (.tmp 23)) (oVal (.tmp 25) (kLoad (some 3) (.tmp 24)) (oVal (.tmp 7) (kAlloc [(.int .i64 0),(.int .i64 0),(.int .i64 0)] (tag 58)) (oVal .none (kStore 3 (.tmp 7) (.tmp 25)) oNil))))))
def K52r7:OpsF:=(oVal (.tmp 26) (kMove (.tmp 1)) (oVal (.tmp 27) (kLoad (some 3) (.tmp 7)) (oCall (.tmp 28) (.tmp 26) [(.tmp 27)] (oVal (.tmp 29) (kUn notA (.tmp 28)) oNil))))
def K52r8:OpsF:=(oVal (.tmp 30) (kMove (.tmp 0)) (oVal (.tmp 31) (kMove (.tmp 5)) (oVal (.tmp 32) (kLoad (some 3) (.tmp 7)) (oVal (.tmp 33) (kTwo (ixsA 3) (.tmp 30) (.tmp 31)) (oVal .none (kStore 3 (.tmp 33) (.tmp 32)) oNil)))))
def K52r9:OpsF:=(oVal (.tmp 34) (kMove (.tmp 5)) (oVal (.tmp 35) (kInt aAdd (.tmp 34) (.con (.int .i64 1))) (oVal (.tmp 5) (kMove (.tmp 35)) oNil)))
def K52r10:OpsF:=(oVal (.tmp 20) (kMove (.tmp 6)) (oVal (.tmp 21) (kInt aAdd (.tmp 20) (.con (.int .i64 1))) (oVal (.tmp 6) (kMove (.tmp 21)) oNil)))
def K52l0:K:=(kSeq (kSeq (kRegion K52r5 [19]) (kCond (.tmp 19) kSkip (kExit 0))) (kSeq (kBlock 1 (kSeq (kRegion K52r6 [7]) (kSeq (kRegion K52r7 [29]) (kCond (.tmp 29) (kSeq (kRegion K52r8 []) (kRegion K52r9 [5])) kSkip)))) (kRegion K52r10 [6])))
def K52r11:OpsF:=(oVal (.tmp 36) (kMove (.tmp 0)) (oVal (.tmp 37) (kMove (.tmp 5)) (oVal (.tmp 38) (kSlice (sliceVal 3) (.tmp 36) (some (.tmp 37)) none) (oVal .none (kUn (clearA [(.int .i64 0),(.int .i64 0),(.int .i64 0)]) (.tmp 38)) oNil))))
def K52r12:OpsF:=(oVal (.tmp 39) (kMove (.tmp 0)) (oVal (.tmp 40) (kMove (.tmp 5)) (oVal (.tmp 41) (kSlice (sliceVal 3) (.tmp 39) none (some (.tmp 40))) (oVal (.tmp 4) (kMove (.tmp 41)) oNil))))
theorem res52:Try.f52.results.toList=[.tmp 4]:=by kernel_rfl
def K52:K:=(kSeq (kRegion K52r0 [4]) (kSeq (kRegion K52r1 [5]) (kSeq (kSeq (kRegion K52r2 [12]) (kCond (.tmp 12) (kSeq (kRegion K52r3 [4]) kRet) kSkip)) (kSeq (kSeq (kRegion K52r4 [6]) (kBlock 0 (kLoop K52l0))) (kSeq (kRegion K52r11 []) (kSeq (kRegion K52r12 [4]) kRet))))))
theorem enter52 (cl:CallF) (a0 a1:AV) (s:St):enterA Try.prog X cl 52 [a0,a1] s Try.f52=finA Try.prog Try.f52 (K52 cl ⟨52,none,Try.f52.ntmps,X 52⟩ (paramsEnv 0 [a0,a1] .nil) [] s) :=
  enterA_eq (b:=Try.f52.body.getD .skip) (by kernel_rfl) (by kernel_rfl) (by kernel_rfl) (by kernel_rfl) (by kernel_rfl)
def K53r0:OpsF:=(oVal (.tmp 2) (kMove (.con .nilslice)) oNil)
def K53r1:OpsF:=(oVal (.tmp 3) (kMove (.tmp 0)) (oVal (.tmp 4) (kEql .nilS false (.tmp 3) (.con .nilslice)) oNil))
def K53r2:OpsF:=(oVal (.tmp 2) (kMove (.con .nilslice)) oNil)
def K53r3:OpsF:=(oVal (.tmp 5) (kBuildSlice [] 0 []) (oVal (.tmp 6) (kMove (.tmp 0)) (oVal (.tmp 7) (kTwo (appendA false 3 24 (tag 58)) (.tmp 5) (.tmp 6)) (oVal (.tmp 2) (kMove (.tmp 7)) oNil))))
theorem res53:Try.f53.results.toList=[.tmp 2]:=by kernel_rfl
def K53:K:=(kSeq (kRegion K53r0 [2]) (kSeq (kSeq (kRegion K53r1 [4]) (kCond (.tmp 4) (kSeq (kRegion K53r2 [2]) kRet) kSkip)) (kSeq (kRegion K53r3 [2]) kRet)))
theorem enter53 (cl:CallF) (a0:AV) (s:St):enterA Try.prog X cl 53 [a0] s Try.f53=finA Try.prog Try.f53 (K53 cl ⟨53,none,Try.f53.ntmps,X 53⟩ (paramsEnv 0 [a0] .nil) [] s) :=
  enterA_eq (b:=Try.f53.body.getD .skip) (by kernel_rfl) (by kernel_rfl) (by kernel_rfl) (by kernel_rfl) (by kernel_rfl)
def K54r0:OpsF:=(oEnd [] (oVal (.tmp 4) (kLoad none (.tmp 1)) (oVal (.tmp 5) (kUn nilA (.tmp 4)) (oVal (.tmp 6) (kUn (fadA 9) (.tmp 5)) (oVal (.tmp 7) (kLoad none (.tmp 6)) (oVal (.tmp 8) (kLoad none (.tmp 2)) (oVal (.tmp 9) (kInt aLss (.tmp 7) (.tmp 8)) oNil)))))))
def K54r1:OpsF:=(oVal (.tmp 10) (kLoad none (.tmp 1)) (oCall (.tmp 11) (.con (.func 55 [] [])) [(.tmp 10)] oNil))
def K54r2:OpsF:=(oEnd [] (oVal (.tmp 12) (kMove (.tmp 0)) (oVal (.tmp 13) (kLoad none (.tmp 1)) (oVal (.tmp 14) (kUn nilA (.tmp 13)) (oVal (.tmp 15) (kUn (fadA 9) (.tmp 14)) (oVal (.tmp 16) (kLoad none (.tmp 15)) (oVal (.tmp 17) (kLoad none (.tmp 1)) (oVal (.tmp 18) (kUn nilA (.tmp 17)) (oVal (.tmp 19) (kUn (fadA 10) (.tmp 18)) (oVal (.tmp 20) (kLoad (some 2) (.tmp 19)) (oCall (.tmp 21) (.tmp 12) [(.tmp 16),(.tmp 20)] (oVal (.tmp 22) (kUn notA (.tmp 21)) oNil))))))))))))
def K54r3:OpsF:=(oVal (.tmp 23) (kLoad none (.tmp 1)) (oCall (.tmp 24) (.con (.func 56 [] [])) [(.tmp 23)] oNil))
def K54r4:OpsF:=(oVal (.tmp 25) (kLoad none (.tmp 1)) (oVal (.tmp 26) (kUn nilA (.tmp 25)) (oVal (.tmp 27) (kUn (fadA 9) (.tmp 26)) (oVal (.tmp 28) (kLoad none (.tmp 27)) (oVal (.tmp 29) (kInt aAdd (.tmp 28) (.con (.int .i64 1))) (oVal (.tmp 30) (kUn nilA (.tmp 25)) (oVal (.tmp 31) (kUn (fadA 9) (.tmp 30)) (oVal .none (kStore 1 (.tmp 31) (.tmp 29)) oNil))))))))
def K54l0:K:=(kSeq (kSeq (kRegionD K54r0 [9]) (kCond (.tmp 9) kSkip (kExit 0))) (kBlock 1 (kSeq (kRegion K54r1 []) (kSeq (kSeq (kRegionD K54r2 [22]) (kCond (.tmp 22) kRet kSkip)) (kSeq (kRegion K54r3 []) (kRegion K54r4 []))))))
theorem res54:Try.f54.results.toList=[]:=by kernel_rfl
def K54:K:=(kBlock 0 (kLoop K54l0))
theorem enter54 (cl:CallF) (a0 a1 a2:AV) (s:St):enterA Try.prog X cl 54 [a0,a1,a2] s Try.f54=finA Try.prog Try.f54 (K54 cl ⟨54,none,Try.f54.ntmps,X 54⟩ (paramsEnv 0 [a0,a1,a2] .nil) [] s) :=
  enterA_eq (b:=Try.f54.body.getD .skip) (by kernel_rfl) (by kernel_rfl) (by kernel_rfl) (by kernel_rfl) (by kernel_rfl)
def K55r0s19:OpsF:=(oVal (.tmp 21) (kPick (.tmp 8) (.tmp 20) (.con (.bool false))) oNil)
def K55r0s18:OpsF:=(oIf 8 true (oVal (.tmp 20) (kInt aEql (.tmp 15) (.tmp 19)) K55r0s19) (oSkip (.tmp 20) K55r0s19))
def K55r0s17:OpsF:=(oIf 8 true (oVal (.tmp 19) (kLoad none (.tmp 18)) K55r0s18) (oSkip (.tmp 19) K55r0s18))
def K55r0s16:OpsF:=(oIf 8 true (oVal (.tmp 18) (kUn (fadA 9) (.tmp 17)) K55r0s17) (oSkip (.tmp 18) K55r0s17))
def K55r0s15:OpsF:=(oIf 8 true (oVal (.tmp 17) (kUn nilA (.tmp 16)) K55r0s16) (oSkip (.tmp 17) K55r0s16))
def K55r0s14:OpsF:=(oIf 8 true (oVal (.tmp 16) (kMove (.tmp 0)) K55r0s15) (oSkip (.tmp 16) K55r0s15))
def K55r0s13:OpsF:=(oIf 8 true (oVal (.tmp 15) (kLoad none (.tmp 14)) K55r0s14) (oSkip (.tmp 15) K55r0s14))
def K55r0s12:OpsF:=(oIf 8 true (oVal (.tmp 14) (kUn (fadA 1) (.tmp 13)) K55r0s13) (oSkip (.tmp 14) K55r0s13))
def K55r0s11:OpsF:=(oIf 8 true (oVal (.tmp 13) (kTwo (ixsA 3) (.tmp 12) (.con (.int .i64 0))) K55r0s12) (oSkip (.tmp 13) K55r0s12))
def K55r0s10:OpsF:=(oIf 8 true (oVal (.tmp 12) (kLoad none (.tmp 11)) K55r0s11) (oSkip (.tmp 12) K55r0s11))
def K55r0s9:OpsF:=(oIf 8 true (oVal (.tmp 11) (kUn (fadA 12) (.tmp 10)) K55r0s10) (oSkip (.tmp 11) K55r0s10))
def K55r0s8:OpsF:=(oIf 8 true (oVal (.tmp 10) (kUn nilA (.tmp 9)) K55r0s9) (oSkip (.tmp 10) K55r0s9))
def K55r0:OpsF:=(oEnd [] (oVal (.tmp 2) (kMove (.tmp 0)) (oVal (.tmp 3) (kUn nilA (.tmp 2)) (oVal (.tmp 4) (kUn (fadA 12) (.tmp 3)) (oVal (.tmp 5) (kLoad none (.tmp 4)) (oVal (.tmp 6) (kUn lenSlA (.tmp 5)) (oVal (.tmp 7) (kGtr (.tmp 6) (.con (.int .i64 0))) (oVal (.tmp 8) (kMove (.tmp 7)) (oIf 8 true (oVal (.tmp 9) (kMove (.tmp 0)) K55r0s8) (oSkip (.tmp 9) K55r0s8))))))))))
def K55r1:OpsF:=(oVal (.tmp 22) (kMove (.tmp 0)) (oVal (.tmp 23) (kMove (.tmp 0)) (oVal (.tmp 24) (kUn nilA (.tmp 23)) (oVal (.tmp 25) (kUn (fadA 12) (.tmp 24)) (oVal (.tmp 26) (kLoad none (.tmp 25)) (oVal (.tmp 27) (kTwo (ixsA 3) (.tmp 26) (.con (.int .i64 0))) (oVal (.tmp 28) (kUn (fadA 2) (.tmp 27)) (oVal (.tmp 29) (kLoad none (.tmp 28)) (oCall (.tmp 30) (.con (.func 65 [] [])) [(.tmp 22),(.tmp 29)] oNil)))))))))
def K55r2:OpsF:=(oVal (.tmp 31) (kMove (.tmp 0)) (oVal (.tmp 32) (kMove (.tmp 0)) (oVal (.tmp 33) (kUn nilA (.tmp 32)) (oVal (.tmp 34) (kUn (fadA 12) (.tmp 33)) (oVal (.tmp 35) (kLoad none (.tmp 34)) (oVal (.tmp 36) (kSlice (sliceVal 3) (.tmp 35) (some (.con (.int .i64 1))) none) (oVal (.tmp 37) (kUn nilA (.tmp 31)) (oVal (.tmp 38) (kUn (fadA 12) (.tmp 37)) (oVal .none (kStore 1 (.tmp 38) (.tmp 36)) oNil)))))))))
def K55l0:K:=(kSeq (kSeq (kRegionD K55r0 [21]) (kCond (.tmp 21) kSkip (kExit 0))) (kBlock 1 (kSeq (kRegion K55r1 []) (kRegion K55r2 []))))
theorem res55:Try.f55.results.toList=[]:=by kernel_rfl
def K55:K:=(kBlock 0 (kLoop K55l0))
theorem enter55 (cl:CallF) (a0:AV) (s:St):enterA Try.prog X cl 55 [a0] s Try.f55=finA Try.prog Try.f55 (K55 cl ⟨55,none,Try.f55.ntmps,X 55⟩ (paramsEnv 0 [a0] .nil) [] s) :=
  enterA_eq (b:=Try.f55.body.getD .skip) (by kernel_rfl) (by kernel_rfl) (by kernel_rfl) (by kernel_rfl) (by kernel_rfl)
def K56r0:OpsF:=(oEnd [] (oVal (.tmp 2) (kMove (.tmp 0)) (oVal (.tmp 3) (kMove (.tmp 0)) (oVal (.tmp 4) (kUn nilA (.tmp 3)) (oVal (.tmp 5) (kUn (fadA 10) (.tmp 4)) (oVal (.tmp 6) (kTwo (ixaA 2 1) (.tmp 5) (.con (.int .i64 0))) (oVal (.tmp 7) (kLoad none (.tmp 6)) (oVal (.tmp 8) (kMove (.tmp 0)) (oVal (.tmp 9) (kUn nilA (.tmp 8)) (oVal (.tmp 10) (kUn (fadA 0) (.tmp 9)) (oVal (.tmp 11) (kUn (fadA 3) (.tmp 10)) (oVal (.tmp 12) (kUn (fadA 1) (.tmp 11)) (oVal (.tmp 13) (kLoad none (.tmp 12)) (oVal (.tmp 14) (kInt aSub (.tmp 7) (.tmp 13)) (oVal (.tmp 15) (kFold maxA (.con (.int .i64 0)) [(.tmp 14)]) (oVal (.tmp 16) (kUn nilA (.tmp 2)) (oVal (.tmp 17) (kUn (fadA 10) (.tmp 16)) (oVal (.tmp 18) (kTwo (ixaA 2 1) (.tmp 17) (.con (.int .i64 0))) (oVal .none (kStore 1 (.tmp 18) (.tmp 15)) oNil)))))))))))))))))))
def K56r1:OpsF:=(oEnd [] (oVal (.tmp 19) (kMove (.tmp 0)) (oVal (.tmp 20) (kMove (.tmp 0)) (oVal (.tmp 21) (kUn nilA (.tmp 20)) (oVal (.tmp 22) (kUn (fadA 10) (.tmp 21)) (oVal (.tmp 23) (kTwo (ixaA 2 1) (.tmp 22) (.con (.int .i64 1))) (oVal (.tmp 24) (kLoad none (.tmp 23)) (oVal (.tmp 25) (kMove (.tmp 0)) (oVal (.tmp 26) (kUn nilA (.tmp 25)) (oVal (.tmp 27) (kUn (fadA 0) (.tmp 26)) (oVal (.tmp 28) (kUn (fadA 3) (.tmp 27)) (oVal (.tmp 29) (kUn (fadA 0) (.tmp 28)) (oVal (.tmp 30) (kLoad none (.tmp 29)) (oVal (.tmp 31) (kInt aSub (.tmp 24) (.tmp 30)) (oVal (.tmp 32) (kFold maxA (.con (.int .i64 0)) [(.tmp 31)]) (oVal (.tmp 33) (kUn nilA (.tmp 19)) (oVal (.tmp 34) (kUn (fadA 10) (.tmp 33)) (oVal (.tmp 35) (kTwo (ixaA 2 1) (.tmp 34) (.con (.int .i64 1))) (oVal .none (kStore 1 (.tmp 35) (.tmp 32)) oNil)))))))))))))))))))
theorem res56:Try.f56.results.toList=[]:=by kernel_rfl
def K56:K:=(kSeq (kRegionD K56r0 []) (kRegionD K56r1 []))
theorem enter56 (cl:CallF) (a0:AV) (s:St):enterA Try.prog X cl 56 [a0] s Try.f56=finA Try.prog Try.f56 (K56 cl ⟨56,none,Try.f56.ntmps,X 56⟩ (paramsEnv 0 [a0] .nil) [] s) :=
  enterA_eq (b:=Try.f56.body.getD .skip) (by kernel_rfl) (by kernel_rfl) (by kernel_rfl) (by kernel_rfl) (by kernel_rfl)
def K64r0:OpsF:=(oVal (.tmp 4) (kMove (.con (.int .i64 0))) oNil)
def K64r1:OpsF:=(oVal (.tmp 6) (kMove (.tmp 0)) (oVal (.tmp 7) (kUn lenSlA (.tmp 6)) (oVal (.tmp 8) (kMove (.con (.int .i64 0))) oNil)))
def K64r2:OpsF:=(oVal (.tmp 9) (kInt aLss (.tmp 8) (.tmp 7)) oNil)
def K64r3:OpsF:=(oVal (.tmp 10) (kMove (.tmp 8)) (oVal (.tmp 5) (kMove (.tmp 10)) oNil))
def K64r4:OpsF:=(oVal (.tmp 11) (kMove (.tmp 1)) (oVal (.tmp 12) (kMove (.tmp 0)) (oVal (.tmp 13) (kMove (.tmp 5)) (oVal (.tmp 14) (kTwo (ixsA 3) (.tmp 12) (.tmp 13)) (oVal (.tmp 15) (kLoad (some 3) (.tmp 14)) (oCall (.tmp 16) (.tmp 11) [(.tmp 15)] oNil))))))
def K64r5:OpsF:=(oVal (.tmp 17) (kMove (.tmp 5)) (oVal (.tmp 4) (kMove (.tmp 17)) oNil))
def K64r6:OpsF:=(oVal (.tmp 18) (kInt aAdd (.tmp 8) (.con (.int .i64 1))) (oVal (.tmp 8) (kMove (.tmp 18)) oNil))
def K64l0:K:=(kSeq (kRegion K64r2 [9]) (kSeq (kCond (.tmp 9) kSkip (kExit 0)) (kSeq (kBlock 1 (kSeq (kRegion K64r3 [5]) (kSeq (kRegion K64r4 [16]) (kCond (.tmp 16) (kSeq (kRegion K64r5 [4]) kRet) kSkip)))) (kRegion K64r6 [8]))))
def K64r7:OpsF:=(oVal (.tmp 4) (kMove (.con (.int .i64 (-1)))) oNil)
theorem res64:Try.f64.results.toList=[.tmp 4]:=by kernel_rfl
def K64:K:=(kSeq (kRegion K64r0 [4]) (kSeq (kSeq (kRegion K64r1 [7,8]) (kBlock 0 (kLoop K64l0))) (kSeq (kRegion K64r7 [4]) kRet)))
theorem enter64 (cl:CallF) (a0 a1:AV) (s:St):enterA Try.prog X cl 64 [a0,a1] s Try.f64=finA Try.prog Try.f64 (K64 cl ⟨64,none,Try.f64.ntmps,X 64⟩ (paramsEnv 0 [a0,a1] .nil) [] s) :=
  enterA_eq (b:=Try.f64.body.getD .skip) (by kernel_rfl) (by kernel_rfl) (by kernel_rfl) (by kernel_rfl) (by kernel_rfl)
def K65r0:OpsF:=(oVal (.tmp 5) (kMove (.con (.int .i64 0))) oNil)
def K65r1:OpsF:=(oVal (.tmp 6) (kInt aLss (.tmp 5) (.con (.int .i64 2))) oNil)
def K65r2:OpsF:=(oVal (.tmp 7) (kMove (.tmp 5)) (oVal (.tmp 4) (kMove (.tmp 7)) oNil))
def K65r3:OpsF:=(oEnd [] (oVal (.tmp 8) (kMove (.tmp 0)) (oVal (.tmp 9) (kMove (.tmp 4)) (oVal (.tmp 10) (kMove (.tmp 0)) (oVal (.tmp 11) (kMove (.tmp 4)) (oVal (.tmp 12) (kUn nilA (.tmp 10)) (oVal (.tmp 13) (kUn (fadA 10) (.tmp 12)) (oVal (.tmp 14) (kTwo (ixaA 2 1) (.tmp 13) (.tmp 11)) (oVal (.tmp 15) (kLoad none (.tmp 14)) (oVal (.tmp 16) (kMove (.tmp 1)) (oVal (.tmp 17) (kInt aAdd (.tmp 15) (.tmp 16)) (oVal (.tmp 18) (kMove (.tmp 0)) (oVal (.tmp 19) (kUn nilA (.tmp 18)) (oVal (.tmp 20) (kUn (fadA 0) (.tmp 19)) (oVal (.tmp 21) (kUn (fadA 0) (.tmp 20)) (oVal (.tmp 22) (kLoad none (.tmp 21)) (oVal (.tmp 23) (kFold minA (.tmp 17) [(.tmp 22)]) (oVal (.tmp 24) (kUn nilA (.tmp 8)) (oVal (.tmp 25) (kUn (fadA 10) (.tmp 24)) (oVal (.tmp 26) (kTwo (ixaA 2 1) (.tmp 25) (.tmp 9)) (oVal .none (kStore 1 (.tmp 26) (.tmp 23)) oNil)))))))))))))))))))))
def K65r4:OpsF:=(oVal (.tmp 27) (kInt aAdd (.tmp 5) (.con (.int .i64 1))) (oVal (.tmp 5) (kMove (.tmp 27)) oNil))
def K65l0:K:=(kSeq (kRegion K65r1 [6]) (kSeq (kCond (.tmp 6) kSkip (kExit 0)) (kSeq (kBlock 1 (kSeq (kRegion K65r2 [4]) (kRegionD K65r3 []))) (kRegion K65r4 [5]))))
theorem res65:Try.f65.results.toList=[]:=by kernel_rfl
def K65:K:=(kSeq (kRegion K65r0 [5]) (kBlock 0 (kLoop K65l0)))
theorem enter65 (cl:CallF) (a0 a1:AV) (s:St):enterA Try.prog X cl 65 [a0,a1] s Try.f65=finA Try.prog Try.f65 (K65 cl ⟨65,none,Try.f65.ntmps,X 65⟩ (paramsEnv 0 [a0,a1] .nil) [] s) :=
  enterA_eq (b:=Try.f65.body.getD .skip) (by kernel_rfl) (by kernel_rfl) (by kernel_rfl) (by kernel_rfl) (by kernel_rfl)
end
end Go.Proofs.Ytanecldpcceaoaa.code
set_option maxRecDepth 100000
namespace Go.Proofs.Ytanecldpcceaoaa.code
open Go.Abs
noncomputable section
def K21r0:OpsF:=(oVal (.tmp 1) (kBox (tag 31) (.tmp 0)) (oVal (.tmp 2) (kAlloc [(.int .i64 0),(.int .i64 0),.nilslice,.nilslice,.nilslice,.nilslice] (tag 70)) oNil))
def K21r1:OpsF:=(oVal (.tmp 6) (kLoad (some 5) (.tmp 1)) (oVal (.tmp 7) (kBuild [(.int .i64 0),(.int .i64 0),.nilslice,.nilslice,.nilslice,.nilslice] [(0,5,(.tmp 6))]) (oVal (.tmp 3) (kAlloc [(.int .i64 0),(.int .i64 0),.nilslice,.nilslice,.nilslice,.nilslice] (tag 70)) (oVal .none (kStore 6 (.tmp 3) (.tmp 7)) oNil))))
def K21r2:OpsF:=(oVal (.tmp 8) (kUn (fadA 2) (.tmp 1)) (oVal (.tmp 9) (kLoad none (.tmp 8)) (oVal (.tmp 10) (kUn lenSlA (.tmp 9)) (oVal (.tmp 11) (kMove (.con (.int .i64 0))) oNil))))
def K21r3:OpsF:=(oVal (.tmp 12) (kInt aLss (.tmp 11) (.tmp 10)) oNil)
def K21r4:OpsF:=(oVal (.tmp 13) (kMove (.tmp 11)) (oVal (.tmp 4) (kMove (.tmp 13)) oNil))
def K21r5:OpsF:=(oVal (.tmp 14) (kLoad (some 5) (.tmp 1)) (oVal (.tmp 15) (kMove (.tmp 4)) (oCall (.tmp 16) (.con (.func 33 [] [])) [(.tmp 14),(.tmp 15)] (oVal (.tmp 5) (kAlloc [(.int .i64 0),(.int .i64 0),(.int .i64 0),(.int .i64 0),(.int .i64 0),(.int .i64 0),(.int .i64 0),(.int .i64 0),(.int .i64 0),(.int .i64 0),(.int .i64 0),(.int .i64 0),.nilslice] (tag 86)) (oVal .none (kStore 13 (.tmp 5) (.tmp 16)) oNil)))))
def K21r6:OpsF:=(oEnd [] (oVal (.tmp 17) (kUn (fadA 5) (.tmp 3)) (oVal (.tmp 18) (kLoad none (.tmp 17)) (oCallT (some [17]) (.tmp 19) (.con (.func 35 [] [])) [(.tmp 5),(.con (.int .i64 240))] (oVal (.tmp 20) (kFunc 36 [(.tmp 5)] []) (oCallT (some [17]) (.tmp 21) (.con (.func 34 [] [])) [(.tmp 19),(.tmp 20)] (oVal (.tmp 22) (kBuildSlice [.nilslice] 1 [(0,1,(.tmp 21))]) (oVal (.tmp 23) (kTwo (appendA false 1 24 (tag 88)) (.tmp 18) (.tmp 22)) (oVal (.tmp 24) (kUn (fadA 5) (.tmp 3)) (oVal .none (kStore 1 (.tmp 24) (.tmp 23)) oNil))))))))))
def K21r7:OpsF:=(oVal (.tmp 25) (kInt aAdd (.tmp 11) (.con (.int .i64 1))) (oVal (.tmp 11) (kMove (.tmp 25)) oNil))
def K21l0:K:=(kSeq (kRegion K21r3 [12]) (kSeq (kCond (.tmp 12) kSkip (kExit 0)) (kSeq (kBlock 1 (kSeq (kRegion K21r4 [4]) (kSeq (kRegion K21r5 [5]) (kRegionD K21r6 [])))) (kRegion K21r7 [11]))))
def K21r8:OpsF:=(oVal (.tmp 26) (kLoad (some 6) (.tmp 3)) (oVal .none (kStore 6 (.tmp 2) (.tmp 26)) oNil))
theorem res21:Try.f21.results.toList=[.cell 2 70]:=by kernel_rfl
def K21:K:=(kSeq (kRegion K21r0 [1,2]) (kSeq (kRegion K21r1 [3]) (kSeq (kSeq (kRegion K21r2 [10,11]) (kBlock 0 (kLoop K21l0))) (kSeq (kRegion K21r8 []) kRet))))
theorem enter21 (cl:CallF) (a0:AV) (s:St):enterA Try.prog X cl 21 [a0] s Try.f21=finA Try.prog Try.f21 (K21 cl ⟨21,none,Try.f21.ntmps,X 21⟩ (paramsEnv 0 [a0] .nil) [] s) :=
  enterA_eq (b:=Try.f21.body.getD .skip) (by kernel_rfl) (by kernel_rfl) (by kernel_rfl) (by kernel_rfl) (by kernel_rfl)
def K22r0:OpsF:=(oVal (.tmp 3) (kBox (tag 70) (.tmp 0)) (oVal (.tmp 4) (kBox (tag 35) (.tmp 1)) (oVal (.tmp 6) (kAlloc [(.int .i64 0),(.int .i64 0)] (tag 26)) oNil)))
def K22r1:OpsF:=(oEnd [] (oVal (.tmp 7) (kLoad (some 6) (.tmp 3)) (oVal (.tmp 8) (kLoad (some 3) (.tmp 4)) (oVal (.tmp 9) (kMove (.tmp 2)) (oCallT (some [3]) (.tmp 10) (.con (.func 38 [] [])) [(.tmp 7),(.tmp 8),(.tmp 9)] (oVal (.tmp 11) (kLoad (some 6) (.tmp 3)) (oVal (.tmp 12) (kFunc 39 [(.tmp 11)] []) (oCall (.tmp 13) (.con (.func 37 [] [])) [(.tmp 10),(.tmp 12)] (oVal .none (kStore 2 (.tmp 6) (.tmp 13)) oNil)))))))))
theorem res22:Try.f22.results.toList=[.cell 6 26]:=by kernel_rfl
def K22:K:=(kSeq (kRegion K22r0 [3,4,6]) (kSeq (kRegionD K22r1 []) kRet))
theorem enter22 (cl:CallF) (a0 a1 a2:AV) (s:St):enterA Try.prog X cl 22 [a0,a1,a2] s Try.f22=finA Try.prog Try.f22 (K22 cl ⟨22,none,Try.f22.ntmps,X 22⟩ (paramsEnv 0 [a0,a1,a2] .nil) [] s) :=
  enterA_eq (b:=Try.f22.body.getD .skip) (by kernel_rfl) (by kernel_rfl) (by kernel_rfl) (by kernel_rfl) (by kernel_rfl)
def K11r0:OpsF:=(oVal (.tmp 3) (kBox (tag 31) (.tmp 0)) (oVal (.tmp 4) (kBox (tag 35) (.tmp 1)) (oVal (.tmp 6) (kAlloc [(.int .i64 0),(.int .i64 0)] (tag 26)) (oVal (.tmp 7) (kMove (.con (.int .i64 0))) oNil))))
def K11r1:OpsF:=(oEnd [] (oVal (.tmp 9) (kLoad (some 5) (.tmp 3)) (oVal (.tmp 10) (kLoad (some 3) (.tmp 4)) (oCallT (some [15]) (.tmp 11) (.con (.func 18 [] [])) [(.tmp 9),(.tmp 10)] (oVal (.tmp 12) (kMove (.tmp 2)) (oCallT (some [15]) (.tmp 13) (.con (.func 19 [] [])) [(.tmp 12),(.con (.int .i64 0)),(.con (.int .i64 240))] (oVal (.tmp 14) (kMove (.tmp 2)) (oVal (.tmp 15) (kUn (fadA 0) (.tmp 4)) (oVal (.tmp 16) (kLoad none (.tmp 15)) (oVal (.tmp 17) (kInt aGeq (.tmp 14) (.tmp 16)) (oCall (.tmp 18) (.con (.func 20 [] [])) [(.tmp 17),(.con (.int .i64 12))] (oVal (.tmp 19) (kBuildSlice [(.int .i64 0),(.int .i64 0),(.int .i64 0)] 3 [(0,1,(.tmp 11)),(1,1,(.tmp 13)),(2,1,(.tmp 18))]) (oCall (.tmp 20) (.con (.func 17 [] [])) [(.tmp 19)] (oVal (.tmp 8) (kMove (.tmp 20)) oNil))))))))))))))
def K11r2:OpsF:=(oVal (.tmp 21) (kMove (.tmp 8)) (oVal (.tmp 22) (kInt aNeq (.tmp 21) (.con (.int .i64 0))) oNil))
def K11r3:OpsF:=(oVal (.tmp 23) (kBuild [(.int .i64 0),(.int .i64 0)] []) (oVal (.tmp 24) (kMove (.tmp 8)) (oVal .none (kStore 2 (.tmp 6) (.tmp 23)) (oVal (.tmp 7) (kMove (.tmp 24)) oNil))))
def K11r4:OpsF:=(oEnd [] (oVal (.tmp 25) (kLoad (some 5) (.tmp 3)) (oCallT (some [4]) (.tmp 26) (.con (.func 21 [] [])) [(.tmp 25)] (oVal (.tmp 27) (kLoad (some 3) (.tmp 4)) (oVal (.tmp 28) (kMove (.tmp 2)) (oCall (.tmp 29) (.con (.func 22 [] [])) [(.tmp 26),(.tmp 27),(.tmp 28)] (oVal .none (kStore 2 (.tmp 6) (.tmp 29)) (oVal (.tmp 7) (kMove (.con (.int .i64 0))) oNil))))))))
theorem res11:Try.f11.results.toList=[.cell 6 26,.tmp 7]:=by kernel_rfl
def K11:K:=(kSeq (kRegion K11r0 [3,4,6,7]) (kSeq (kRegionD K11r1 [8]) (kSeq (kSeq (kRegion K11r2 [22]) (kCond (.tmp 22) (kSeq (kRegion K11r3 [7]) kRet) kSkip)) (kSeq (kRegionD K11r4 [7]) kRet))))
theorem enter11 (cl:CallF) (a0 a1 a2:AV) (s:St):enterA Try.prog X cl 11 [a0,a1,a2] s Try.f11=finA Try.prog Try.f11 (K11 cl ⟨11,none,Try.f11.ntmps,X 11⟩ (paramsEnv 0 [a0,a1,a2] .nil) [] s) :=
  enterA_eq (b:=Try.f11.body.getD .skip) (by kernel_rfl) (by kernel_rfl) (by kernel_rfl) (by kernel_rfl) (by kernel_rfl)
def K34r0:OpsF:=(oVal (.tmp 3) (kBox (tag 93) (.tmp 1)) (oVal (.tmp 4) (kMove (.con .nilslice)) oNil))
def K34r1:OpsF:=(oVal (.tmp 5) (kAlloc [.nilslice] (tag 88)) oNil)
def K34r2:OpsF:=(oVal (.tmp 8) (kMove (.tmp 0)) oNil)
def K34r3:OpsF:=(oVal (.tmp 17) (kLoad none (.tmp 5)) (oVal (.tmp 4) (kMove (.tmp 17)) oNil))
theorem res34:Try.f34.results.toList=[.tmp 4]:=by kernel_rfl
def K34:K:=(kSeq (kRegion K34r0 [3,4]) (kSeq (kRegion K34r1 [5]) (kSeq (kSeq (kRegion K34r2 [8]) (kBlock 0 (kRange (.tmp 8) [9,10] (rangeAt Try.f34 0).1 (rangeAt Try.f34 0).2))) (kSeq (kRegion K34r3 [4]) kRet))))
theorem enter34 (cl:CallF) (a0 a1:AV) (s:St):enterA Try.prog X cl 34 [a0,a1] s Try.f34=finA Try.prog Try.f34 (K34 cl ⟨34,none,Try.f34.ntmps,X 34⟩ (paramsEnv 0 [a0,a1] .nil) [] s) :=
  enterA_eq (b:=Try.f34.body.getD .skip) (by kernel_rfl) (by kernel_rfl) (by kernel_rfl) (by kernel_rfl) (by kernel_rfl)
def K34a0r0:OpsF:=(oVal (.tmp 7) (kAlloc [(.int .i64 0),(.int .i64 0)] (tag 84)) (oVal .none (kStore 2 (.tmp 7) (.tmp 10)) oNil))
def K34a0:K:=(kRegion K34a0r0 [7])
theorem code34a0:codeK Try.prog (X 34) Try.f34.ntmps (rangeAt Try.f34 0).1=some K34a0:=by kernel_rfl
def K34b0r0:OpsF:=(oEnd [] (oVal (.tmp 11) (kLoad none (.tmp 5)) (oVal (.tmp 12) (kLoad none (.tmp 3)) (oVal (.tmp 13) (kLoad (some 2) (.tmp 7)) (oCallT (some [5]) (.tmp 14) (.tmp 12) [(.tmp 13)] (oVal (.tmp 15) (kBuildSlice [(.int .i64 0),(.int .i64 0)] 1 [(0,2,(.tmp 14))]) (oVal (.tmp 16) (kTwo (appendA false 2 16 (tag 84)) (.tmp 11) (.tmp 15)) (oVal .none (kStore 1 (.tmp 5) (.tmp 16)) oNil))))))))
def K34b0:K:=(kBlock 1 (kRegionD K34b0r0 []))
theorem code34b0:codeK Try.prog (X 34) Try.f34.ntmps (rangeAt Try.f34 0).2=some K34b0:=by kernel_rfl
def K36r0:OpsF:=(oVal (.tmp 3) (kBox (tag 84) (.tmp 1)) (oVal (.tmp 4) (kAlloc [(.int .i64 0),(.int .i64 0)] (tag 84)) oNil))
def K36r1:OpsF:=(oVal (.tmp 6) (kMove (.tmp 0)) (oVal (.tmp 7) (kUn nilA (.tmp 6)) (oVal (.tmp 8) (kUn (fadA 0) (.tmp 7)) (oVal (.tmp 9) (kUn (fadA 7) (.tmp 8)) (oVal (.tmp 10) (kLoad (some 2) (.tmp 9)) (oCall (.tmp 11) (.con (.func 51 [] [])) [(.tmp 10)] (oVal (.tmp 5) (kAlloc [(.int .i64 0),(.int .i64 0)] (tag 84)) (oVal .none (kStore 2 (.tmp 5) (.tmp 11)) oNil))))))))
def K36r2:OpsF:=(oVal (.tmp 12) (kTwo (ixaA 2 1) (.tmp 3) (.con (.int .i64 1))) (oVal (.tmp 13) (kLoad none (.tmp 12)) (oVal (.tmp 14) (kGtr (.tmp 13) (.con (.int .i64 0))) oNil)))
def K36r3:OpsF:=(oVal (.tmp 15) (kMove (.tmp 0)) (oVal (.tmp 16) (kUn nilA (.tmp 15)) (oVal (.tmp 17) (kUn (fadA 0) (.tmp 16)) (oVal (.tmp 18) (kUn (fadA 5) (.tmp 17)) (oVal (.tmp 19) (kUn (fadA 0) (.tmp 18)) (oVal (.tmp 20) (kLoad none (.tmp 19)) (oVal (.tmp 21) (kTwo (ixaA 2 1) (.tmp 5) (.con (.int .i64 0))) (oVal .none (kStore 1 (.tmp 21) (.tmp 20)) oNil))))))))
def K36r4:OpsF:=(oVal (.tmp 22) (kTwo (ixaA 2 1) (.tmp 3) (.con (.int .i64 0))) (oVal (.tmp 23) (kLoad none (.tmp 22)) (oVal (.tmp 24) (kGtr (.tmp 23) (.con (.int .i64 0))) oNil)))
def K36r5:OpsF:=(oVal (.tmp 25) (kMove (.tmp 0)) (oVal (.tmp 26) (kUn nilA (.tmp 25)) (oVal (.tmp 27) (kUn (fadA 0) (.tmp 26)) (oVal (.tmp 28) (kUn (fadA 5) (.tmp 27)) (oVal (.tmp 29) (kUn (fadA 1) (.tmp 28)) (oVal (.tmp 30) (kLoad none (.tmp 29)) (oVal (.tmp 31) (kTwo (ixaA 2 1) (.tmp 5) (.con (.int .i64 1))) (oVal .none (kStore 1 (.tmp 31) (.tmp 30)) oNil))))))))
def K36r6:OpsF:=(oVal (.tmp 32) (kLoad (some 2) (.tmp 5)) (oVal .none (kStore 2 (.tmp 4) (.tmp 32)) oNil))
theorem res36:Try.f36.results.toList=[.cell 4 84]:=by kernel_rfl
def K36:K:=(kSeq (kRegion K36r0 [3,4]) (kSeq (kRegion K36r1 [5]) (kSeq (kSeq (kRegion K36r2 [14]) (kCond (.tmp 14) (kRegion K36r3 []) kSkip)) (kSeq (kSeq (kRegion K36r4 [24]) (kCond (.tmp 24) (kRegion K36r5 []) kSkip)) (kSeq (kRegion K36r6 []) kRet)))))
theorem enter36 (cl:CallF) (a0 a1:AV) (s:St):enterA Try.prog X cl 36 [a0,a1] s Try.f36=finA Try.prog Try.f36 (K36 cl ⟨36,none,Try.f36.ntmps,X 36⟩ (paramsEnv 0 [a0,a1] .nil) [] s) :=
  enterA_eq (b:=Try.f36.body.getD .skip) (by kernel_rfl) (by kernel_rfl) (by kernel_rfl) (by kernel_rfl) (by kernel_rfl)
def K37r0:OpsF:=(oVal (.tmp 3) (kBox (tag 93) (.tmp 1)) (oVal (.tmp 4) (kAlloc [(.int .i64 0),(.int .i64 0)] (tag 26)) oNil))
def K37r1:OpsF:=(oVal (.tmp 5) (kAlloc [(.int .i64 0),(.int .i64 0)] (tag 26)) oNil)
def K37r2:OpsF:=(oVal (.tmp 8) (kMove (.tmp 0)) oNil)
def K37r3:OpsF:=(oVal (.tmp 25) (kLoad (some 2) (.tmp 5)) (oVal .none (kStore 2 (.tmp 4) (.tmp 25)) oNil))
theorem res37:Try.f37.results.toList=[.cell 4 26]:=by kernel_rfl
def K37:K:=(kSeq (kRegion K37r0 [3,4]) (kSeq (kRegion K37r1 [5]) (kSeq (kSeq (kRegion K37r2 [8]) (kBlock 0 (kRange (.tmp 8) [9] (rangeAt Try.f37 0).1 (rangeAt Try.f37 0).2))) (kSeq (kRegion K37r3 []) kRet))))
theorem enter37 (cl:CallF) (a0 a1:AV) (s:St):enterA Try.prog X cl 37 [a0,a1] s Try.f37=finA Try.prog Try.f37 (K37 cl ⟨37,none,Try.f37.ntmps,X 37⟩ (paramsEnv 0 [a0,a1] .nil) [] s) :=
  enterA_eq (b:=Try.f37.body.getD .skip) (by kernel_rfl) (by kernel_rfl) (by kernel_rfl) (by kernel_rfl) (by kernel_rfl)
def K37a0r0:OpsF:=(oVal (.tmp 6) (kAlloc [(.int .i64 0),(.int .i64 0)] (tag 84)) (oVal .none (kStore 2 (.tmp 6) (.tmp 9)) oNil))
def K37a0:K:=(kRegion K37a0r0 [6])
theorem code37a0:codeK Try.prog (X 37) Try.f37.ntmps (rangeAt Try.f37 0).1=some K37a0:=by kernel_rfl
def K37b0r0:OpsF:=(oVal (.tmp 10) (kLoad none (.tmp 3)) (oVal (.tmp 11) (kLoad (some 2) (.tmp 6)) (oCall (.tmp 12) (.tmp 10) [(.tmp 11)] (oVal (.tmp 7) (kAlloc [(.int .i64 0),(.int .i64 0)] (tag 84)) (oVal .none (kStore 2 (.tmp 7) (.tmp 12)) oNil)))))
def K37b0r1:OpsF:=(oVal (.tmp 13) (kUn (fadA 0) (.tmp 5)) (oVal (.tmp 14) (kLoad none (.tmp 13)) (oVal (.tmp 15) (kTwo (ixaA 2 1) (.tmp 7) (.con (.int .i64 0))) (oVal (.tmp 16) (kLoad none (.tmp 15)) (oVal (.tmp 17) (kInt aAdd (.tmp 14) (.tmp 16)) (oVal (.tmp 18) (kUn (fadA 0) (.tmp 5)) (oVal .none (kStore 1 (.tmp 18) (.tmp 17)) oNil)))))))
def K37b0r2:OpsF:=(oVal (.tmp 19) (kUn (fadA 1) (.tmp 5)) (oVal (.tmp 20) (kLoad none (.tmp 19)) (oVal (.tmp 21) (kTwo (ixaA 2 1) (.tmp 7) (.con (.int .i64 1))) (oVal (.tmp 22) (kLoad none (.tmp 21)) (oVal (.tmp 23) (kInt aAdd (.tmp 20) (.tmp 22)) (oVal (.tmp 24) (kUn (fadA 1) (.tmp 5)) (oVal .none (kStore 1 (.tmp 24) (.tmp 23)) oNil)))))))
def K37b0:K:=(kBlock 1 (kSeq (kRegion K37b0r0 [7]) (kSeq (kRegion K37b0r1 []) (kRegion K37b0r2 []))))
theorem code37b0:codeK Try.prog (X 37) Try.f37.ntmps (rangeAt Try.f37 0).2=some K37b0:=by kernel_rfl
def K38r0:OpsF:=(oVal (.tmp 3) (kBox (tag 70) (.tmp 0)) (oVal (.tmp 4) (kBox (tag 35) (.tmp 1)) (oVal (.tmp 5) (kBox (tag 3) (.tmp 2)) (oVal (.tmp 6) (kMove (.con .nilfunc)) oNil))))
def K38r1:OpsF:=(oVal (.tmp 7) (kFunc 57 [] [(.tmp 4),(.tmp 5),(.tmp 3)]) (oVal (.tmp 6) (kMove (.tmp 7)) oNil))
theorem res38:Try.f38.results.toList=[.tmp 6]:=by kernel_rfl
def K38:K:=(kSeq (kRegion K38r0 [3,4,5,6]) (kSeq (kRegion K38r1 [6]) kRet))
theorem enter38 (cl:CallF) (a0 a1 a2:AV) (s:St):enterA Try.prog X cl 38 [a0,a1,a2] s Try.f38=finA Try.prog Try.f38 (K38 cl ⟨38,none,Try.f38.ntmps,X 38⟩ (paramsEnv 0 [a0,a1,a2] .nil) [] s) :=
  enterA_eq (b:=Try.f38.body.getD .skip) (by kernel_rfl) (by kernel_rfl) (by kernel_rfl) (by kernel_rfl) (by kernel_rfl)
def K57r0:OpsF:=(oVal (.tmp 6) (kUn (fadA 0) (.tmp 1)) (oVal (.tmp 7) (kLoad none (.tmp 6)) (oVal (.tmp 5) (kMove (.tmp 7)) oNil)))
def K57r1:OpsF:=(oVal (.tmp 8) (kMove (.tmp 5)) (oVal (.tmp 9) (kLoad none (.tmp 2)) (oVal (.tmp 10) (kInt aLss (.tmp 8) (.tmp 9)) oNil)))
def K57r2:OpsF:=(oVal (.tmp 13) (kMove (.tmp 0)) (oVal (.tmp 14) (kLoad (some 6) (.tmp 3)) (oVal (.tmp 15) (kLoad (some 3) (.tmp 1)) (oVal (.tmp 16) (kMove (.tmp 5)) (oCall (.tmp 17) (.con (.func 58 [] [])) [(.tmp 14),(.tmp 15),(.tmp 16)] (oCall (.tmp 18) (.tmp 13) [(.tmp 17)] (oVal (.tmp 19) (kUn notA (.tmp 18)) oNil)))))))
def K57r3:OpsF:=(oVal (.tmp 11) (kMove (.tmp 5)) (oVal (.tmp 12) (kInt aAdd (.tmp 11) (.con (.int .i64 1))) (oVal (.tmp 5) (kMove (.tmp 12)) oNil)))
def K57l0:K:=(kSeq (kSeq (kRegion K57r1 [10]) (kCond (.tmp 10) kSkip (kExit 0))) (kSeq (kBlock 1 (kSeq (kRegion K57r2 [19]) (kCond (.tmp 19) kRet kSkip))) (kRegion K57r3 [5])))
theorem res57:Try.f57.results.toList=[]:=by kernel_rfl
def K57:K:=(kSeq (kRegion K57r0 [5]) (kBlock 0 (kLoop K57l0)))
theorem enter57 (cl:CallF) (a0 a1 a2 a3:AV) (s:St):enterA Try.prog X cl 57 [a0,a1,a2,a3] s Try.f57=finA Try.prog Try.f57 (K57 cl ⟨57,none,Try.f57.ntmps,X 57⟩ (paramsEnv 0 [a0,a1,a2,a3] .nil) [] s) :=
  enterA_eq (b:=Try.f57.body.getD .skip) (by kernel_rfl) (by kernel_rfl) (by kernel_rfl) (by kernel_rfl) (by kernel_rfl)
def K58r0:OpsF:=(oVal (.tmp 3) (kBox (tag 70) (.tmp 0)) (oVal (.tmp 4) (kBox (tag 35) (.tmp 1)) (oVal (.tmp 6) (kAlloc [(.int .i64 0),(.int .i64 0)] (tag 84)) oNil)))
def K58r1:OpsF:=(oVal (.tmp 9) (kUn (fadA 2) (.tmp 4)) (oVal (.tmp 10) (kLoad none (.tmp 9)) (oVal (.tmp 11) (kUn lenSlA (.tmp 10)) (oVal (.tmp 12) (kMove (.con (.int .i64 0))) oNil))))
def K58r2:OpsF:=(oVal (.tmp 13) (kInt aLss (.tmp 12) (.tmp 11)) oNil)
def K58r3:OpsF:=(oVal (.tmp 14) (kTwo (ixsA 3) (.tmp 10) (.tmp 12)) (oVal (.tmp 15) (kLoad (some 3) (.tmp 14)) (oVal (.tmp 8) (kAlloc [(.int .i64 0),(.int .i64 0),(.int .i64 0)] (tag 62)) (oVal .none (kStore 3 (.tmp 8) (.tmp 15)) oNil))))
def K58r4s9:OpsF:=(oVal (.tmp 25) (kPick (.tmp 20) (.tmp 24) (.con (.bool false))) oNil)
def K58r4s8:OpsF:=(oIf 20 true (oVal (.tmp 24) (kInt aLss (.tmp 21) (.tmp 23)) K58r4s9) (oSkip (.tmp 24) K58r4s9))
def K58r4s7:OpsF:=(oIf 20 true (oVal (.tmp 23) (kLoad none (.tmp 22)) K58r4s8) (oSkip (.tmp 23) K58r4s8))
def K58r4s6:OpsF:=(oIf 20 true (oVal (.tmp 22) (kUn (fadA 2) (.tmp 8)) K58r4s7) (oSkip (.tmp 22) K58r4s7))
def K58r4:OpsF:=(oVal (.tmp 16) (kUn (fadA 1) (.tmp 8)) (oVal (.tmp 17) (kLoad none (.tmp 16)) (oVal (.tmp 18) (kMove (.tmp 2)) (oVal (.tmp 19) (kInt aLeq (.tmp 17) (.tmp 18)) (oVal (.tmp 20) (kMove (.tmp 19)) (oIf 20 true (oVal (.tmp 21) (kMove (.tmp 2)) K58r4s6) (oSkip (.tmp 21) K58r4s6)))))))
def K58r5:OpsF:=(oVal (.tmp 26) (kUn (fadA 5) (.tmp 3)) (oVal (.tmp 27) (kLoad none (.tmp 26)) (oVal (.tmp 28) (kUn (fadA 0) (.tmp 8)) (oVal (.tmp 29) (kLoad none (.tmp 28)) (oVal (.tmp 30) (kTwo (ixsA 1) (.tmp 27) (.tmp 29)) (oVal (.tmp 31) (kLoad none (.tmp 30)) (oVal (.tmp 32) (kMove (.tmp 2)) (oVal (.tmp 33) (kTwo (ixsA 2) (.tmp 31) (.tmp 32)) (oVal (.tmp 34) (kLoad (some 2) (.tmp 33)) (oVal .none (kStore 2 (.tmp 6) (.tmp 34)) oNil))))))))))
def K58r6:OpsF:=(oVal (.tmp 35) (kInt aAdd (.tmp 12) (.con (.int .i64 1))) (oVal (.tmp 12) (kMove (.tmp 35)) oNil))
def K58l0:K:=(kSeq (kRegion K58r2 [13]) (kSeq (kCond (.tmp 13) kSkip (kExit 0)) (kSeq (kBlock 1 (kSeq (kRegion K58r3 [8]) (kSeq (kRegion K58r4 [25]) (kCond (.tmp 25) (kSeq (kRegion K58r5 []) kRet) kSkip)))) (kRegion K58r6 [12]))))
def K58r7:OpsF:=(oVal (.tmp 36) (kUn (fadA 0) (.tmp 3)) (oVal (.tmp 37) (kUn (fadA 0) (.tmp 36)) (oVal (.tmp 38) (kLoad (some 2) (.tmp 37)) (oCall (.tmp 39) (.con (.func 51 [] [])) [(.tmp 38)] (oVal .none (kStore 2 (.tmp 6) (.tmp 39)) oNil)))))
theorem res58:Try.f58.results.toList=[.cell 6 84]:=by kernel_rfl
def K58:K:=(kSeq (kRegion K58r0 [3,4,6]) (kSeq (kSeq (kRegion K58r1 [10,11,12]) (kBlock 0 (kLoop K58l0))) (kSeq (kRegion K58r7 []) kRet)))
theorem enter58 (cl:CallF) (a0 a1 a2:AV) (s:St):enterA Try.prog X cl 58 [a0,a1,a2] s Try.f58=finA Try.prog Try.f58 (K58 cl ⟨58,none,Try.f58.ntmps,X 58⟩ (paramsEnv 0 [a0,a1,a2] .nil) [] s) :=
  enterA_eq (b:=Try.f58.body.getD .skip) (by kernel_rfl) (by kernel_rfl) (by kernel_rfl) (by kernel_rfl) (by kernel_rfl)
def K39r0:OpsF:=(oVal (.tmp 2) (kBox (tag 70) (.tmp 0)) (oVal (.tmp 3) (kBox (tag 84) (.tmp 1)) (oVal (.tmp 4) (kAlloc [(.int .i64 0),(.int .i64 0)] (tag 84)) oNil)))
def K39r1:OpsF:=(oVal (.tmp 5) (kAlloc [(.int .i64 0),(.int .i64 0)] (tag 84)) oNil)
def K39r2:OpsF:=(oVal (.tmp 10) (kLoad (some 2) (.tmp 3)) (oVal (.tmp 11) (kMove (.con (.int .i64 0))) oNil))
def K39r3:OpsF:=(oVal (.tmp 12) (kInt aLss (.tmp 11) (.con (.int .i64 2))) oNil)
def K39r4:OpsF:=(oVal (.tmp 13) (kMove (.tmp 11)) (oVal (.tmp 14) (kTwo (indA 2 1 none) (.tmp 10) (.tmp 11)) (oVal (.tmp 6) (kMove (.tmp 13)) (oVal (.tmp 7) (kMove (.tmp 14)) oNil))))
def K39r5:OpsF:=(oVal (.tmp 15) (kUn (fadA 0) (.tmp 2)) (oVal (.tmp 16) (kUn (fadA 4) (.tmp 15)) (oVal (.tmp 17) (kLoad none (.tmp 16)) (oVal (.tmp 18) (kUn lenSlA (.tmp 17)) (oVal (.tmp 19) (kMove (.con (.int .i64 0))) oNil)))))
def K39r6:OpsF:=(oVal (.tmp 20) (kInt aLss (.tmp 19) (.tmp 18)) oNil)
def K39r7:OpsF:=(oVal (.tmp 21) (kTwo (ixsA 2) (.tmp 17) (.tmp 19)) (oVal (.tmp 22) (kLoad (some 2) (.tmp 21)) (oVal (.tmp 9) (kAlloc [(.int .i64 0),(.int .i64 0)] (tag 60)) (oVal .none (kStore 2 (.tmp 9) (.tmp 22)) oNil))))
def K39r8:OpsF:=(oVal (.tmp 23) (kUn (fadA 0) (.tmp 9)) (oVal (.tmp 24) (kLoad none (.tmp 23)) (oVal (.tmp 25) (kMove (.tmp 7)) (oVal (.tmp 26) (kGtr (.tmp 24) (.tmp 25)) oNil))))
def K39r9:OpsF:=(oVal (.tmp 27) (kMove (.tmp 6)) (oVal (.tmp 28) (kUn (fadA 1) (.tmp 9)) (oVal (.tmp 29) (kLoad none (.tmp 28)) (oVal (.tmp 30) (kTwo (ixaA 2 1) (.tmp 5) (.tmp 27)) (oVal .none (kStore 1 (.tmp 30) (.tmp 29)) oNil)))))
def K39r10:OpsF:=(oVal (.tmp 31) (kInt aAdd (.tmp 19) (.con (.int .i64 1))) (oVal (.tmp 19) (kMove (.tmp 31)) oNil))
def K39l0:K:=(kSeq (kRegion K39r6 [20]) (kSeq (kCond (.tmp 20) kSkip (kExit 2)) (kSeq (kBlock 3 (kSeq (kRegion K39r7 [9]) (kSeq (kSeq (kRegion K39r8 [26]) (kCond (.tmp 26) (kExit 1) kSkip)) (kRegion K39r9 [])))) (kRegion K39r10 [19]))))
def K39r11:OpsF:=(oVal (.tmp 32) (kInt aAdd (.tmp 11) (.con (.int .i64 1))) (oVal (.tmp 11) (kMove (.tmp 32)) oNil))
def K39l1:K:=(kSeq (kRegion K39r3 [12]) (kSeq (kCond (.tmp 12) kSkip (kExit 0)) (kSeq (kBlock 1 (kSeq (kRegion K39r4 [6,7]) (kSeq (kRegion K39r5 [17,18,19]) (kBlock 2 (kLoop K39l0))))) (kRegion K39r11 [11]))))
def K39r12:OpsF:=(oVal (.tmp 33) (kLoad (some 2) (.tmp 5)) (oVal .none (kStore 2 (.tmp 4) (.tmp 33)) oNil))
theorem res39:Try.f39.results.toList=[.cell 4 84]:=by kernel_rfl
def K39:K:=(kSeq (kRegion K39r0 [2,3,4]) (kSeq (kRegion K39r1 [5]) (kSeq kSkip (kSeq (kSeq (kRegion K39r2 [10,11]) (kBlock 0 (kLoop K39l1))) (kSeq (kRegion K39r12 []) kRet)))))
theorem enter39 (cl:CallF) (a0 a1:AV) (s:St):enterA Try.prog X cl 39 [a0,a1] s Try.f39=finA Try.prog Try.f39 (K39 cl ⟨39,none,Try.f39.ntmps,X 39⟩ (paramsEnv 0 [a0,a1] .nil) [] s) :=
  enterA_eq (b:=Try.f39.body.getD .skip) (by kernel_rfl) (by kernel_rfl) (by kernel_rfl) (by kernel_rfl) (by kernel_rfl)
def K12r0:OpsF:=(oVal (.tmp 2) (kBox (tag 31) (.tmp 0)) (oVal (.tmp 3) (kBox (tag 35) (.tmp 1)) (oVal (.tmp 4) (kMove (.con (.int .i64 0))) (oVal (.tmp 5) (kMove (.con (.int .i64 0))) oNil))))
def K12r1:OpsF:=(oVal (.tmp 9) (kLoad (some 5) (.tmp 2)) (oVal (.tmp 10) (kLoad (some 3) (.tmp 3)) (oCall (.tmp 11) (.con (.func 18 [] [])) [(.tmp 9),(.tmp 10)] (oVal (.tmp 6) (kMove (.tmp 11)) oNil))))
def K12r2:OpsF:=(oVal (.tmp 12) (kMove (.tmp 6)) (oVal (.tmp 13) (kInt aNeq (.tmp 12) (.con (.int .i64 0))) oNil))
def K12r3:OpsF:=(oVal (.tmp 14) (kMove (.tmp 6)) (oVal (.tmp 4) (kMove (.con (.int .i64 0))) (oVal (.tmp 5) (kMove (.tmp 14)) oNil)))
def K12r4:OpsF:=(oVal (.tmp 15) (kLoad (some 5) (.tmp 2)) (oCall (.tmp 16) (.con (.func 21 [] [])) [(.tmp 15)] (oVal (.tmp 7) (kAlloc [(.int .i64 0),(.int .i64 0),.nilslice,.nilslice,.nilslice,.nilslice] (tag 70)) (oVal .none (kStore 6 (.tmp 7) (.tmp 16)) oNil))))
def K12r5:OpsF:=(oVal (.tmp 17) (kUn (fadA 0) (.tmp 3)) (oVal (.tmp 18) (kLoad none (.tmp 17)) (oVal (.tmp 19) (kInt aSub (.con (.int .i64 240)) (.tmp 18)) (oVal (.tmp 20) (kFunc 24 [] [(.tmp 7),(.tmp 3)]) (oCall (.tmp 21) (.con (.func 23 [] [])) [(.tmp 19),(.tmp 20)] (oVal (.tmp 8) (kMove (.tmp 21)) oNil))))))
def K12r6:OpsF:=(oVal (.tmp 22) (kUn (fadA 0) (.tmp 3)) (oVal (.tmp 23) (kLoad none (.tmp 22)) (oVal (.tmp 24) (kMove (.tmp 8)) (oVal (.tmp 25) (kInt aAdd (.tmp 23) (.tmp 24)) (oVal (.tmp 4) (kMove (.tmp 25)) (oVal (.tmp 5) (kMove (.con (.int .i64 0))) oNil))))))
theorem res12:Try.f12.results.toList=[.tmp 4,.tmp 5]:=by kernel_rfl
def K12:K:=(kSeq (kRegion K12r0 [2,3,4,5]) (kSeq (kSeq (kRegion K12r1 [6]) (kSeq (kRegion K12r2 [13]) (kCond (.tmp 13) (kSeq (kRegion K12r3 [4,5]) kRet) kSkip))) (kSeq (kRegion K12r4 [7]) (kSeq (kRegion K12r5 [8]) (kSeq (kRegion K12r6 [4,5]) kRet)))))
theorem enter12 (cl:CallF) (a0 a1:AV) (s:St):enterA Try.prog X cl 12 [a0,a1] s Try.f12=finA Try.prog Try.f12 (K12 cl ⟨12,none,Try.f12.ntmps,X 12⟩ (paramsEnv 0 [a0,a1] .nil) [] s) :=
  enterA_eq (b:=Try.f12.body.getD .skip) (by kernel_rfl) (by kernel_rfl) (by kernel_rfl) (by kernel_rfl) (by kernel_rfl)
def K24r0:OpsF:=(oVal (.tmp 4) (kMove (.con (.bool false))) oNil)
def K24r1:OpsF:=(oEnd [] (oVal (.tmp 5) (kLoad (some 6) (.tmp 1)) (oVal (.tmp 6) (kLoad (some 3) (.tmp 2)) (oVal (.tmp 7) (kUn (fadA 0) (.tmp 2)) (oVal (.tmp 8) (kLoad none (.tmp 7)) (oVal (.tmp 9) (kMove (.tmp 0)) (oVal (.tmp 10) (kInt aAdd (.tmp 8) (.tmp 9)) (oVal (.tmp 11) (kInt aAdd (.tmp 10) (.con (.int .i64 1))) (oCallT (some [14]) (.tmp 12) (.con (.func 22 [] [])) [(.tmp 5),(.tmp 6),(.tmp 11)] (oVal (.tmp 13) (kUn (fldA none 1) (.tmp 12)) (oVal (.tmp 14) (kUn (fadA 1) (.tmp 2)) (oVal (.tmp 15) (kLoad none (.tmp 14)) (oVal (.tmp 16) (kGtr (.tmp 13) (.tmp 15)) (oVal (.tmp 4) (kMove (.tmp 16)) oNil))))))))))))))
theorem res24:Try.f24.results.toList=[.tmp 4]:=by kernel_rfl
def K24:K:=(kSeq (kRegion K24r0 [4]) (kSeq (kRegionD K24r1 [4]) kRet))
theorem enter24 (cl:CallF) (a0 a1 a2:AV) (s:St):enterA Try.prog X cl 24 [a0,a1,a2] s Try.f24=finA Try.prog Try.f24 (K24 cl ⟨24,none,Try.f24.ntmps,X 24⟩ (paramsEnv 0 [a0,a1,a2] .nil) [] s) :=
  enterA_eq (b:=Try.f24.body.getD .skip) (by kernel_rfl) (by kernel_rfl) (by kernel_rfl) (by kernel_rfl) (by kernel_rfl)
end
end Go.Proofs.Ytanecldpcceaoaa.code
set_option maxRecDepth 100000
namespace Go.Proofs.Ytanecldpcceaoaa.code
open Go.Abs
noncomputable section
def K14r0:OpsF:=(oVal (.tmp 2) (kMove (.con (.int .u64 0))) oNil)
def K14r1:OpsF:=(oVal (.tmp 4) (kMove (.tmp 0)) (oVal (.tmp 5) (kMove (.tmp 0)) (oVal (.tmp 6) (kUn nilA (.tmp 5)) (oVal (.tmp 7) (kUn (fadA 0) (.tmp 6)) (oVal (.tmp 8) (kLoad none (.tmp 7)) (oVal (.tmp 9) (kInt aAdd (.tmp 8) (.con (.int .u64 11562461410679940143))) (oVal (.tmp 10) (kUn nilA (.tmp 4)) (oVal (.tmp 11) (kUn (fadA 0) (.tmp 10)) (oVal .none (kStore 1 (.tmp 11) (.tmp 9)) oNil)))))))))
def K14r2:OpsF:=(oVal (.tmp 12) (kMove (.tmp 0)) (oVal (.tmp 13) (kUn nilA (.tmp 12)) (oVal (.tmp 14) (kUn (fadA 0) (.tmp 13)) (oVal (.tmp 15) (kLoad none (.tmp 14)) (oVal (.tmp 3) (kMove (.tmp 15)) oNil)))))
def K14r3:OpsF:=(oVal (.tmp 16) (kMove (.tmp 3)) (oVal (.tmp 17) (kMove (.tmp 3)) (oVal (.tmp 18) (kShr (.tmp 17) (.con (.int .u64 30))) (oVal (.tmp 19) (kInt aXor (.tmp 16) (.tmp 18)) (oVal (.tmp 20) (kInt aMul (.tmp 19) (.con (.int .u64 13787848793156543929))) (oVal (.tmp 3) (kMove (.tmp 20)) oNil))))))
def K14r4:OpsF:=(oVal (.tmp 21) (kMove (.tmp 3)) (oVal (.tmp 22) (kMove (.tmp 3)) (oVal (.tmp 23) (kShr (.tmp 22) (.con (.int .u64 27))) (oVal (.tmp 24) (kInt aXor (.tmp 21) (.tmp 23)) (oVal (.tmp 25) (kInt aMul (.tmp 24) (.con (.int .u64 10723151780598845931))) (oVal (.tmp 3) (kMove (.tmp 25)) oNil))))))
def K14r5:OpsF:=(oVal (.tmp 26) (kMove (.tmp 3)) (oVal (.tmp 27) (kMove (.tmp 3)) (oVal (.tmp 28) (kShr (.tmp 27) (.con (.int .u64 31))) (oVal (.tmp 29) (kInt aXor (.tmp 26) (.tmp 28)) (oVal (.tmp 2) (kMove (.tmp 29)) oNil)))))
theorem res14:Try.f14.results.toList=[.tmp 2]:=by kernel_rfl
def K14:K:=(kSeq (kRegion K14r0 [2]) (kSeq (kRegion K14r1 []) (kSeq (kRegion K14r2 [3]) (kSeq (kRegion K14r3 [3]) (kSeq (kRegion K14r4 [3]) (kSeq (kRegion K14r5 [2]) kRet))))))
theorem enter14 (cl:CallF) (a0:AV) (s:St):enterA Try.prog X cl 14 [a0] s Try.f14=finA Try.prog Try.f14 (K14 cl ⟨14,none,Try.f14.ntmps,X 14⟩ (paramsEnv 0 [a0] .nil) [] s) :=
  enterA_eq (b:=Try.f14.body.getD .skip) (by kernel_rfl) (by kernel_rfl) (by kernel_rfl) (by kernel_rfl) (by kernel_rfl)
def K9r0:OpsF:=(oVal (.tmp 4) (kMove (.con (.int .i64 0))) oNil)
def K9r1:OpsF:=(oVal (.tmp 5) (kMove (.tmp 1)) (oVal (.tmp 6) (kInt aLss (.tmp 5) (.con (.int .i64 2))) oNil))
def K9r2:OpsF:=(oVal (.tmp 4) (kMove (.con (.int .i64 0))) oNil)
def K9r3:OpsF:=(oVal (.tmp 7) (kMove (.tmp 0)) (oCall (.tmp 8) (.con (.func 14 [] [])) [(.tmp 7)] (oVal (.tmp 9) (kShr (.tmp 8) (.con (.int .u64 2))) (oVal (.tmp 10) (kMove (.tmp 1)) (oVal (.tmp 11) (kUn (cviA .u64) (.tmp 10)) (oVal (.tmp 12) (kInt aRem (.tmp 9) (.tmp 11)) (oVal (.tmp 13) (kUn (cviA .i64) (.tmp 12)) (oVal (.tmp 4) (kMove (.tmp 13)) oNil))))))))
theorem res9:Try.f9.results.toList=[.tmp 4]:=by kernel_rfl
def K9:K:=(kSeq (kRegion K9r0 [4]) (kSeq (kSeq (kRegion K9r1 [6]) (kCond (.tmp 6) (kSeq (kRegion K9r2 [4]) kRet) kSkip)) (kSeq (kRegion K9r3 [4]) kRet)))
theorem enter9 (cl:CallF) (a0 a1:AV) (s:St):enterA Try.prog X cl 9 [a0,a1] s Try.f9=finA Try.prog Try.f9 (K9 cl ⟨9,none,Try.f9.ntmps,X 9⟩ (paramsEnv 0 [a0,a1] .nil) [] s) :=
  enterA_eq (b:=Try.f9.body.getD .skip) (by kernel_rfl) (by kernel_rfl) (by kernel_rfl) (by kernel_rfl) (by kernel_rfl)
def K10r0:OpsF:=(oVal (.tmp 6) (kMove (.con (.int .i64 0))) oNil)
def K10r1:OpsF:=(oVal (.tmp 7) (kMove (.tmp 1)) (oVal (.tmp 8) (kMove (.tmp 0)) (oVal (.tmp 9) (kMove (.tmp 2)) (oVal (.tmp 10) (kMove (.tmp 1)) (oVal (.tmp 11) (kInt aSub (.tmp 9) (.tmp 10)) (oVal (.tmp 12) (kInt aAdd (.tmp 11) (.con (.int .i64 1))) (oCall (.tmp 13) (.con (.func 9 [] [])) [(.tmp 8),(.tmp 12)] (oVal (.tmp 14) (kInt aAdd (.tmp 7) (.tmp 13)) (oVal (.tmp 6) (kMove (.tmp 14)) oNil)))))))))
theorem res10:Try.f10.results.toList=[.tmp 6]:=by kernel_rfl
def K10:K:=(kSeq (kRegion K10r0 [6]) (kSeq (kRegion K10r1 [6]) kRet))
theorem enter10 (cl:CallF) (a0 a1 a2:AV) (s:St):enterA Try.prog X cl 10 [a0,a1,a2] s Try.f10=finA Try.prog Try.f10 (K10 cl ⟨10,none,Try.f10.ntmps,X 10⟩ (paramsEnv 0 [a0,a1,a2] .nil) [] s) :=
  enterA_eq (b:=Try.f10.body.getD .skip) (by kernel_rfl) (by kernel_rfl) (by kernel_rfl) (by kernel_rfl) (by kernel_rfl)
def K16r0:OpsF:=(oVal (.tmp 4) (kMove (.con (.int .i64 0))) oNil)
def K16r1:OpsF:=(oVal (.tmp 5) (kMove (.tmp 1)) (oVal (.tmp 6) (kUn lenSlA (.tmp 5)) (oVal (.tmp 7) (kInt aEql (.tmp 6) (.con (.int .i64 0))) oNil)))
def K16r2:OpsF:=(oVal (.tmp 4) (kMove (.con (.int .i64 0))) oNil)
def K16r3:OpsF:=(oVal (.tmp 8) (kMove (.tmp 1)) (oVal (.tmp 9) (kMove (.tmp 0)) (oVal (.tmp 10) (kMove (.tmp 1)) (oVal (.tmp 11) (kUn lenSlA (.tmp 10)) (oCall (.tmp 12) (.con (.func 9 [] [])) [(.tmp 9),(.tmp 11)] (oVal (.tmp 13) (kTwo (ixsA 1) (.tmp 8) (.tmp 12)) (oVal (.tmp 14) (kLoad none (.tmp 13)) (oVal (.tmp 4) (kMove (.tmp 14)) oNil))))))))
theorem res16:Try.f16.results.toList=[.tmp 4]:=by kernel_rfl
def K16:K:=(kSeq (kRegion K16r0 [4]) (kSeq (kSeq (kRegion K16r1 [7]) (kCond (.tmp 7) (kSeq (kRegion K16r2 [4]) kRet) kSkip)) (kSeq (kRegion K16r3 [4]) kRet)))
theorem enter16 (cl:CallF) (a0 a1:AV) (s:St):enterA Try.prog X cl 16 [a0,a1] s Try.f16=finA Try.prog Try.f16 (K16 cl ⟨16,none,Try.f16.ntmps,X 16⟩ (paramsEnv 0 [a0,a1] .nil) [] s) :=
  enterA_eq (b:=Try.f16.body.getD .skip) (by kernel_rfl) (by kernel_rfl) (by kernel_rfl) (by kernel_rfl) (by kernel_rfl)
def K15r0:OpsF:=(oVal (.tmp 6) (kAlloc [(.int .i64 0),(.int .i64 0)] (tag 26)) oNil)
def K15r1:OpsF:=(oVal (.tmp 9) (kMove (.tmp 0)) (oVal (.tmp 10) (kMove (.tmp 1)) (oVal (.tmp 11) (kMove (.tmp 2)) (oCall (.tmp 12) (.con (.func 10 [] [])) [(.tmp 9),(.tmp 10),(.tmp 11)] (oVal (.tmp 7) (kMove (.tmp 12)) oNil)))))
def K15r2:OpsF:=(oVal (.tmp 13) (kMove (.tmp 0)) (oVal (.tmp 14) (kMove (.tmp 7)) (oVal (.tmp 15) (kMove (.tmp 2)) (oVal (.tmp 16) (kMove (.tmp 7)) (oVal (.tmp 17) (kInt aAdd (.tmp 16) (.con (.int .i64 4))) (oVal (.tmp 18) (kFold minA (.tmp 15) [(.tmp 17)]) (oVal (.tmp 19) (kMove (.tmp 2)) (oVal (.tmp 20) (kBuildSlice [(.int .i64 0),(.int .i64 0),(.int .i64 0)] 3 [(0,1,(.tmp 14)),(1,1,(.tmp 18)),(2,1,(.tmp 19))]) (oCall (.tmp 21) (.con (.func 16 [] [])) [(.tmp 13),(.tmp 20)] (oVal (.tmp 8) (kMove (.tmp 21)) oNil))))))))))
def K15r3:OpsF:=(oVal (.tmp 22) (kMove (.tmp 7)) (oVal (.tmp 23) (kMove (.tmp 0)) (oVal (.tmp 24) (kMove (.tmp 7)) (oVal (.tmp 25) (kMove (.tmp 8)) (oCall (.tmp 26) (.con (.func 10 [] [])) [(.tmp 23),(.tmp 24),(.tmp 25)] (oVal (.tmp 27) (kBuild [(.int .i64 0),(.int .i64 0)] [(0,1,(.tmp 22)),(1,1,(.tmp 26))]) (oVal .none (kStore 2 (.tmp 6) (.tmp 27)) oNil)))))))
theorem res15:Try.f15.results.toList=[.cell 6 26]:=by kernel_rfl
def K15:K:=(kSeq (kRegion K15r0 [6]) (kSeq (kRegion K15r1 [7]) (kSeq (kRegion K15r2 [8]) (kSeq (kRegion K15r3 []) kRet))))
theorem enter15 (cl:CallF) (a0 a1 a2:AV) (s:St):enterA Try.prog X cl 15 [a0,a1,a2] s Try.f15=finA Try.prog Try.f15 (K15 cl ⟨15,none,Try.f15.ntmps,X 15⟩ (paramsEnv 0 [a0,a1,a2] .nil) [] s) :=
  enterA_eq (b:=Try.f15.body.getD .skip) (by kernel_rfl) (by kernel_rfl) (by kernel_rfl) (by kernel_rfl) (by kernel_rfl)
end
end Go.Proofs.Ytanecldpcceaoaa.code
set_option maxRecDepth 100000
namespace Go.Proofs.Ytanecldpcceaoaa.code
open Go.Abs
noncomputable section
def K5r0:OpsF:=(oVal (.tmp 6) (kAlloc [(.int .i64 0),(.int .i64 0),.nilslice,.nilslice,.nilslice] (tag 31)) oNil)
def K5r1:OpsF:=(oVal (.tmp 16) (kMove (.tmp 0)) (oCall (.tmp 17) (.con (.func 15 [] [])) [(.tmp 16),(.con (.int .i64 (-20))),(.con (.int .i64 200))] (oVal (.tmp 18) (kBuild [(.int .i64 0),(.int .i64 0),.nilslice,.nilslice,.nilslice] [(0,2,(.tmp 17))]) (oVal (.tmp 7) (kAlloc [(.int .i64 0),(.int .i64 0),.nilslice,.nilslice,.nilslice] (tag 31)) (oVal .none (kStore 5 (.tmp 7) (.tmp 18)) oNil)))))
def K5r2:OpsF:=(oVal (.tmp 19) (kMove (.tmp 0)) (oVal (.tmp 20) (kMove (.tmp 1)) (oVal (.tmp 21) (kInt aAdd (.tmp 20) (.con (.int .i64 1))) (oCall (.tmp 22) (.con (.func 9 [] [])) [(.tmp 19),(.tmp 21)] (oVal (.tmp 8) (kMove (.tmp 22)) oNil)))))
def K5r3:OpsF:=(oVal (.tmp 23) (kMove (.tmp 8)) (oVal (.tmp 24) (kGtr (.tmp 23) (.con (.int .i64 0))) oNil))
def K5r4:OpsF:=(oVal (.tmp 27) (kMove (.tmp 0)) (oVal (.tmp 28) (kMove (.tmp 0)) (oVal (.tmp 29) (kBuildSlice [(.int .i64 0),(.int .i64 0)] 2 [(0,1,(.con (.int .i64 30))),(1,1,(.con (.int .i64 500)))]) (oCall (.tmp 30) (.con (.func 16 [] [])) [(.tmp 28),(.tmp 29)] (oCall (.tmp 31) (.con (.func 10 [] [])) [(.tmp 27),(.con (.int .i64 1)),(.tmp 30)] (oVal (.tmp 32) (kBuild [(.int .i64 0),(.int .i64 0),(.int .i64 0),(.int .i64 0),(.int .i64 0),(.int .i64 0),(.int .i64 0),(.int .i64 0),(.int .i64 0)] [(0,1,(.tmp 31))]) (oVal (.tmp 9) (kAlloc [(.int .i64 0),(.int .i64 0),(.int .i64 0),(.int .i64 0),(.int .i64 0),(.int .i64 0),(.int .i64 0),(.int .i64 0),(.int .i64 0)] (tag 42)) (oVal .none (kStore 9 (.tmp 9) (.tmp 32)) oNil))))))))
def K5r5:OpsF:=(oEnd [] (oVal (.tmp 33) (kMove (.tmp 0)) (oVal (.tmp 34) (kUn (fadA 0) (.tmp 9)) (oVal (.tmp 35) (kLoad none (.tmp 34)) (oCallT (some [39]) (.tmp 36) (.con (.func 15 [] [])) [(.tmp 33),(.con (.int .i64 0)),(.tmp 35)] (oVal (.tmp 37) (kMove (.tmp 0)) (oVal (.tmp 38) (kMove (.tmp 0)) (oVal (.tmp 39) (kUn (fadA 0) (.tmp 9)) (oVal (.tmp 40) (kLoad none (.tmp 39)) (oVal (.tmp 41) (kInt aQuo (.tmp 40) (.con (.int .i64 4))) (oVal (.tmp 42) (kInt aAdd (.con (.int .i64 1)) (.tmp 41)) (oVal (.tmp 43) (kBuildSlice [(.int .i64 0),(.int .i64 0)] 2 [(0,1,(.con (.int .i64 2))),(1,1,(.tmp 42))]) (oCall (.tmp 44) (.con (.func 16 [] [])) [(.tmp 38),(.tmp 43)] (oCall (.tmp 45) (.con (.func 15 [] [])) [(.tmp 37),(.con (.int .i64 0)),(.tmp 44)] (oVal (.tmp 46) (kUn (fadA 1) (.tmp 9)) (oVal .none (kStore 2 (.tmp 46) (.tmp 36)) (oVal (.tmp 47) (kUn (fadA 3) (.tmp 9)) (oVal .none (kStore 2 (.tmp 47) (.tmp 45)) oNil))))))))))))))))))
def K5r6:OpsF:=(oVal (.tmp 48) (kMove (.tmp 0)) (oCall (.tmp 49) (.con (.func 15 [] [])) [(.tmp 48),(.con (.int .i64 (-50))),(.con (.int .i64 30))] (oVal (.tmp 50) (kUn (fadA 5) (.tmp 9)) (oVal .none (kStore 2 (.tmp 50) (.tmp 49)) oNil))))
def K5r7:OpsF:=(oVal (.tmp 51) (kMove (.tmp 0)) (oVal (.tmp 52) (kUn (fadA 5) (.tmp 9)) (oVal (.tmp 53) (kUn (fadA 1) (.tmp 52)) (oVal (.tmp 54) (kLoad none (.tmp 53)) (oVal (.tmp 55) (kUn (fadA 5) (.tmp 9)) (oVal (.tmp 56) (kUn (fadA 1) (.tmp 55)) (oVal (.tmp 57) (kLoad none (.tmp 56)) (oVal (.tmp 58) (kInt aAdd (.tmp 57) (.con (.int .i64 120))) (oCall (.tmp 59) (.con (.func 15 [] [])) [(.tmp 51),(.tmp 54),(.tmp 58)] (oVal (.tmp 60) (kUn (fadA 7) (.tmp 9)) (oVal .none (kStore 2 (.tmp 60) (.tmp 59)) oNil)))))))))))
def K5r8:OpsF:=(oVal (.tmp 61) (kUn (fadA 2) (.tmp 7)) (oVal (.tmp 62) (kLoad none (.tmp 61)) (oVal (.tmp 63) (kLoad (some 9) (.tmp 9)) (oVal (.tmp 64) (kBuildSlice [(.int .i64 0),(.int .i64 0),(.int .i64 0),(.int .i64 0),(.int .i64 0),(.int .i64 0),(.int .i64 0),(.int .i64 0),(.int .i64 0)] 1 [(0,9,(.tmp 63))]) (oVal (.tmp 65) (kTwo (appendA false 9 72 (tag 42)) (.tmp 62) (.tmp 64)) (oVal (.tmp 66) (kUn (fadA 2) (.tmp 7)) (oVal .none (kStore 1 (.tmp 66) (.tmp 65)) oNil)))))))
def K5r9:OpsF:=(oVal (.tmp 25) (kMove (.tmp 8)) (oVal (.tmp 26) (kInt aSub (.tmp 25) (.con (.int .i64 1))) (oVal (.tmp 8) (kMove (.tmp 26)) oNil)))
def K5l0:K:=(kSeq (kSeq (kRegion K5r3 [24]) (kCond (.tmp 24) kSkip (kExit 0))) (kSeq (kBlock 1 (kSeq (kRegion K5r4 [9]) (kSeq (kRegionD K5r5 []) (kSeq (kRegion K5r6 []) (kSeq (kRegion K5r7 []) (kRegion K5r8 [])))))) (kRegion K5r9 [8])))
def K5r10:OpsF:=(oVal (.tmp 10) (kMove (.con (.int .i64 0))) oNil)
def K5r11:OpsF:=(oVal (.tmp 67) (kMove (.tmp 0)) (oVal (.tmp 68) (kMove (.tmp 2)) (oVal (.tmp 69) (kInt aAdd (.tmp 68) (.con (.int .i64 1))) (oCall (.tmp 70) (.con (.func 9 [] [])) [(.tmp 67),(.tmp 69)] (oVal (.tmp 11) (kMove (.tmp 70)) oNil)))))
def K5r12s7:OpsF:=(oVal (.tmp 78) (kPick (.tmp 73) (.tmp 77) (.con (.bool false))) oNil)
def K5r12s6:OpsF:=(oIf 73 true (oVal (.tmp 77) (kGtr (.tmp 76) (.con (.int .i64 0))) K5r12s7) (oSkip (.tmp 77) K5r12s7))
def K5r12s5:OpsF:=(oIf 73 true (oVal (.tmp 76) (kUn lenSlA (.tmp 75)) K5r12s6) (oSkip (.tmp 76) K5r12s6))
def K5r12s4:OpsF:=(oIf 73 true (oVal (.tmp 75) (kLoad none (.tmp 74)) K5r12s5) (oSkip (.tmp 75) K5r12s5))
def K5r12:OpsF:=(oVal (.tmp 71) (kMove (.tmp 11)) (oVal (.tmp 72) (kGtr (.tmp 71) (.con (.int .i64 0))) (oVal (.tmp 73) (kMove (.tmp 72)) (oIf 73 true (oVal (.tmp 74) (kUn (fadA 2) (.tmp 7)) K5r12s4) (oSkip (.tmp 74) K5r12s4)))))
def K5r13:OpsF:=(oVal (.tmp 81) (kMove (.tmp 10)) (oVal (.tmp 82) (kMove (.tmp 0)) (oCall (.tmp 83) (.con (.func 9 [] [])) [(.tmp 82),(.con (.int .i64 6))] (oVal (.tmp 84) (kInt aAdd (.tmp 81) (.tmp 83)) (oVal (.tmp 10) (kMove (.tmp 84)) oNil)))))
def K5r14:OpsF:=(oVal (.tmp 85) (kMove (.tmp 0)) (oVal (.tmp 86) (kUn (fadA 2) (.tmp 7)) (oVal (.tmp 87) (kLoad none (.tmp 86)) (oVal (.tmp 88) (kUn lenSlA (.tmp 87)) (oCall (.tmp 89) (.con (.func 9 [] [])) [(.tmp 85),(.tmp 88)] (oVal (.tmp 12) (kMove (.tmp 89)) oNil))))))
def K5r15:OpsF:=(oEnd [] (oVal (.tmp 90) (kUn (fadA 3) (.tmp 7)) (oVal (.tmp 91) (kLoad none (.tmp 90)) (oVal (.tmp 92) (kMove (.tmp 12)) (oVal (.tmp 93) (kMove (.tmp 10)) (oVal (.tmp 94) (kMove (.tmp 0)) (oVal (.tmp 95) (kUn (fadA 2) (.tmp 7)) (oVal (.tmp 96) (kLoad none (.tmp 95)) (oVal (.tmp 97) (kMove (.tmp 12)) (oVal (.tmp 98) (kTwo (ixsA 9) (.tmp 96) (.tmp 97)) (oVal (.tmp 99) (kUn (fadA 0) (.tmp 98)) (oVal (.tmp 100) (kLoad none (.tmp 99)) (oVal (.tmp 101) (kInt aAdd (.tmp 100) (.con (.int .i64 5))) (oCallT (some [90]) (.tmp 102) (.con (.func 9 [] [])) [(.tmp 94),(.tmp 101)] (oVal (.tmp 103) (kBuild [(.int .i64 0),(.int .i64 0),(.int .i64 0)] [(0,1,(.tmp 92)),(1,1,(.tmp 93)),(2,1,(.tmp 102))]) (oVal (.tmp 104) (kBuildSlice [(.int .i64 0),(.int .i64 0),(.int .i64 0)] 1 [(0,3,(.tmp 103))]) (oVal (.tmp 105) (kTwo (appendA false 3 24 (tag 58)) (.tmp 91) (.tmp 104)) (oVal (.tmp 106) (kUn (fadA 3) (.tmp 7)) (oVal .none (kStore 1 (.tmp 106) (.tmp 105)) oNil)))))))))))))))))))
def K5r16:OpsF:=(oVal (.tmp 79) (kMove (.tmp 11)) (oVal (.tmp 80) (kInt aSub (.tmp 79) (.con (.int .i64 1))) (oVal (.tmp 11) (kMove (.tmp 80)) oNil)))
def K5l1:K:=(kSeq (kSeq (kRegion K5r12 [78]) (kCond (.tmp 78) kSkip (kExit 2))) (kSeq (kBlock 3 (kSeq (kRegion K5r13 [10]) (kSeq (kRegion K5r14 [12]) (kRegionD K5r15 [])))) (kRegion K5r16 [11])))
def K5r17:OpsF:=(oVal (.tmp 107) (kMove (.tmp 0)) (oCall (.tmp 108) (.con (.func 10 [] [])) [(.tmp 107),(.con (.int .i64 (-60))),(.con (.int .i64 20))] (oVal (.tmp 109) (kMove (.tmp 0)) (oCall (.tmp 110) (.con (.func 9 [] [])) [(.tmp 109),(.con (.int .i64 3))] (oVal (.tmp 13) (kMove (.tmp 108)) (oVal (.tmp 14) (kMove (.tmp 110)) oNil))))))
def K5r18:OpsF:=(oVal (.tmp 111) (kMove (.tmp 0)) (oCall (.tmp 112) (.con (.func 10 [] [])) [(.tmp 111),(.con (.int .i64 1)),(.con (.int .i64 4))] (oVal (.tmp 15) (kMove (.tmp 112)) oNil)))
def K5r19:OpsF:=(oVal (.tmp 113) (kMove (.tmp 15)) (oVal (.tmp 114) (kGtr (.tmp 113) (.con (.int .i64 0))) oNil))
def K5r20:OpsF:=(oVal (.tmp 117) (kUn (fadA 4) (.tmp 7)) (oVal (.tmp 118) (kLoad none (.tmp 117)) (oVal (.tmp 119) (kMove (.tmp 13)) (oVal (.tmp 120) (kMove (.tmp 14)) (oVal (.tmp 121) (kBuild [(.int .i64 0),(.int .i64 0)] [(0,1,(.tmp 119)),(1,1,(.tmp 120))]) (oVal (.tmp 122) (kBuildSlice [(.int .i64 0),(.int .i64 0)] 1 [(0,2,(.tmp 121))]) (oVal (.tmp 123) (kTwo (appendA false 2 16 (tag 60)) (.tmp 118) (.tmp 122)) (oVal (.tmp 124) (kUn (fadA 4) (.tmp 7)) (oVal .none (kStore 1 (.tmp 124) (.tmp 123)) oNil)))))))))
def K5r21:OpsF:=(oVal (.tmp 125) (kMove (.tmp 13)) (oVal (.tmp 126) (kMove (.tmp 0)) (oCall (.tmp 127) (.con (.func 10 [] [])) [(.tmp 126),(.con (.int .i64 1)),(.con (.int .i64 60))] (oVal (.tmp 128) (kInt aAdd (.tmp 125) (.tmp 127)) (oVal (.tmp 129) (kMove (.tmp 14)) (oVal (.tmp 130) (kMove (.tmp 0)) (oCall (.tmp 131) (.con (.func 9 [] [])) [(.tmp 130),(.con (.int .i64 8))] (oVal (.tmp 132) (kInt aAdd (.tmp 129) (.tmp 131)) (oVal (.tmp 13) (kMove (.tmp 128)) (oVal (.tmp 14) (kMove (.tmp 132)) oNil))))))))))
def K5r22:OpsF:=(oVal (.tmp 115) (kMove (.tmp 15)) (oVal (.tmp 116) (kInt aSub (.tmp 115) (.con (.int .i64 1))) (oVal (.tmp 15) (kMove (.tmp 116)) oNil)))
def K5l2:K:=(kSeq (kSeq (kRegion K5r19 [114]) (kCond (.tmp 114) kSkip (kExit 4))) (kSeq (kBlock 5 (kSeq (kRegion K5r20 []) (kRegion K5r21 [13,14]))) (kRegion K5r22 [15])))
def K5r23:OpsF:=(oVal (.tmp 133) (kLoad (some 5) (.tmp 7)) (oVal .none (kStore 5 (.tmp 6) (.tmp 133)) oNil))
theorem res5:Try.f5.results.toList=[.cell 6 31]:=by kernel_rfl
def K5:K:=(kSeq (kRegion K5r0 [6]) (kSeq (kRegion K5r1 [7]) (kSeq (kSeq (kRegion K5r2 [8]) (kBlock 0 (kLoop K5l0))) (kSeq (kRegion K5r10 [10]) (kSeq (kSeq (kRegion K5r11 [11]) (kBlock 2 (kLoop K5l1))) (kSeq (kRegion K5r17 [13,14]) (kSeq (kSeq (kRegion K5r18 [15]) (kBlock 4 (kLoop K5l2))) (kSeq (kRegion K5r23 []) kRet))))))))
theorem enter5 (cl:CallF) (a0 a1 a2:AV) (s:St):enterA Try.prog X cl 5 [a0,a1,a2] s Try.f5=finA Try.prog Try.f5 (K5 cl ⟨5,none,Try.f5.ntmps,X 5⟩ (paramsEnv 0 [a0,a1,a2] .nil) [] s) :=
  enterA_eq (b:=Try.f5.body.getD .skip) (by kernel_rfl) (by kernel_rfl) (by kernel_rfl) (by kernel_rfl) (by kernel_rfl)
def K6r0:OpsF:=(oVal (.tmp 4) (kBox (tag 31) (.tmp 1)) (oVal (.tmp 6) (kAlloc [(.int .i64 0),(.int .i64 0),.nilslice] (tag 35)) oNil))
def K6r1:OpsF:=(oVal (.tmp 11) (kMove (.tmp 0)) (oCall (.tmp 12) (.con (.func 9 [] [])) [(.tmp 11),(.con (.int .i64 10))] (oVal (.tmp 13) (kMove (.tmp 0)) (oVal (.tmp 14) (kMove (.tmp 0)) (oCall (.tmp 15) (.con (.func 9 [] [])) [(.tmp 14),(.con (.int .i64 40))] (oVal (.tmp 16) (kMove (.tmp 0)) (oCall (.tmp 17) (.con (.func 9 [] [])) [(.tmp 16),(.con (.int .i64 200))] (oVal (.tmp 18) (kBuildSlice [(.int .i64 0),(.int .i64 0),(.int .i64 0)] 3 [(0,1,(.con (.int .i64 0))),(1,1,(.tmp 15)),(2,1,(.tmp 17))]) (oCall (.tmp 19) (.con (.func 16 [] [])) [(.tmp 13),(.tmp 18)] (oVal (.tmp 20) (kBuild [(.int .i64 0),(.int .i64 0),.nilslice] [(0,1,(.tmp 12)),(1,1,(.tmp 19))]) (oVal (.tmp 7) (kAlloc [(.int .i64 0),(.int .i64 0),.nilslice] (tag 35)) (oVal .none (kStore 3 (.tmp 7) (.tmp 20)) oNil))))))))))))
def K6r2:OpsF:=(oVal (.tmp 21) (kUn (fadA 0) (.tmp 7)) (oVal (.tmp 22) (kLoad none (.tmp 21)) (oVal (.tmp 8) (kMove (.tmp 22)) oNil)))
def K6r3:OpsF:=(oVal (.tmp 23) (kMove (.tmp 0)) (oVal (.tmp 24) (kMove (.tmp 2)) (oVal (.tmp 25) (kInt aAdd (.tmp 24) (.con (.int .i64 1))) (oCall (.tmp 26) (.con (.func 9 [] [])) [(.tmp 23),(.tmp 25)] (oVal (.tmp 9) (kMove (.tmp 26)) oNil)))))
def K6r4s7:OpsF:=(oVal (.tmp 34) (kPick (.tmp 29) (.tmp 33) (.con (.bool false))) oNil)
def K6r4s6:OpsF:=(oIf 29 true (oVal (.tmp 33) (kGtr (.tmp 32) (.con (.int .i64 0))) K6r4s7) (oSkip (.tmp 33) K6r4s7))
def K6r4s5:OpsF:=(oIf 29 true (oVal (.tmp 32) (kUn lenSlA (.tmp 31)) K6r4s6) (oSkip (.tmp 32) K6r4s6))
def K6r4s4:OpsF:=(oIf 29 true (oVal (.tmp 31) (kLoad none (.tmp 30)) K6r4s5) (oSkip (.tmp 31) K6r4s5))
def K6r4:OpsF:=(oVal (.tmp 27) (kMove (.tmp 9)) (oVal (.tmp 28) (kGtr (.tmp 27) (.con (.int .i64 0))) (oVal (.tmp 29) (kMove (.tmp 28)) (oIf 29 true (oVal (.tmp 30) (kUn (fadA 2) (.tmp 4)) K6r4s4) (oSkip (.tmp 30) K6r4s4)))))
def K6r5:OpsF:=(oVal (.tmp 37) (kMove (.tmp 0)) (oVal (.tmp 38) (kUn (fadA 2) (.tmp 4)) (oVal (.tmp 39) (kLoad none (.tmp 38)) (oVal (.tmp 40) (kUn lenSlA (.tmp 39)) (oCall (.tmp 41) (.con (.func 9 [] [])) [(.tmp 37),(.tmp 40)] (oVal (.tmp 42) (kMove (.tmp 8)) (oVal (.tmp 43) (kMove (.tmp 0)) (oVal (.tmp 44) (kMove (.tmp 0)) (oCall (.tmp 45) (.con (.func 9 [] [])) [(.tmp 44),(.con (.int .i64 3))] (oVal (.tmp 46) (kBuildSlice [(.int .i64 0),(.int .i64 0)] 2 [(0,1,(.con (.int .i64 0))),(1,1,(.tmp 45))]) (oCall (.tmp 47) (.con (.func 16 [] [])) [(.tmp 43),(.tmp 46)] (oVal (.tmp 48) (kInt aAdd (.tmp 42) (.tmp 47)) (oVal (.tmp 49) (kBuild [(.int .i64 0),(.int .i64 0),(.int .i64 0)] [(0,1,(.tmp 41)),(1,1,(.tmp 48))]) (oVal (.tmp 10) (kAlloc [(.int .i64 0),(.int .i64 0),(.int .i64 0)] (tag 62)) (oVal .none (kStore 3 (.tmp 10) (.tmp 49)) oNil)))))))))))))))
def K6r6:OpsF:=(oEnd [] (oVal (.tmp 50) (kUn (fadA 1) (.tmp 10)) (oVal (.tmp 51) (kLoad none (.tmp 50)) (oVal (.tmp 52) (kMove (.tmp 0)) (oCallT (some [50]) (.tmp 53) (.con (.func 10 [] [])) [(.tmp 52),(.con (.int .i64 1)),(.con (.int .i64 8))] (oVal (.tmp 54) (kInt aAdd (.tmp 51) (.tmp 53)) (oVal (.tmp 55) (kUn (fadA 2) (.tmp 10)) (oVal .none (kStore 1 (.tmp 55) (.tmp 54)) oNil))))))))
def K6r7:OpsF:=(oVal (.tmp 56) (kUn (fadA 2) (.tmp 7)) (oVal (.tmp 57) (kLoad none (.tmp 56)) (oVal (.tmp 58) (kLoad (some 3) (.tmp 10)) (oVal (.tmp 59) (kBuildSlice [(.int .i64 0),(.int .i64 0),(.int .i64 0)] 1 [(0,3,(.tmp 58))]) (oVal (.tmp 60) (kTwo (appendA false 3 24 (tag 62)) (.tmp 57) (.tmp 59)) (oVal (.tmp 61) (kUn (fadA 2) (.tmp 7)) (oVal .none (kStore 1 (.tmp 61) (.tmp 60)) oNil)))))))
def K6r8:OpsF:=(oVal (.tmp 62) (kUn (fadA 2) (.tmp 10)) (oVal (.tmp 63) (kLoad none (.tmp 62)) (oVal (.tmp 8) (kMove (.tmp 63)) oNil)))
def K6r9:OpsF:=(oVal (.tmp 35) (kMove (.tmp 9)) (oVal (.tmp 36) (kInt aSub (.tmp 35) (.con (.int .i64 1))) (oVal (.tmp 9) (kMove (.tmp 36)) oNil)))
def K6l0:K:=(kSeq (kSeq (kRegion K6r4 [34]) (kCond (.tmp 34) kSkip (kExit 0))) (kSeq (kBlock 1 (kSeq (kRegion K6r5 [10]) (kSeq (kRegionD K6r6 []) (kSeq (kRegion K6r7 []) (kRegion K6r8 [8]))))) (kRegion K6r9 [9])))
def K6r10:OpsF:=(oVal (.tmp 64) (kLoad (some 3) (.tmp 7)) (oVal .none (kStore 3 (.tmp 6) (.tmp 64)) oNil))
theorem res6:Try.f6.results.toList=[.cell 6 35]:=by kernel_rfl
def K6:K:=(kSeq (kRegion K6r0 [4,6]) (kSeq (kRegion K6r1 [7]) (kSeq (kRegion K6r2 [8]) (kSeq (kSeq (kRegion K6r3 [9]) (kBlock 0 (kLoop K6l0))) (kSeq (kRegion K6r10 []) kRet)))))
theorem enter6 (cl:CallF) (a0 a1 a2:AV) (s:St):enterA Try.prog X cl 6 [a0,a1,a2] s Try.f6=finA Try.prog Try.f6 (K6 cl ⟨6,none,Try.f6.ntmps,X 6⟩ (paramsEnv 0 [a0,a1,a2] .nil) [] s) :=
  enterA_eq (b:=Try.f6.body.getD .skip) (by kernel_rfl) (by kernel_rfl) (by kernel_rfl) (by kernel_rfl) (by kernel_rfl)
end
end Go.Proofs.Ytanecldpcceaoaa.code
set_option maxRecDepth 100000
namespace Go.Proofs.Ytanecldpcceaoaa.code
open Go.Abs
noncomputable section
def K7r0:OpsF:=(oVal (.tmp 3) (kBox (tag 35) (.tmp 1)) (oVal (.tmp 4) (kMove (.con (.int .i64 0))) oNil))
def K7r1:OpsF:=(oEnd [] (oVal (.tmp 5) (kUn (fadA 0) (.tmp 3)) (oVal (.tmp 6) (kLoad none (.tmp 5)) (oVal (.tmp 7) (kMove (.tmp 0)) (oVal (.tmp 8) (kMove (.tmp 0)) (oVal (.tmp 9) (kBuildSlice [(.int .i64 0),(.int .i64 0),(.int .i64 0)] 3 [(0,1,(.con (.int .i64 6))),(1,1,(.con (.int .i64 30))),(2,1,(.con (.int .i64 60)))]) (oCallT (some [5]) (.tmp 10) (.con (.func 16 [] [])) [(.tmp 8),(.tmp 9)] (oCallT (some [5]) (.tmp 11) (.con (.func 9 [] [])) [(.tmp 7),(.tmp 10)] (oVal (.tmp 12) (kInt aAdd (.tmp 6) (.tmp 11)) (oVal (.tmp 13) (kFold minA (.con (.int .i64 240)) [(.tmp 12)]) (oVal (.tmp 4) (kMove (.tmp 13)) oNil)))))))))))
theorem res7:Try.f7.results.toList=[.tmp 4]:=by kernel_rfl
def K7:K:=(kSeq (kRegion K7r0 [3,4]) (kSeq (kRegionD K7r1 [4]) kRet))
theorem enter7 (cl:CallF) (a0 a1:AV) (s:St):enterA Try.prog X cl 7 [a0,a1] s Try.f7=finA Try.prog Try.f7 (K7 cl ⟨7,none,Try.f7.ntmps,X 7⟩ (paramsEnv 0 [a0,a1] .nil) [] s) :=
  enterA_eq (b:=Try.f7.body.getD .skip) (by kernel_rfl) (by kernel_rfl) (by kernel_rfl) (by kernel_rfl) (by kernel_rfl)
def K8r0:OpsF:=(oVal (.tmp 1) (kBox (tag 31) (.tmp 0)) (oVal (.tmp 2) (kAlloc [(.int .i64 0),(.int .i64 0),.nilslice,.nilslice,.nilslice] (tag 31)) oNil))
def K8r1:OpsF:=(oEnd [(3,8),(3,12),(7,12)] (oVal (.tmp 3) (kBuildSlice [] 0 []) (oVal (.tmp 4) (kUn (fadA 2) (.tmp 1)) (oVal (.tmp 5) (kLoad none (.tmp 4)) (oVal (.tmp 6) (kTwo (appendA false 9 72 (tag 42)) (.tmp 3) (.tmp 5)) (oVal (.tmp 7) (kBuildSlice [] 0 []) (oVal (.tmp 8) (kUn (fadA 3) (.tmp 1)) (oVal (.tmp 9) (kLoad none (.tmp 8)) (oVal (.tmp 10) (kTwo (appendA false 3 24 (tag 58)) (.tmp 7) (.tmp 9)) (oVal (.tmp 11) (kBuildSlice [] 0 []) (oVal (.tmp 12) (kUn (fadA 4) (.tmp 1)) (oVal (.tmp 13) (kLoad none (.tmp 12)) (oVal (.tmp 14) (kTwo (appendA false 2 16 (tag 60)) (.tmp 11) (.tmp 13)) (oVal (.tmp 15) (kUn (fadA 2) (.tmp 1)) (oVal .none (kStore 1 (.tmp 15) (.tmp 6)) (oVal (.tmp 16) (kUn (fadA 3) (.tmp 1)) (oVal .none (kStore 1 (.tmp 16) (.tmp 10)) (oVal (.tmp 17) (kUn (fadA 4) (.tmp 1)) (oVal .none (kStore 1 (.tmp 17) (.tmp 14)) oNil)))))))))))))))))))
def K8r2:OpsF:=(oVal (.tmp 18) (kLoad (some 5) (.tmp 1)) (oVal .none (kStore 5 (.tmp 2) (.tmp 18)) oNil))
theorem res8:Try.f8.results.toList=[.cell 2 31]:=by kernel_rfl
def K8:K:=(kSeq (kRegion K8r0 [1,2]) (kSeq (kRegionD K8r1 []) (kSeq (kRegion K8r2 []) kRet)))
theorem enter8 (cl:CallF) (a0:AV) (s:St):enterA Try.prog X cl 8 [a0] s Try.f8=finA Try.prog Try.f8 (K8 cl ⟨8,none,Try.f8.ntmps,X 8⟩ (paramsEnv 0 [a0] .nil) [] s) :=
  enterA_eq (b:=Try.f8.body.getD .skip) (by kernel_rfl) (by kernel_rfl) (by kernel_rfl) (by kernel_rfl) (by kernel_rfl)
def K23r0:OpsF:=(oVal (.tmp 4) (kMove (.con (.int .i64 0))) oNil)
def K23r1:OpsF:=(oVal (.tmp 8) (kMove (.tmp 0)) (oVal (.tmp 5) (kMove (.con (.int .i64 0))) (oVal (.tmp 6) (kMove (.tmp 8)) oNil)))
def K23r2:OpsF:=(oVal (.tmp 9) (kMove (.tmp 5)) (oVal (.tmp 10) (kMove (.tmp 6)) (oVal (.tmp 11) (kInt aLss (.tmp 9) (.tmp 10)) oNil)))
def K23r3:OpsF:=(oVal (.tmp 12) (kMove (.tmp 5)) (oVal (.tmp 13) (kMove (.tmp 6)) (oVal (.tmp 14) (kInt aAdd (.tmp 12) (.tmp 13)) (oVal (.tmp 15) (kUn (cviA .u64) (.tmp 14)) (oVal (.tmp 16) (kShr (.tmp 15) (.con (.int .u64 1))) (oVal (.tmp 17) (kUn (cviA .i64) (.tmp 16)) (oVal (.tmp 7) (kMove (.tmp 17)) oNil)))))))
def K23r4:OpsF:=(oVal (.tmp 18) (kMove (.tmp 1)) (oVal (.tmp 19) (kMove (.tmp 7)) (oCall (.tmp 20) (.tmp 18) [(.tmp 19)] (oVal (.tmp 21) (kUn notA (.tmp 20)) oNil))))
def K23r5:OpsF:=(oVal (.tmp 22) (kMove (.tmp 7)) (oVal (.tmp 23) (kInt aAdd (.tmp 22) (.con (.int .i64 1))) (oVal (.tmp 5) (kMove (.tmp 23)) oNil)))
def K23r6:OpsF:=(oVal (.tmp 24) (kMove (.tmp 7)) (oVal (.tmp 6) (kMove (.tmp 24)) oNil))
def K23l0:K:=(kSeq (kSeq (kRegion K23r2 [11]) (kCond (.tmp 11) kSkip (kExit 0))) (kBlock 1 (kSeq (kRegion K23r3 [7]) (kSeq (kRegion K23r4 [21]) (kCond (.tmp 21) (kRegion K23r5 [5]) (kRegion K23r6 [6]))))))
def K23r7:OpsF:=(oVal (.tmp 25) (kMove (.tmp 5)) (oVal (.tmp 4) (kMove (.tmp 25)) oNil))
theorem res23:Try.f23.results.toList=[.tmp 4]:=by kernel_rfl
def K23:K:=(kSeq (kRegion K23r0 [4]) (kSeq (kRegion K23r1 [5,6]) (kSeq (kBlock 0 (kLoop K23l0)) (kSeq (kRegion K23r7 [4]) kRet))))
theorem enter23 (cl:CallF) (a0 a1:AV) (s:St):enterA Try.prog X cl 23 [a0,a1] s Try.f23=finA Try.prog Try.f23 (K23 cl ⟨23,none,Try.f23.ntmps,X 23⟩ (paramsEnv 0 [a0,a1] .nil) [] s) :=
  enterA_eq (b:=Try.f23.body.getD .skip) (by kernel_rfl) (by kernel_rfl) (by kernel_rfl) (by kernel_rfl) (by kernel_rfl)
end
end Go.Proofs.Ytanecldpcceaoaa.code
set_option maxRecDepth 100000
namespace Go.Proofs.Ytanecldpcceaoaa.code
open Go.Abs
noncomputable section
def K3r2:OpsF:=(oVal (.tmp 22) (kMove (.tmp 3)) (oCall (.tmp 23) (.con (.func 5 [] [])) [(.tmp 22),(.con (.int .i64 3)),(.con (.int .i64 5))] (oVal (.tmp 4) (kAlloc [(.int .i64 0),(.int .i64 0),.nilslice,.nilslice,.nilslice] (tag 31)) (oVal .none (kStore 5 (.tmp 4) (.tmp 23)) oNil))))
def K3r3:OpsF:=(oVal (.tmp 24) (kMove (.tmp 3)) (oVal (.tmp 25) (kLoad (some 5) (.tmp 4)) (oCall (.tmp 26) (.con (.func 6 [] [])) [(.tmp 24),(.tmp 25),(.con (.int .i64 4))] (oVal (.tmp 5) (kAlloc [(.int .i64 0),(.int .i64 0),.nilslice] (tag 35)) (oVal .none (kStore 3 (.tmp 5) (.tmp 26)) oNil)))))
def K3r4:OpsF:=(oVal (.tmp 27) (kMove (.tmp 3)) (oVal (.tmp 28) (kLoad (some 3) (.tmp 5)) (oCall (.tmp 29) (.con (.func 7 [] [])) [(.tmp 27),(.tmp 28)] (oVal (.tmp 6) (kMove (.tmp 29)) oNil))))
def K3r5:OpsF:=(oVal (.tmp 30) (kLoad (some 5) (.tmp 4)) (oCall (.tmp 31) (.con (.func 8 [] [])) [(.tmp 30)] (oVal (.tmp 7) (kAlloc [(.int .i64 0),(.int .i64 0),.nilslice,.nilslice,.nilslice] (tag 31)) (oVal .none (kStore 5 (.tmp 7) (.tmp 31)) oNil))))
def K3r6:OpsF:=(oVal (.tmp 32) (kMove (.tmp 3)) (oCall (.tmp 33) (.con (.func 9 [] [])) [(.tmp 32),(.con (.int .i64 30))] (oVal (.tmp 8) (kMove (.tmp 33)) oNil)))
def K3r7:OpsF:=(oVal (.tmp 34) (kUn (fadA 0) (.tmp 7)) (oVal (.tmp 35) (kUn (fadA 0) (.tmp 34)) (oVal (.tmp 36) (kLoad none (.tmp 35)) (oVal (.tmp 37) (kMove (.tmp 8)) (oVal (.tmp 38) (kInt aSub (.tmp 36) (.tmp 37)) (oVal (.tmp 39) (kUn (fadA 0) (.tmp 7)) (oVal (.tmp 40) (kUn (fadA 1) (.tmp 39)) (oVal (.tmp 41) (kLoad none (.tmp 40)) (oVal (.tmp 42) (kMove (.tmp 8)) (oVal (.tmp 43) (kInt aSub (.tmp 41) (.tmp 42)) (oVal (.tmp 44) (kUn (fadA 0) (.tmp 7)) (oVal (.tmp 45) (kUn (fadA 0) (.tmp 44)) (oVal .none (kStore 1 (.tmp 45) (.tmp 38)) (oVal (.tmp 46) (kUn (fadA 0) (.tmp 7)) (oVal (.tmp 47) (kUn (fadA 1) (.tmp 46)) (oVal .none (kStore 1 (.tmp 47) (.tmp 43)) oNil))))))))))))))))
def K3r8:OpsF:=(oVal (.tmp 9) (kMove (.con (.int .i64 0))) oNil)
def K3r9:OpsF:=(oVal (.tmp 48) (kMove (.tmp 9)) (oVal (.tmp 49) (kUn (fadA 2) (.tmp 7)) (oVal (.tmp 50) (kLoad none (.tmp 49)) (oVal (.tmp 51) (kUn lenSlA (.tmp 50)) (oVal (.tmp 52) (kInt aLss (.tmp 48) (.tmp 51)) oNil)))))
def K3r10:OpsF:=(oVal (.tmp 55) (kUn (fadA 2) (.tmp 7)) (oVal (.tmp 56) (kLoad none (.tmp 55)) (oVal (.tmp 57) (kMove (.tmp 9)) (oVal (.tmp 58) (kTwo (ixsA 9) (.tmp 56) (.tmp 57)) (oVal (.tmp 10) (kMove (.tmp 58)) oNil)))))
def K3r11:OpsF:=(oVal (.tmp 59) (kMove (.tmp 3)) (oCall (.tmp 60) (.con (.func 9 [] [])) [(.tmp 59),(.con (.int .i64 20))] (oVal (.tmp 11) (kMove (.tmp 60)) oNil)))
def K3r12:OpsF:=(oEnd [] (oVal (.tmp 61) (kMove (.tmp 10)) (oVal (.tmp 62) (kMove (.tmp 10)) (oVal (.tmp 63) (kMove (.tmp 10)) (oVal (.tmp 64) (kMove (.tmp 10)) (oVal (.tmp 65) (kUn nilA (.tmp 64)) (oVal (.tmp 66) (kUn (fadA 0) (.tmp 65)) (oVal (.tmp 67) (kLoad none (.tmp 66)) (oVal (.tmp 68) (kMove (.tmp 11)) (oVal (.tmp 69) (kInt aAdd (.tmp 67) (.tmp 68)) (oVal (.tmp 70) (kMove (.tmp 10)) (oVal (.tmp 71) (kUn nilA (.tmp 70)) (oVal (.tmp 72) (kUn (fadA 1) (.tmp 71)) (oVal (.tmp 73) (kUn (fadA 0) (.tmp 72)) (oVal (.tmp 74) (kLoad none (.tmp 73)) (oVal (.tmp 75) (kMove (.tmp 11)) (oVal (.tmp 76) (kInt aAdd (.tmp 74) (.tmp 75)) (oVal (.tmp 77) (kMove (.tmp 10)) (oVal (.tmp 78) (kUn nilA (.tmp 77)) (oVal (.tmp 79) (kUn (fadA 1) (.tmp 78)) (oVal (.tmp 80) (kUn (fadA 1) (.tmp 79)) (oVal (.tmp 81) (kLoad none (.tmp 80)) (oVal (.tmp 82) (kMove (.tmp 11)) (oVal (.tmp 83) (kInt aAdd (.tmp 81) (.tmp 82)) (oVal (.tmp 84) (kUn nilA (.tmp 61)) (oVal (.tmp 85) (kUn (fadA 0) (.tmp 84)) (oVal .none (kStore 1 (.tmp 85) (.tmp 69)) (oVal (.tmp 86) (kUn nilA (.tmp 62)) (oVal (.tmp 87) (kUn (fadA 1) (.tmp 86)) (oVal (.tmp 88) (kUn (fadA 0) (.tmp 87)) (oVal .none (kStore 1 (.tmp 88) (.tmp 76)) (oVal (.tmp 89) (kUn nilA (.tmp 63)) (oVal (.tmp 90) (kUn (fadA 1) (.tmp 89)) (oVal (.tmp 91) (kUn (fadA 1) (.tmp 90)) (oVal .none (kStore 1 (.tmp 91) (.tmp 83)) oNil)))))))))))))))))))))))))))))))))))
def K3r13:OpsF:=(oVal (.tmp 92) (kMove (.tmp 10)) (oVal (.tmp 93) (kMove (.tmp 3)) (oVal (.tmp 94) (kMove (.tmp 10)) (oVal (.tmp 95) (kUn nilA (.tmp 94)) (oVal (.tmp 96) (kUn (fadA 3) (.tmp 95)) (oVal (.tmp 97) (kUn (fadA 0) (.tmp 96)) (oVal (.tmp 98) (kLoad none (.tmp 97)) (oCall (.tmp 99) (.con (.func 10 [] [])) [(.tmp 93),(.con (.int .i64 0)),(.tmp 98)] (oVal (.tmp 100) (kUn nilA (.tmp 92)) (oVal (.tmp 101) (kUn (fadA 3) (.tmp 100)) (oVal (.tmp 102) (kUn (fadA 0) (.tmp 101)) (oVal .none (kStore 1 (.tmp 102) (.tmp 99)) oNil))))))))))))
def K3r14:OpsF:=(oVal (.tmp 53) (kMove (.tmp 9)) (oVal (.tmp 54) (kInt aAdd (.tmp 53) (.con (.int .i64 1))) (oVal (.tmp 9) (kMove (.tmp 54)) oNil)))
def K3l0:K:=(kSeq (kSeq (kRegion K3r9 [52]) (kCond (.tmp 52) kSkip (kExit 0))) (kSeq (kBlock 1 (kSeq (kRegion K3r10 [10]) (kSeq (kRegion K3r11 [11]) (kSeq (kRegionD K3r12 []) (kRegion K3r13 []))))) (kRegion K3r14 [9])))
def K3r15:OpsF:=(oVal (.tmp 104) (kLoad (some 5) (.tmp 4)) (oVal (.tmp 105) (kLoad (some 3) (.tmp 5)) (oVal (.tmp 106) (kMove (.tmp 6)) (oCall (.tmp 107) (.con (.func 11 [] [])) [(.tmp 104),(.tmp 105),(.tmp 106)] (oVal (.tmp 103) (kMove (.tmp 107)) (oVal (.tmp 108) (kUn (extA 0) (.tmp 103)) (oVal (.tmp 109) (kUn (extA 1) (.tmp 103)) (oVal (.tmp 12) (kAlloc [(.int .i64 0),(.int .i64 0)] (tag 26)) (oVal .none (kStore 2 (.tmp 12) (.tmp 108)) (oVal (.tmp 13) (kMove (.tmp 109)) oNil))))))))))
def K3r16:OpsF:=(oVal (.tmp 111) (kLoad (some 5) (.tmp 7)) (oVal (.tmp 112) (kLoad (some 3) (.tmp 5)) (oVal (.tmp 113) (kMove (.tmp 6)) (oCall (.tmp 114) (.con (.func 11 [] [])) [(.tmp 111),(.tmp 112),(.tmp 113)] (oVal (.tmp 110) (kMove (.tmp 114)) (oVal (.tmp 115) (kUn (extA 0) (.tmp 110)) (oVal (.tmp 116) (kUn (extA 1) (.tmp 110)) (oVal (.tmp 14) (kAlloc [(.int .i64 0),(.int .i64 0)] (tag 26)) (oVal .none (kStore 2 (.tmp 14) (.tmp 115)) (oVal (.tmp 15) (kMove (.tmp 116)) oNil))))))))))
def K3r17:OpsF:=(oVal (.tmp 118) (kLoad (some 5) (.tmp 4)) (oVal (.tmp 119) (kLoad (some 3) (.tmp 5)) (oCall (.tmp 120) (.con (.func 12 [] [])) [(.tmp 118),(.tmp 119)] (oVal (.tmp 117) (kMove (.tmp 120)) (oVal (.tmp 121) (kUn (extA 0) (.tmp 117)) (oVal (.tmp 122) (kUn (extA 1) (.tmp 117)) (oVal (.tmp 16) (kMove (.tmp 121)) (oVal (.tmp 17) (kMove (.tmp 122)) oNil))))))))
def K3r18:OpsF:=(oVal (.tmp 124) (kLoad (some 5) (.tmp 7)) (oVal (.tmp 125) (kLoad (some 3) (.tmp 5)) (oCall (.tmp 126) (.con (.func 12 [] [])) [(.tmp 124),(.tmp 125)] (oVal (.tmp 123) (kMove (.tmp 126)) (oVal (.tmp 127) (kUn (extA 0) (.tmp 123)) (oVal (.tmp 128) (kUn (extA 1) (.tmp 123)) (oVal (.tmp 18) (kMove (.tmp 127)) (oVal (.tmp 19) (kMove (.tmp 128)) oNil))))))))
def K3r19s35:OpsF:=(oVal (.tmp 164) (kPick (.tmp 162) (.tmp 163) (.con (.bool false))) (oVal (.tmp 2) (kMove (.tmp 164)) oNil))
def K3r19s32:OpsF:=(oVal (.tmp 161) (kPick (.tmp 157) (.tmp 160) (.con (.bool false))) (oVal (.tmp 162) (kMove (.tmp 161)) (oIf 162 true (oCall (.tmp 163) (.con (.func 13 [] [])) [] K3r19s35) (oSkip (.tmp 163) K3r19s35))))
def K3r19s31:OpsF:=(oIf 157 true (oVal (.tmp 160) (kInt aGeq (.tmp 158) (.tmp 159)) K3r19s32) (oSkip (.tmp 160) K3r19s32))
def K3r19s30:OpsF:=(oIf 157 true (oVal (.tmp 159) (kMove (.tmp 16)) K3r19s31) (oSkip (.tmp 159) K3r19s31))
def K3r19s27:OpsF:=(oVal (.tmp 156) (kPick (.tmp 150) (.tmp 155) (.con (.bool false))) (oVal (.tmp 157) (kMove (.tmp 156)) (oIf 157 true (oVal (.tmp 158) (kMove (.tmp 18)) K3r19s30) (oSkip (.tmp 158) K3r19s30))))
def K3r19s26:OpsF:=(oIf 150 true (oVal (.tmp 155) (kInt aLeq (.tmp 152) (.tmp 154)) K3r19s27) (oSkip (.tmp 155) K3r19s27))
def K3r19s25:OpsF:=(oIf 150 true (oVal (.tmp 154) (kLoad none (.tmp 153)) K3r19s26) (oSkip (.tmp 154) K3r19s26))
def K3r19s24:OpsF:=(oIf 150 true (oVal (.tmp 153) (kUn (fadA 1) (.tmp 12)) K3r19s25) (oSkip (.tmp 153) K3r19s25))
def K3r19s23:OpsF:=(oIf 150 true (oVal (.tmp 152) (kLoad none (.tmp 151)) K3r19s24) (oSkip (.tmp 152) K3r19s24))
def K3r19s20:OpsF:=(oVal (.tmp 149) (kPick (.tmp 143) (.tmp 148) (.con (.bool false))) (oVal (.tmp 150) (kMove (.tmp 149)) (oIf 150 true (oVal (.tmp 151) (kUn (fadA 1) (.tmp 14)) K3r19s23) (oSkip (.tmp 151) K3r19s23))))
def K3r19s19:OpsF:=(oIf 143 true (oVal (.tmp 148) (kInt aLeq (.tmp 145) (.tmp 147)) K3r19s20) (oSkip (.tmp 148) K3r19s20))
def K3r19s18:OpsF:=(oIf 143 true (oVal (.tmp 147) (kLoad none (.tmp 146)) K3r19s19) (oSkip (.tmp 147) K3r19s19))
def K3r19s17:OpsF:=(oIf 143 true (oVal (.tmp 146) (kUn (fadA 0) (.tmp 12)) K3r19s18) (oSkip (.tmp 146) K3r19s18))
def K3r19s16:OpsF:=(oIf 143 true (oVal (.tmp 145) (kLoad none (.tmp 144)) K3r19s17) (oSkip (.tmp 145) K3r19s17))
def K3r19s13:OpsF:=(oVal (.tmp 142) (kPick (.tmp 139) (.tmp 141) (.con (.bool false))) (oVal (.tmp 143) (kMove (.tmp 142)) (oIf 143 true (oVal (.tmp 144) (kUn (fadA 0) (.tmp 14)) K3r19s16) (oSkip (.tmp 144) K3r19s16))))
def K3r19s12:OpsF:=(oIf 139 true (oVal (.tmp 141) (kInt aEql (.tmp 140) (.con (.int .i64 0))) K3r19s13) (oSkip (.tmp 141) K3r19s13))
def K3r19s9:OpsF:=(oVal (.tmp 138) (kPick (.tmp 135) (.tmp 137) (.con (.bool false))) (oVal (.tmp 139) (kMove (.tmp 138)) (oIf 139 true (oVal (.tmp 140) (kMove (.tmp 19)) K3r19s12) (oSkip (.tmp 140) K3r19s12))))
def K3r19s8:OpsF:=(oIf 135 true (oVal (.tmp 137) (kInt aEql (.tmp 136) (.con (.int .i64 0))) K3r19s9) (oSkip (.tmp 137) K3r19s9))
def K3r19s5:OpsF:=(oVal (.tmp 134) (kPick (.tmp 131) (.tmp 133) (.con (.bool false))) (oVal (.tmp 135) (kMove (.tmp 134)) (oIf 135 true (oVal (.tmp 136) (kMove (.tmp 17)) K3r19s8) (oSkip (.tmp 136) K3r19s8))))
def K3r19s4:OpsF:=(oIf 131 true (oVal (.tmp 133) (kInt aEql (.tmp 132) (.con (.int .i64 0))) K3r19s5) (oSkip (.tmp 133) K3r19s5))
def K3r19:OpsF:=(oVal (.tmp 129) (kMove (.tmp 13)) (oVal (.tmp 130) (kInt aEql (.tmp 129) (.con (.int .i64 0))) (oVal (.tmp 131) (kMove (.tmp 130)) (oIf 131 true (oVal (.tmp 132) (kMove (.tmp 15)) K3r19s4) (oSkip (.tmp 132) K3r19s4)))))
theorem res3:Try.f3.results.toList=[.tmp 2]:=by kernel_rfl
end
end Go.Proofs.Ytanecldpcceaoaa.code
