/- The code of functions as the interpreter has it, region by region. -/
import Derived.Test.YtoolodjbfphkjaaAbsTab
import Derived.Test.YtoolodjbfphkjaaAbsWalk
import Derived.KernelRfl
set_option maxRecDepth 100000
namespace Go.Proofs.Ytoolodjbfphkjaa.code
open Go.Abs
noncomputable section
def K45r0:OpsF:=(oVal (.tmp 2) (kMove (.con (.int .i64 0))) oNil)
def K45r1:OpsF:=(oVal (.tmp 3) (kMove (.con (.int .i64 0))) oNil)
def K45r2:OpsF:=(oVal (.tmp 6) (kMove (.tmp 0)) (oVal (.tmp 7) (kUn lenSlA (.tmp 6)) (oVal (.tmp 8) (kMove (.con (.int .i64 0))) oNil)))
def K45r3:OpsF:=(oVal (.tmp 9) (kInt aLss (.tmp 8) (.tmp 7)) oNil)
def K45r4:OpsF:=(oVal (.tmp 10) (kTwo (ixsA 1) (.tmp 6) (.tmp 8)) (oVal (.tmp 11) (kLoad none (.tmp 10)) (oVal (.tmp 5) (kMove (.tmp 11)) oNil)))
def K45r5:OpsF:=(oVal (.tmp 12) (kMove (.tmp 5)) (oVal (.tmp 13) (kMove (.tmp 3)) (oVal (.tmp 14) (kInt aNeq (.tmp 12) (.tmp 13)) oNil)))
def K45r6:OpsF:=(oVal (.tmp 15) (kMove (.tmp 5)) (oVal (.tmp 2) (kMove (.tmp 15)) oNil))
def K45r7:OpsF:=(oVal (.tmp 16) (kInt aAdd (.tmp 8) (.con (.int .i64 1))) (oVal (.tmp 8) (kMove (.tmp 16)) oNil))
def K45l0:K:=(kSeq (kRegion K45r3 [9]) (kSeq (kCond (.tmp 9) kSkip (kExit 0)) (kSeq (kBlock 1 (kSeq (kRegion K45r4 [5]) (kSeq (kRegion K45r5 [14]) (kCond (.tmp 14) (kSeq (kRegion K45r6 [2]) kRet) kSkip)))) (kRegion K45r7 [8]))))
def K45r8:OpsF:=(oVal (.tmp 17) (kMove (.tmp 3)) (oVal (.tmp 2) (kMove (.tmp 17)) oNil))
theorem res45:Try.f45.results.toList=[.tmp 2]:=by kernel_rfl
def K45:K:=(kSeq (kRegion K45r0 [2]) (kSeq (kRegion K45r1 [3]) (kSeq (kSeq (kRegion K45r2 [6,7,8]) (kBlock 0 (kLoop K45l0))) (kSeq (kRegion K45r8 [2]) kRet))))
theorem enter45 (cl:CallF) (a0:AV) (s:St):enterA Try.prog X cl 45 [a0] s Try.f45=finA Try.prog Try.f45 (K45 cl ⟨45,none,Try.f45.ntmps,X 45⟩ (paramsEnv 0 [a0] .nil) [] s) :=
  enterA_eq (b:=Try.f45.body.getD .skip) (by kernel_rfl) (by kernel_rfl) (by kernel_rfl) (by kernel_rfl) (by kernel_rfl)
def K62r0:OpsF:=(oVal (.tmp 6) (kMove (.con (.int .i64 0))) oNil)
def K62r1:OpsF:=(oVal (.tmp 8) (kMove (.tmp 0)) (oVal (.tmp 9) (kMove (.tmp 1)) (oVal (.tmp 10) (kInt aLss (.tmp 8) (.tmp 9)) (oVal (.tmp 7) (kMove (.tmp 10)) oNil))))
def K62r2:OpsF:=(oVal (.tmp 6) (kMove (.con (.int .i64 7))) oNil)
def K62r3:OpsF:=(oVal (.tmp 12) (kMove (.tmp 0)) (oVal (.tmp 13) (kMove (.tmp 2)) (oVal (.tmp 14) (kGtr (.tmp 12) (.tmp 13)) (oVal (.tmp 11) (kMove (.tmp 14)) oNil))))
def K62r4:OpsF:=(oVal (.tmp 6) (kMove (.con (.int .i64 6))) oNil)
def K62r5:OpsF:=(oVal (.tmp 6) (kMove (.con (.int .i64 0))) oNil)
theorem res62:Try.f62.results.toList=[.tmp 6]:=by kernel_rfl
def K62:K:=(kSeq (kRegion K62r0 [6]) (kSeq (kBlock 0 (kSeq (kRegion K62r1 [7]) (kCond (.tmp 7) (kSeq (kRegion K62r2 [6]) kRet) (kSeq (kRegion K62r3 [11]) (kCond (.tmp 11) (kSeq (kRegion K62r4 [6]) kRet) kSkip))))) (kSeq (kRegion K62r5 [6]) kRet)))
theorem enter62 (cl:CallF) (a0 a1 a2:AV) (s:St):enterA Try.prog X cl 62 [a0,a1,a2] s Try.f62=finA Try.prog Try.f62 (K62 cl ⟨62,none,Try.f62.ntmps,X 62⟩ (paramsEnv 0 [a0,a1,a2] .nil) [] s) :=
  enterA_eq (b:=Try.f62.body.getD .skip) (by kernel_rfl) (by kernel_rfl) (by kernel_rfl) (by kernel_rfl) (by kernel_rfl)
def K58r0:OpsF:=(oVal (.tmp 4) (kMove (.con (.int .i64 0))) oNil)
def K58r1s6:OpsF:=(oVal (.tmp 11) (kPick (.tmp 7) (.con (.bool true)) (.tmp 10)) oNil)
def K58r1s5:OpsF:=(oIf 7 false (oVal (.tmp 10) (kInt aGeq (.tmp 8) (.tmp 9)) K58r1s6) (oSkip (.tmp 10) K58r1s6))
def K58r1s4:OpsF:=(oIf 7 false (oVal (.tmp 9) (kMove (.tmp 1)) K58r1s5) (oSkip (.tmp 9) K58r1s5))
def K58r1:OpsF:=(oVal (.tmp 5) (kMove (.tmp 0)) (oVal (.tmp 6) (kInt aLss (.tmp 5) (.con (.int .i64 0))) (oVal (.tmp 7) (kMove (.tmp 6)) (oIf 7 false (oVal (.tmp 8) (kMove (.tmp 0)) K58r1s4) (oSkip (.tmp 8) K58r1s4)))))
def K58r2:OpsF:=(oVal (.tmp 4) (kMove (.con (.int .i64 3))) oNil)
def K58r3:OpsF:=(oVal (.tmp 4) (kMove (.con (.int .i64 0))) oNil)
theorem res58:Try.f58.results.toList=[.tmp 4]:=by kernel_rfl
def K58:K:=(kSeq (kRegion K58r0 [4]) (kSeq (kSeq (kRegion K58r1 [11]) (kCond (.tmp 11) (kSeq (kRegion K58r2 [4]) kRet) kSkip)) (kSeq (kRegion K58r3 [4]) kRet)))
theorem enter58 (cl:CallF) (a0 a1:AV) (s:St):enterA Try.prog X cl 58 [a0,a1] s Try.f58=finA Try.prog Try.f58 (K58 cl ⟨58,none,Try.f58.ntmps,X 58⟩ (paramsEnv 0 [a0,a1] .nil) [] s) :=
  enterA_eq (b:=Try.f58.body.getD .skip) (by kernel_rfl) (by kernel_rfl) (by kernel_rfl) (by kernel_rfl) (by kernel_rfl)
def K75r0:OpsF:=(oVal (.tmp 3) (kBox (tag 60) (.tmp 0)) (oVal (.tmp 6) (kMove (.con (.int .i64 0))) oNil))
def K75r1:OpsF:=(oEnd [] (oVal (.tmp 8) (kUn (fadA 0) (.tmp 3)) (oVal (.tmp 9) (kLoad none (.tmp 8)) (oVal (.tmp 10) (kMove (.tmp 1)) (oVal (.tmp 11) (kMove (.tmp 2)) (oCallT (some [13]) (.tmp 12) (.con (.func 49 [] [])) [(.tmp 9),(.tmp 10),(.tmp 11)] (oVal (.tmp 13) (kUn (fadA 1) (.tmp 3)) (oVal (.tmp 14) (kLoad none (.tmp 13)) (oVal (.tmp 15) (kMove (.tmp 1)) (oVal (.tmp 16) (kMove (.tmp 2)) (oCall (.tmp 17) (.con (.func 49 [] [])) [(.tmp 14),(.tmp 15),(.tmp 16)] (oVal (.tmp 18) (kBuildSlice [(.int .i64 0),(.int .i64 0)] 2 [(0,1,(.tmp 12)),(1,1,(.tmp 17))]) (oCall (.tmp 19) (.con (.func 45 [] [])) [(.tmp 18)] (oVal (.tmp 7) (kMove (.tmp 19)) oNil))))))))))))))
def K75r2:OpsF:=(oVal (.tmp 20) (kMove (.tmp 7)) (oVal (.tmp 21) (kInt aNeq (.tmp 20) (.con (.int .i64 0))) oNil))
def K75r3:OpsF:=(oVal (.tmp 22) (kMove (.tmp 7)) (oVal (.tmp 6) (kMove (.tmp 22)) oNil))
def K75r4:OpsF:=(oVal (.tmp 23) (kUn (fadA 0) (.tmp 3)) (oVal (.tmp 24) (kLoad none (.tmp 23)) (oVal (.tmp 25) (kUn (fadA 1) (.tmp 3)) (oVal (.tmp 26) (kLoad none (.tmp 25)) (oVal (.tmp 27) (kGtr (.tmp 24) (.tmp 26)) oNil)))))
def K75r5:OpsF:=(oVal (.tmp 6) (kMove (.con (.int .i64 5))) oNil)
def K75r6:OpsF:=(oVal (.tmp 6) (kMove (.con (.int .i64 0))) oNil)
theorem res75:Try.f75.results.toList=[.tmp 6]:=by kernel_rfl
def K75:K:=(kSeq (kRegion K75r0 [3,6]) (kSeq (kSeq (kRegionD K75r1 [7]) (kSeq (kRegion K75r2 [21]) (kCond (.tmp 21) (kSeq (kRegion K75r3 [6]) kRet) kSkip))) (kSeq (kSeq (kRegion K75r4 [27]) (kCond (.tmp 27) (kSeq (kRegion K75r5 [6]) kRet) kSkip)) (kSeq (kRegion K75r6 [6]) kRet))))
theorem enter75 (cl:CallF) (a0 a1 a2:AV) (s:St):enterA Try.prog X cl 75 [a0,a1,a2] s Try.f75=finA Try.prog Try.f75 (K75 cl ⟨75,none,Try.f75.ntmps,X 75⟩ (paramsEnv 0 [a0,a1,a2] .nil) [] s) :=
  enterA_eq (b:=Try.f75.body.getD .skip) (by kernel_rfl) (by kernel_rfl) (by kernel_rfl) (by kernel_rfl) (by kernel_rfl)
def K49r0:OpsF:=(oVal (.tmp 6) (kMove (.con (.int .i64 0))) oNil)
def K49r1s7:OpsF:=(oVal (.tmp 14) (kPick (.tmp 10) (.con (.bool true)) (.tmp 13)) oNil)
def K49r1s6:OpsF:=(oIf 10 false (oVal (.tmp 13) (kGtr (.tmp 11) (.tmp 12)) K49r1s7) (oSkip (.tmp 13) K49r1s7))
def K49r1s5:OpsF:=(oIf 10 false (oVal (.tmp 12) (kMove (.tmp 2)) K49r1s6) (oSkip (.tmp 12) K49r1s6))
def K49r1:OpsF:=(oVal (.tmp 7) (kMove (.tmp 0)) (oVal (.tmp 8) (kMove (.tmp 1)) (oVal (.tmp 9) (kInt aLss (.tmp 7) (.tmp 8)) (oVal (.tmp 10) (kMove (.tmp 9)) (oIf 10 false (oVal (.tmp 11) (kMove (.tmp 0)) K49r1s5) (oSkip (.tmp 11) K49r1s5))))))
def K49r2:OpsF:=(oVal (.tmp 6) (kMove (.con (.int .i64 1))) oNil)
def K49r3:OpsF:=(oVal (.tmp 6) (kMove (.con (.int .i64 0))) oNil)
theorem res49:Try.f49.results.toList=[.tmp 6]:=by kernel_rfl
def K49:K:=(kSeq (kRegion K49r0 [6]) (kSeq (kSeq (kRegion K49r1 [14]) (kCond (.tmp 14) (kSeq (kRegion K49r2 [6]) kRet) kSkip)) (kSeq (kRegion K49r3 [6]) kRet)))
theorem enter49 (cl:CallF) (a0 a1 a2:AV) (s:St):enterA Try.prog X cl 49 [a0,a1,a2] s Try.f49=finA Try.prog Try.f49 (K49 cl ⟨49,none,Try.f49.ntmps,X 49⟩ (paramsEnv 0 [a0,a1,a2] .nil) [] s) :=
  enterA_eq (b:=Try.f49.body.getD .skip) (by kernel_rfl) (by kernel_rfl) (by kernel_rfl) (by kernel_rfl) (by kernel_rfl)
def K27r0:OpsF:=(oVal (.tmp 1) (kBox (tag 28) (.tmp 0)) (oVal (.tmp 2) (kMove (.con (.int .i64 0))) oNil))
def K27r1:OpsF:=(oEnd [] (oVal (.tmp 3) (kLoad (some 5) (.tmp 1)) (oCallT (some [1,1,9,1]) (.tmp 4) (.con (.func 46 [] [])) [(.tmp 3)] (oVal (.tmp 5) (kLoad (some 5) (.tmp 1)) (oCallT (some [1,9,1]) (.tmp 6) (.con (.func 47 [] [])) [(.tmp 5)] (oVal (.tmp 7) (kLoad (some 5) (.tmp 1)) (oCallT (some [9,1]) (.tmp 8) (.con (.func 48 [] [])) [(.tmp 7)] (oVal (.tmp 9) (kUn (fadA 4) (.tmp 1)) (oVal (.tmp 10) (kLoad none (.tmp 9)) (oCallT (some [1]) (.tmp 11) (.con (.func 49 [] [])) [(.tmp 10),(.con (.int .i64 0)),(.con (.int .i64 8))] (oVal (.tmp 12) (kLoad (some 5) (.tmp 1)) (oCall (.tmp 13) (.con (.func 50 [] [])) [(.tmp 12)] (oVal (.tmp 14) (kBuildSlice [(.int .i64 0),(.int .i64 0),(.int .i64 0),(.int .i64 0),(.int .i64 0)] 5 [(0,1,(.tmp 4)),(1,1,(.tmp 6)),(2,1,(.tmp 8)),(3,1,(.tmp 11)),(4,1,(.tmp 13))]) (oCall (.tmp 15) (.con (.func 45 [] [])) [(.tmp 14)] (oVal (.tmp 2) (kMove (.tmp 15)) oNil)))))))))))))))
theorem res27:Try.f27.results.toList=[.tmp 2]:=by kernel_rfl
def K27:K:=(kSeq (kRegion K27r0 [1,2]) (kSeq (kRegionD K27r1 [2]) kRet))
theorem enter27 (cl:CallF) (a0:AV) (s:St):enterA Try.prog X cl 27 [a0] s Try.f27=finA Try.prog Try.f27 (K27 cl ⟨27,none,Try.f27.ntmps,X 27⟩ (paramsEnv 0 [a0] .nil) [] s) :=
  enterA_eq (b:=Try.f27.body.getD .skip) (by kernel_rfl) (by kernel_rfl) (by kernel_rfl) (by kernel_rfl) (by kernel_rfl)
def K46r0:OpsF:=(oVal (.tmp 1) (kBox (tag 28) (.tmp 0)) (oVal (.tmp 2) (kMove (.con (.int .i64 0))) oNil))
def K46r1:OpsF:=(oVal (.tmp 7) (kUn (fadA 0) (.tmp 1)) (oVal (.tmp 8) (kLoad none (.tmp 7)) (oVal (.tmp 9) (kUn lenSlA (.tmp 8)) (oCall (.tmp 10) (.con (.func 62 [] [])) [(.tmp 9),(.con (.int .i64 1)),(.con (.int .i64 5))] (oVal (.tmp 3) (kMove (.tmp 10)) oNil)))))
def K46r2:OpsF:=(oVal (.tmp 11) (kMove (.tmp 3)) (oVal (.tmp 12) (kInt aNeq (.tmp 11) (.con (.int .i64 0))) oNil))
def K46r3:OpsF:=(oVal (.tmp 13) (kMove (.tmp 3)) (oVal (.tmp 2) (kMove (.tmp 13)) oNil))
def K46r4:OpsF:=(oVal (.tmp 14) (kUn (fadA 0) (.tmp 1)) (oVal (.tmp 15) (kLoad none (.tmp 14)) (oVal (.tmp 16) (kUn lenSlA (.tmp 15)) (oVal (.tmp 17) (kMove (.con (.int .i64 0))) oNil))))
def K46r5:OpsF:=(oVal (.tmp 18) (kInt aLss (.tmp 17) (.tmp 16)) oNil)
def K46r6:OpsF:=(oVal (.tmp 19) (kTwo (ixsA 3) (.tmp 15) (.tmp 17)) (oVal (.tmp 20) (kLoad (some 3) (.tmp 19)) (oVal (.tmp 5) (kAlloc [(.int .i64 0),(.int .i64 0),(.int .i64 0)] (tag 65)) (oVal .none (kStore 3 (.tmp 5) (.tmp 20)) oNil))))
def K46r7:OpsF:=(oEnd [] (oVal (.tmp 21) (kUn (fadA 0) (.tmp 5)) (oVal (.tmp 22) (kLoad none (.tmp 21)) (oCallT (some [24]) (.tmp 23) (.con (.func 49 [] [])) [(.tmp 22),(.con (.int .i64 1)),(.con (.int .i64 1000000))] (oVal (.tmp 24) (kUn (fadA 1) (.tmp 5)) (oVal (.tmp 25) (kLoad (some 2) (.tmp 24)) (oCall (.tmp 26) (.con (.func 60 [] [])) [(.tmp 25),(.con (.int .i64 10000))] (oVal (.tmp 27) (kBuildSlice [(.int .i64 0),(.int .i64 0)] 2 [(0,1,(.tmp 23)),(1,1,(.tmp 26))]) (oCall (.tmp 28) (.con (.func 45 [] [])) [(.tmp 27)] (oVal (.tmp 6) (kMove (.tmp 28)) oNil))))))))))
def K46r8:OpsF:=(oVal (.tmp 29) (kMove (.tmp 6)) (oVal (.tmp 30) (kInt aNeq (.tmp 29) (.con (.int .i64 0))) oNil))
def K46r9:OpsF:=(oVal (.tmp 31) (kMove (.tmp 6)) (oVal (.tmp 2) (kMove (.tmp 31)) oNil))
def K46r10:OpsF:=(oVal (.tmp 32) (kInt aAdd (.tmp 17) (.con (.int .i64 1))) (oVal (.tmp 17) (kMove (.tmp 32)) oNil))
def K46l0:K:=(kSeq (kRegion K46r5 [18]) (kSeq (kCond (.tmp 18) kSkip (kExit 0)) (kSeq (kBlock 1 (kSeq (kRegion K46r6 [5]) (kSeq (kRegionD K46r7 [6]) (kSeq (kRegion K46r8 [30]) (kCond (.tmp 30) (kSeq (kRegion K46r9 [2]) kRet) kSkip))))) (kRegion K46r10 [17]))))
def K46r11:OpsF:=(oVal (.tmp 2) (kMove (.con (.int .i64 0))) oNil)
theorem res46:Try.f46.results.toList=[.tmp 2]:=by kernel_rfl
def K46:K:=(kSeq (kRegion K46r0 [1,2]) (kSeq (kSeq (kRegion K46r1 [3]) (kSeq (kRegion K46r2 [12]) (kCond (.tmp 12) (kSeq (kRegion K46r3 [2]) kRet) kSkip))) (kSeq (kSeq (kRegion K46r4 [15,16,17]) (kBlock 0 (kLoop K46l0))) (kSeq (kRegion K46r11 [2]) kRet))))
theorem enter46 (cl:CallF) (a0:AV) (s:St):enterA Try.prog X cl 46 [a0] s Try.f46=finA Try.prog Try.f46 (K46 cl ⟨46,none,Try.f46.ntmps,X 46⟩ (paramsEnv 0 [a0] .nil) [] s) :=
  enterA_eq (b:=Try.f46.body.getD .skip) (by kernel_rfl) (by kernel_rfl) (by kernel_rfl) (by kernel_rfl) (by kernel_rfl)
def K47r0:OpsF:=(oVal (.tmp 1) (kBox (tag 28) (.tmp 0)) (oVal (.tmp 2) (kMove (.con (.int .i64 0))) oNil))
def K47r1:OpsF:=(oVal (.tmp 8) (kUn (fadA 1) (.tmp 1)) (oVal (.tmp 9) (kLoad none (.tmp 8)) (oVal (.tmp 10) (kUn lenSlA (.tmp 9)) (oCall (.tmp 11) (.con (.func 62 [] [])) [(.tmp 10),(.con (.int .i64 0)),(.con (.int .i64 6))] (oVal (.tmp 3) (kMove (.tmp 11)) oNil)))))
def K47r2:OpsF:=(oVal (.tmp 12) (kMove (.tmp 3)) (oVal (.tmp 13) (kInt aNeq (.tmp 12) (.con (.int .i64 0))) oNil))
def K47r3:OpsF:=(oVal (.tmp 14) (kMove (.tmp 3)) (oVal (.tmp 2) (kMove (.tmp 14)) oNil))
def K47r4:OpsF:=(oVal (.tmp 15) (kUn (fadA 1) (.tmp 1)) (oVal (.tmp 16) (kLoad none (.tmp 15)) (oVal (.tmp 17) (kUn lenSlA (.tmp 16)) (oVal (.tmp 18) (kMove (.con (.int .i64 0))) oNil))))
def K47r5:OpsF:=(oVal (.tmp 19) (kInt aLss (.tmp 18) (.tmp 17)) oNil)
def K47r6:OpsF:=(oVal (.tmp 20) (kTwo (ixsA 4) (.tmp 16) (.tmp 18)) (oVal (.tmp 21) (kLoad (some 4) (.tmp 20)) (oVal (.tmp 5) (kAlloc [(.int .i64 0),(.int .i64 0),(.int .i64 0),(.int .i64 0)] (tag 70)) (oVal .none (kStore 4 (.tmp 5) (.tmp 21)) oNil))))
def K47r7:OpsF:=(oEnd [] (oVal (.tmp 22) (kUn (fadA 0) (.tmp 5)) (oVal (.tmp 23) (kLoad none (.tmp 22)) (oVal (.tmp 24) (kUn (fadA 0) (.tmp 1)) (oVal (.tmp 25) (kLoad none (.tmp 24)) (oVal (.tmp 26) (kUn lenSlA (.tmp 25)) (oCallT (some [28,30,31]) (.tmp 27) (.con (.func 58 [] [])) [(.tmp 23),(.tmp 26)] (oVal (.tmp 28) (kUn (fadA 1) (.tmp 5)) (oVal (.tmp 29) (kLoad none (.tmp 28)) (oVal (.tmp 30) (kUn (fadA 0) (.tmp 1)) (oVal (.tmp 31) (kLoad none (.tmp 30)) (oVal (.tmp 32) (kUn lenSlA (.tmp 31)) (oCall (.tmp 33) (.con (.func 58 [] [])) [(.tmp 29),(.tmp 32)] (oVal (.tmp 34) (kBuildSlice [(.int .i64 0),(.int .i64 0)] 2 [(0,1,(.tmp 27)),(1,1,(.tmp 33))]) (oCall (.tmp 35) (.con (.func 45 [] [])) [(.tmp 34)] (oVal (.tmp 6) (kMove (.tmp 35)) oNil))))))))))))))))
def K47r8:OpsF:=(oVal (.tmp 36) (kMove (.tmp 6)) (oVal (.tmp 37) (kInt aNeq (.tmp 36) (.con (.int .i64 0))) oNil))
def K47r9:OpsF:=(oVal (.tmp 38) (kMove (.tmp 6)) (oVal (.tmp 2) (kMove (.tmp 38)) oNil))
def K47r10:OpsF:=(oVal (.tmp 39) (kUn (fadA 0) (.tmp 5)) (oVal (.tmp 40) (kLoad none (.tmp 39)) (oVal (.tmp 41) (kUn (fadA 1) (.tmp 5)) (oVal (.tmp 42) (kLoad none (.tmp 41)) (oVal (.tmp 43) (kInt aEql (.tmp 40) (.tmp 42)) oNil)))))
def K47r11:OpsF:=(oVal (.tmp 2) (kMove (.con (.int .i64 2))) oNil)
def K47r12:OpsF:=(oVal (.tmp 44) (kUn (fadA 2) (.tmp 5)) (oVal (.tmp 45) (kLoad (some 2) (.tmp 44)) (oCall (.tmp 46) (.con (.func 60 [] [])) [(.tmp 45),(.con (.int .i64 20000))] (oVal (.tmp 7) (kMove (.tmp 46)) oNil))))
def K47r13:OpsF:=(oVal (.tmp 47) (kMove (.tmp 7)) (oVal (.tmp 48) (kInt aNeq (.tmp 47) (.con (.int .i64 0))) oNil))
def K47r14:OpsF:=(oVal (.tmp 49) (kMove (.tmp 7)) (oVal (.tmp 2) (kMove (.tmp 49)) oNil))
def K47r15:OpsF:=(oVal (.tmp 50) (kInt aAdd (.tmp 18) (.con (.int .i64 1))) (oVal (.tmp 18) (kMove (.tmp 50)) oNil))
def K47l0:K:=(kSeq (kRegion K47r5 [19]) (kSeq (kCond (.tmp 19) kSkip (kExit 0)) (kSeq (kBlock 1 (kSeq (kRegion K47r6 [5]) (kSeq (kSeq (kRegionD K47r7 [6]) (kSeq (kRegion K47r8 [37]) (kCond (.tmp 37) (kSeq (kRegion K47r9 [2]) kRet) kSkip))) (kSeq (kSeq (kRegion K47r10 [43]) (kCond (.tmp 43) (kSeq (kRegion K47r11 [2]) kRet) kSkip)) (kSeq (kRegion K47r12 [7]) (kSeq (kRegion K47r13 [48]) (kCond (.tmp 48) (kSeq (kRegion K47r14 [2]) kRet) kSkip))))))) (kRegion K47r15 [18]))))
def K47r16:OpsF:=(oVal (.tmp 2) (kMove (.con (.int .i64 0))) oNil)
theorem res47:Try.f47.results.toList=[.tmp 2]:=by kernel_rfl
def K47:K:=(kSeq (kRegion K47r0 [1,2]) (kSeq (kSeq (kRegion K47r1 [3]) (kSeq (kRegion K47r2 [13]) (kCond (.tmp 13) (kSeq (kRegion K47r3 [2]) kRet) kSkip))) (kSeq (kSeq (kRegion K47r4 [16,17,18]) (kBlock 0 (kLoop K47l0))) (kSeq (kRegion K47r16 [2]) kRet))))
theorem enter47 (cl:CallF) (a0:AV) (s:St):enterA Try.prog X cl 47 [a0] s Try.f47=finA Try.prog Try.f47 (K47 cl ⟨47,none,Try.f47.ntmps,X 47⟩ (paramsEnv 0 [a0] .nil) [] s) :=
  enterA_eq (b:=Try.f47.body.getD .skip) (by kernel_rfl) (by kernel_rfl) (by kernel_rfl) (by kernel_rfl) (by kernel_rfl)
def K48r0:OpsF:=(oVal (.tmp 1) (kBox (tag 28) (.tmp 0)) (oVal (.tmp 2) (kMove (.con (.int .i64 0))) oNil))
def K48r1:OpsF:=(oVal (.tmp 7) (kUn (fadA 2) (.tmp 1)) (oVal (.tmp 8) (kLoad none (.tmp 7)) (oVal (.tmp 9) (kUn lenSlA (.tmp 8)) (oCall (.tmp 10) (.con (.func 62 [] [])) [(.tmp 9),(.con (.int .i64 1)),(.con (.int .i64 3))] (oVal (.tmp 3) (kMove (.tmp 10)) oNil)))))
def K48r2:OpsF:=(oVal (.tmp 11) (kMove (.tmp 3)) (oVal (.tmp 12) (kInt aNeq (.tmp 11) (.con (.int .i64 0))) oNil))
def K48r3:OpsF:=(oVal (.tmp 13) (kMove (.tmp 3)) (oVal (.tmp 2) (kMove (.tmp 13)) oNil))
def K48r4:OpsF:=(oVal (.tmp 14) (kUn (fadA 2) (.tmp 1)) (oVal (.tmp 15) (kLoad none (.tmp 14)) (oVal (.tmp 16) (kUn lenSlA (.tmp 15)) (oVal (.tmp 17) (kMove (.con (.int .i64 0))) oNil))))
def K48r5:OpsF:=(oVal (.tmp 18) (kInt aLss (.tmp 17) (.tmp 16)) oNil)
def K48r6:OpsF:=(oVal (.tmp 19) (kTwo (ixsA 4) (.tmp 15) (.tmp 17)) (oVal (.tmp 20) (kLoad (some 4) (.tmp 19)) (oVal (.tmp 5) (kAlloc [(.int .i64 0),(.int .i64 0),(.int .i64 0),(.int .i64 0)] (tag 68)) (oVal .none (kStore 4 (.tmp 5) (.tmp 20)) oNil))))
def K48r7:OpsF:=(oEnd [] (oVal (.tmp 21) (kUn (fadA 0) (.tmp 5)) (oVal (.tmp 22) (kLoad (some 2) (.tmp 21)) (oCallT (some [24]) (.tmp 23) (.con (.func 60 [] [])) [(.tmp 22),(.con (.int .i64 10000))] (oVal (.tmp 24) (kUn (fadA 2) (.tmp 5)) (oVal (.tmp 25) (kLoad (some 2) (.tmp 24)) (oCall (.tmp 26) (.con (.func 60 [] [])) [(.tmp 25),(.con (.int .i64 10000))] (oVal (.tmp 27) (kBuildSlice [(.int .i64 0),(.int .i64 0)] 2 [(0,1,(.tmp 23)),(1,1,(.tmp 26))]) (oCall (.tmp 28) (.con (.func 45 [] [])) [(.tmp 27)] (oVal (.tmp 6) (kMove (.tmp 28)) oNil))))))))))
def K48r8:OpsF:=(oVal (.tmp 29) (kMove (.tmp 6)) (oVal (.tmp 30) (kInt aNeq (.tmp 29) (.con (.int .i64 0))) oNil))
def K48r9:OpsF:=(oVal (.tmp 31) (kMove (.tmp 6)) (oVal (.tmp 2) (kMove (.tmp 31)) oNil))
def K48r10:OpsF:=(oVal (.tmp 32) (kInt aAdd (.tmp 17) (.con (.int .i64 1))) (oVal (.tmp 17) (kMove (.tmp 32)) oNil))
def K48l0:K:=(kSeq (kRegion K48r5 [18]) (kSeq (kCond (.tmp 18) kSkip (kExit 0)) (kSeq (kBlock 1 (kSeq (kRegion K48r6 [5]) (kSeq (kRegionD K48r7 [6]) (kSeq (kRegion K48r8 [30]) (kCond (.tmp 30) (kSeq (kRegion K48r9 [2]) kRet) kSkip))))) (kRegion K48r10 [17]))))
def K48r11:OpsF:=(oVal (.tmp 2) (kMove (.con (.int .i64 0))) oNil)
theorem res48:Try.f48.results.toList=[.tmp 2]:=by kernel_rfl
def K48:K:=(kSeq (kRegion K48r0 [1,2]) (kSeq (kSeq (kRegion K48r1 [3]) (kSeq (kRegion K48r2 [12]) (kCond (.tmp 12) (kSeq (kRegion K48r3 [2]) kRet) kSkip))) (kSeq (kSeq (kRegion K48r4 [15,16,17]) (kBlock 0 (kLoop K48l0))) (kSeq (kRegion K48r11 [2]) kRet))))
theorem enter48 (cl:CallF) (a0:AV) (s:St):enterA Try.prog X cl 48 [a0] s Try.f48=finA Try.prog Try.f48 (K48 cl ⟨48,none,Try.f48.ntmps,X 48⟩ (paramsEnv 0 [a0] .nil) [] s) :=
  enterA_eq (b:=Try.f48.body.getD .skip) (by kernel_rfl) (by kernel_rfl) (by kernel_rfl) (by kernel_rfl) (by kernel_rfl)
def K50r0:OpsF:=(oVal (.tmp 1) (kBox (tag 28) (.tmp 0)) (oVal (.tmp 2) (kMove (.con (.int .i64 0))) oNil))
def K50r1:OpsF:=(oVal (.tmp 7) (kUn (fadA 3) (.tmp 1)) (oVal (.tmp 8) (kLoad none (.tmp 7)) (oVal (.tmp 9) (kUn lenSlA (.tmp 8)) (oCall (.tmp 10) (.con (.func 62 [] [])) [(.tmp 9),(.con (.int .i64 0)),(.con (.int .i64 6))] (oVal (.tmp 3) (kMove (.tmp 10)) oNil)))))
def K50r2:OpsF:=(oVal (.tmp 11) (kMove (.tmp 3)) (oVal (.tmp 12) (kInt aNeq (.tmp 11) (.con (.int .i64 0))) oNil))
def K50r3:OpsF:=(oVal (.tmp 13) (kMove (.tmp 3)) (oVal (.tmp 2) (kMove (.tmp 13)) oNil))
def K50r4:OpsF:=(oVal (.tmp 14) (kUn (fadA 3) (.tmp 1)) (oVal (.tmp 15) (kLoad none (.tmp 14)) (oVal (.tmp 16) (kUn lenSlA (.tmp 15)) (oVal (.tmp 17) (kMove (.con (.int .i64 0))) oNil))))
def K50r5:OpsF:=(oVal (.tmp 18) (kInt aLss (.tmp 17) (.tmp 16)) oNil)
def K50r6:OpsF:=(oVal (.tmp 19) (kTwo (ixsA 4) (.tmp 15) (.tmp 17)) (oVal (.tmp 20) (kLoad (some 4) (.tmp 19)) (oVal (.tmp 5) (kAlloc [(.int .i64 0),(.int .i64 0),(.int .i64 0),(.int .i64 0)] (tag 72)) (oVal .none (kStore 4 (.tmp 5) (.tmp 20)) oNil))))
def K50r7:OpsF:=(oEnd [] (oVal (.tmp 21) (kUn (fadA 0) (.tmp 5)) (oVal (.tmp 22) (kLoad none (.tmp 21)) (oVal (.tmp 23) (kUn (fadA 2) (.tmp 1)) (oVal (.tmp 24) (kLoad none (.tmp 23)) (oVal (.tmp 25) (kUn lenSlA (.tmp 24)) (oCallT (some [27,29,30,33,35,38]) (.tmp 26) (.con (.func 58 [] [])) [(.tmp 22),(.tmp 25)] (oVal (.tmp 27) (kUn (fadA 2) (.tmp 5)) (oVal (.tmp 28) (kLoad none (.tmp 27)) (oVal (.tmp 29) (kUn (fadA 0) (.tmp 1)) (oVal (.tmp 30) (kLoad none (.tmp 29)) (oVal (.tmp 31) (kUn lenSlA (.tmp 30)) (oCallT (some [33,35,38]) (.tmp 32) (.con (.func 58 [] [])) [(.tmp 28),(.tmp 31)] (oVal (.tmp 33) (kUn (fadA 1) (.tmp 5)) (oVal (.tmp 34) (kLoad none (.tmp 33)) (oVal (.tmp 35) (kUn (fadA 4) (.tmp 1)) (oVal (.tmp 36) (kLoad none (.tmp 35)) (oCallT (some [38]) (.tmp 37) (.con (.func 49 [] [])) [(.tmp 34),(.con (.int .i64 0)),(.tmp 36)] (oVal (.tmp 38) (kUn (fadA 3) (.tmp 5)) (oVal (.tmp 39) (kLoad none (.tmp 38)) (oCall (.tmp 40) (.con (.func 49 [] [])) [(.tmp 39),(.con (.int .i64 0)),(.con (.int .i64 2000000))] (oVal (.tmp 41) (kBuildSlice [(.int .i64 0),(.int .i64 0),(.int .i64 0),(.int .i64 0)] 4 [(0,1,(.tmp 26)),(1,1,(.tmp 32)),(2,1,(.tmp 37)),(3,1,(.tmp 40))]) (oCall (.tmp 42) (.con (.func 45 [] [])) [(.tmp 41)] (oVal (.tmp 6) (kMove (.tmp 42)) oNil))))))))))))))))))))))))
def K50r8:OpsF:=(oVal (.tmp 43) (kMove (.tmp 6)) (oVal (.tmp 44) (kInt aNeq (.tmp 43) (.con (.int .i64 0))) oNil))
def K50r9:OpsF:=(oVal (.tmp 45) (kMove (.tmp 6)) (oVal (.tmp 2) (kMove (.tmp 45)) oNil))
def K50r10:OpsF:=(oVal (.tmp 46) (kInt aAdd (.tmp 17) (.con (.int .i64 1))) (oVal (.tmp 17) (kMove (.tmp 46)) oNil))
def K50l0:K:=(kSeq (kRegion K50r5 [18]) (kSeq (kCond (.tmp 18) kSkip (kExit 0)) (kSeq (kBlock 1 (kSeq (kRegion K50r6 [5]) (kSeq (kRegionD K50r7 [6]) (kSeq (kRegion K50r8 [44]) (kCond (.tmp 44) (kSeq (kRegion K50r9 [2]) kRet) kSkip))))) (kRegion K50r10 [17]))))
def K50r11:OpsF:=(oVal (.tmp 2) (kMove (.con (.int .i64 0))) oNil)
theorem res50:Try.f50.results.toList=[.tmp 2]:=by kernel_rfl
def K50:K:=(kSeq (kRegion K50r0 [1,2]) (kSeq (kSeq (kRegion K50r1 [3]) (kSeq (kRegion K50r2 [12]) (kCond (.tmp 12) (kSeq (kRegion K50r3 [2]) kRet) kSkip))) (kSeq (kSeq (kRegion K50r4 [15,16,17]) (kBlock 0 (kLoop K50l0))) (kSeq (kRegion K50r11 [2]) kRet))))
theorem enter50 (cl:CallF) (a0:AV) (s:St):enterA Try.prog X cl 50 [a0] s Try.f50=finA Try.prog Try.f50 (K50 cl ⟨50,none,Try.f50.ntmps,X 50⟩ (paramsEnv 0 [a0] .nil) [] s) :=
  enterA_eq (b:=Try.f50.body.getD .skip) (by kernel_rfl) (by kernel_rfl) (by kernel_rfl) (by kernel_rfl) (by kernel_rfl)
def K60r0:OpsF:=(oVal (.tmp 2) (kBox (tag 60) (.tmp 0)) (oVal (.tmp 4) (kMove (.con (.int .i64 0))) oNil))
def K60r1:OpsF:=(oVal (.tmp 5) (kLoad (some 2) (.tmp 2)) (oVal (.tmp 6) (kMove (.tmp 1)) (oVal (.tmp 7) (kUn negA (.tmp 6)) (oVal (.tmp 8) (kMove (.tmp 1)) (oCall (.tmp 9) (.con (.func 75 [] [])) [(.tmp 5),(.tmp 7),(.tmp 8)] (oVal (.tmp 4) (kMove (.tmp 9)) oNil))))))
theorem res60:Try.f60.results.toList=[.tmp 4]:=by kernel_rfl
def K60:K:=(kSeq (kRegion K60r0 [2,4]) (kSeq (kRegion K60r1 [4]) kRet))
theorem enter60 (cl:CallF) (a0 a1:AV) (s:St):enterA Try.prog X cl 60 [a0,a1] s Try.f60=finA Try.prog Try.f60 (K60 cl ⟨60,none,Try.f60.ntmps,X 60⟩ (paramsEnv 0 [a0,a1] .nil) [] s) :=
  enterA_eq (b:=Try.f60.body.getD .skip) (by kernel_rfl) (by kernel_rfl) (by kernel_rfl) (by kernel_rfl) (by kernel_rfl)
end
end Go.Proofs.Ytoolodjbfphkjaa.code
set_option maxRecDepth 100000
namespace Go.Proofs.Ytoolodjbfphkjaa.code
open Go.Abs
noncomputable section
def K28r0:OpsF:=(oVal (.tmp 1) (kBox (tag 28) (.tmp 0)) (oVal (.tmp 2) (kAlloc [.nilslice] (tag 81)) (oVal (.tmp 3) (kAlloc [(.bool false)] (tag 4)) oNil)))
def K28r1:OpsF:=(oVal (.tmp 6) (kLoad (some 5) (.tmp 1)) (oCall (.tmp 7) (.con (.func 51 [] [])) [(.tmp 6)] (oVal (.tmp 4) (kAlloc [.nilslice] (tag 81)) (oVal .none (kStore 1 (.tmp 4) (.tmp 7)) oNil))))
def K28r2:OpsF:=(oVal (.tmp 8) (kLoad (some 5) (.tmp 1)) (oCall (.tmp 9) (.con (.func 52 [] [])) [(.tmp 8)] oNil))
def K28r3:OpsF:=(oVal (.tmp 17) (kLoad none (.tmp 4)) (oVal .none (kStore 1 (.tmp 2) (.tmp 17)) (oVal .none (kStore 1 (.tmp 3) (.con (.bool true))) oNil)))
theorem res28:Try.f28.results.toList=[.cell 2 81,.cell 3 4]:=by kernel_rfl
def K28:K:=(kSeq (kRegion K28r0 [1,2,3]) (kSeq (kRegion K28r1 [4]) (kSeq (kSeq (kRegion K28r2 [9]) (kBlock 0 (kRange (.tmp 9) [10] (rangeAt Try.f28 0).1 (rangeAt Try.f28 0).2))) (kSeq (kRegion K28r3 []) kRet))))
theorem enter28 (cl:CallF) (a0:AV) (s:St):enterA Try.prog X cl 28 [a0] s Try.f28=finA Try.prog Try.f28 (K28 cl ⟨28,none,Try.f28.ntmps,X 28⟩ (paramsEnv 0 [a0] .nil) [] s) :=
  enterA_eq (b:=Try.f28.body.getD .skip) (by kernel_rfl) (by kernel_rfl) (by kernel_rfl) (by kernel_rfl) (by kernel_rfl)
def K28a0r0:OpsF:=(oVal (.tmp 5) (kAlloc [(.int .i64 0),(.int .i64 0),(.int .i64 0),(.int .i64 0)] (tag 120)) (oVal .none (kStore 4 (.tmp 5) (.tmp 10)) oNil))
def K28a0:K:=(kRegion K28a0r0 [5])
theorem code28a0:codeK Try.prog (X 28) Try.f28.ntmps (rangeAt Try.f28 0).1=some K28a0:=by kernel_rfl
def K28b0r0:OpsF:=(oVal (.tmp 11) (kLoad none (.tmp 4)) (oVal (.tmp 12) (kLoad (some 4) (.tmp 5)) (oCall (.tmp 13) (.con (.func 53 [] [])) [(.tmp 11),(.tmp 12)] oNil)))
def K28b0r1:OpsF:=(oVal .none (kStore 1 (.tmp 2) (.con .nilslice)) (oVal .none (kStore 1 (.tmp 3) (.con (.bool false))) oNil))
def K28b0r2:OpsF:=(oVal (.tmp 14) (kLoad none (.tmp 4)) (oVal (.tmp 15) (kLoad (some 4) (.tmp 5)) (oCall (.tmp 16) (.con (.func 54 [] [])) [(.tmp 14),(.tmp 15)] (oVal .none (kStore 1 (.tmp 4) (.tmp 16)) oNil))))
def K28b0:K:=(kBlock 1 (kSeq (kSeq (kRegion K28b0r0 [13]) (kCond (.tmp 13) (kSeq (kRegion K28b0r1 []) kRet) kSkip)) (kRegion K28b0r2 [])))
theorem code28b0:codeK Try.prog (X 28) Try.f28.ntmps (rangeAt Try.f28 0).2=some K28b0:=by kernel_rfl
def K51r0:OpsF:=(oVal (.tmp 1) (kBox (tag 28) (.tmp 0)) (oVal (.tmp 2) (kMove (.con .nilslice)) oNil))
def K51r1:OpsF:=(oVal (.tmp 8) (kBuild [(.int .i64 0),(.int .i64 0)] []) (oVal (.tmp 9) (kBuildSlice [(.int .i64 0),(.int .i64 0)] 1 [(0,2,(.tmp 8))]) (oVal (.tmp 10) (kBuildSlice [.nilslice] 1 [(0,1,(.tmp 9))]) (oVal (.tmp 3) (kAlloc [.nilslice] (tag 81)) (oVal .none (kStore 1 (.tmp 3) (.tmp 10)) oNil)))))
def K51r2:OpsF:=(oVal (.tmp 11) (kLoad (some 5) (.tmp 1)) (oCall (.tmp 12) (.con (.func 66 [] [])) [(.tmp 11)] oNil))
def K51r3:OpsF:=(oVal (.tmp 55) (kLoad none (.tmp 3)) (oVal (.tmp 2) (kMove (.tmp 55)) oNil))
theorem res51:Try.f51.results.toList=[.tmp 2]:=by kernel_rfl
def K51:K:=(kSeq (kRegion K51r0 [1,2]) (kSeq (kRegion K51r1 [3]) (kSeq (kSeq (kRegion K51r2 [12]) (kBlock 0 (kRange (.tmp 12) [13] (rangeAt Try.f51 0).1 (rangeAt Try.f51 0).2))) (kSeq (kRegion K51r3 [2]) kRet))))
theorem enter51 (cl:CallF) (a0:AV) (s:St):enterA Try.prog X cl 51 [a0] s Try.f51=finA Try.prog Try.f51 (K51 cl ⟨51,none,Try.f51.ntmps,X 51⟩ (paramsEnv 0 [a0] .nil) [] s) :=
  enterA_eq (b:=Try.f51.body.getD .skip) (by kernel_rfl) (by kernel_rfl) (by kernel_rfl) (by kernel_rfl) (by kernel_rfl)
def K51a0r0:OpsF:=(oVal (.tmp 4) (kAlloc [(.int .i64 0),(.int .i64 0),(.int .i64 0),(.int .i64 0)] (tag 120)) (oVal .none (kStore 4 (.tmp 4) (.tmp 13)) oNil))
def K51a0:K:=(kRegion K51a0r0 [4])
theorem code51a0:codeK Try.prog (X 51) Try.f51.ntmps (rangeAt Try.f51 0).1=some K51a0:=by kernel_rfl
def K51b0r0:OpsF:=(oVal (.tmp 14) (kUn (fadA 0) (.tmp 4)) (oVal (.tmp 15) (kLoad none (.tmp 14)) (oVal (.tmp 16) (kInt aAdd (.tmp 15) (.con (.int .i64 1))) (oVal (.tmp 17) (kMake [(.int .i64 0),(.int .i64 0)] 16 (.tmp 16) (.tmp 16)) (oVal (.tmp 5) (kMove (.tmp 17)) oNil)))))
def K51b0r1:OpsF:=(oVal (.tmp 18) (kLoad none (.tmp 3)) (oVal (.tmp 19) (kUn lenSlA (.tmp 18)) (oVal (.tmp 20) (kMove (.con (.int .i64 0))) oNil)))
def K51b0r2:OpsF:=(oVal (.tmp 21) (kInt aLss (.tmp 20) (.tmp 19)) oNil)
def K51b0r3:OpsF:=(oVal (.tmp 22) (kMove (.tmp 20)) (oVal (.tmp 23) (kTwo (ixsA 1) (.tmp 18) (.tmp 20)) (oVal (.tmp 24) (kLoad none (.tmp 23)) (oVal (.tmp 6) (kMove (.tmp 22)) (oVal (.tmp 7) (kMove (.tmp 24)) oNil)))))
def K51b0r4:OpsF:=(oEnd [] (oVal (.tmp 25) (kMove (.tmp 5)) (oVal (.tmp 26) (kMove (.tmp 6)) (oVal (.tmp 27) (kUn (fadA 2) (.tmp 4)) (oVal (.tmp 28) (kLoad (some 2) (.tmp 27)) (oVal (.tmp 29) (kLoad none (.tmp 3)) (oVal (.tmp 30) (kUn (fadA 1) (.tmp 4)) (oVal (.tmp 31) (kLoad none (.tmp 30)) (oVal (.tmp 32) (kTwo (ixsA 1) (.tmp 29) (.tmp 31)) (oVal (.tmp 33) (kLoad none (.tmp 32)) (oVal (.tmp 34) (kMove (.tmp 6)) (oVal (.tmp 35) (kTwo (ixsA 2) (.tmp 33) (.tmp 34)) (oVal (.tmp 36) (kLoad (some 2) (.tmp 35)) (oCall (.tmp 37) (.con (.func 67 [] [])) [(.tmp 28),(.tmp 36)] (oVal (.tmp 38) (kTwo (ixsA 2) (.tmp 25) (.tmp 26)) (oVal .none (kStore 2 (.tmp 38) (.tmp 37)) oNil))))))))))))))))
def K51b0r5:OpsF:=(oEnd [(41,3)] (oVal (.tmp 39) (kLoad none (.tmp 3)) (oVal (.tmp 40) (kMove (.tmp 6)) (oVal (.tmp 41) (kMove (.tmp 7)) (oVal (.tmp 42) (kMove (.tmp 5)) (oVal (.tmp 43) (kMove (.tmp 6)) (oVal (.tmp 44) (kTwo (ixsA 2) (.tmp 42) (.tmp 43)) (oVal (.tmp 45) (kLoad (some 2) (.tmp 44)) (oCallT (some [3]) (.tmp 46) (.con (.func 68 [] [])) [(.tmp 45)] (oVal (.tmp 47) (kBuildSlice [(.int .i64 0),(.int .i64 0)] 1 [(0,2,(.tmp 46))]) (oVal (.tmp 48) (kTwo (appendA false 2 16 (tag 86)) (.tmp 41) (.tmp 47)) (oVal (.tmp 49) (kTwo (ixsA 1) (.tmp 39) (.tmp 40)) (oVal .none (kStore 1 (.tmp 49) (.tmp 48)) oNil)))))))))))))
def K51b0r6:OpsF:=(oVal (.tmp 50) (kInt aAdd (.tmp 20) (.con (.int .i64 1))) (oVal (.tmp 20) (kMove (.tmp 50)) oNil))
def K51b0l0:K:=(kSeq (kRegion K51b0r2 [21]) (kSeq (kCond (.tmp 21) kSkip (kExit 2)) (kSeq (kBlock 3 (kSeq (kRegion K51b0r3 [6,7]) (kSeq (kRegionD K51b0r4 []) (kRegionD K51b0r5 [])))) (kRegion K51b0r6 [20]))))
def K51b0r7:OpsF:=(oVal (.tmp 51) (kLoad none (.tmp 3)) (oVal (.tmp 52) (kMove (.tmp 5)) (oVal (.tmp 53) (kBuildSlice [.nilslice] 1 [(0,1,(.tmp 52))]) (oVal (.tmp 54) (kTwo (appendA false 1 24 (tag 87)) (.tmp 51) (.tmp 53)) (oVal .none (kStore 1 (.tmp 3) (.tmp 54)) oNil)))))
def K51b0:K:=(kBlock 1 (kSeq (kRegion K51b0r0 [5]) (kSeq (kSeq (kRegion K51b0r1 [18,19,20]) (kBlock 2 (kLoop K51b0l0))) (kRegion K51b0r7 []))))
theorem code51b0:codeK Try.prog (X 51) Try.f51.ntmps (rangeAt Try.f51 0).2=some K51b0:=by kernel_rfl
def K66r0:OpsF:=(oVal (.tmp 1) (kBox (tag 28) (.tmp 0)) (oVal (.tmp 2) (kMove (.con .nilfunc)) oNil))
def K66r1:OpsF:=(oVal (.tmp 3) (kFunc 78 [] [(.tmp 1)]) (oVal (.tmp 2) (kMove (.tmp 3)) oNil))
theorem res66:Try.f66.results.toList=[.tmp 2]:=by kernel_rfl
def K66:K:=(kSeq (kRegion K66r0 [1,2]) (kSeq (kRegion K66r1 [2]) kRet))
theorem enter66 (cl:CallF) (a0:AV) (s:St):enterA Try.prog X cl 66 [a0] s Try.f66=finA Try.prog Try.f66 (K66 cl ⟨66,none,Try.f66.ntmps,X 66⟩ (paramsEnv 0 [a0] .nil) [] s) :=
  enterA_eq (b:=Try.f66.body.getD .skip) (by kernel_rfl) (by kernel_rfl) (by kernel_rfl) (by kernel_rfl) (by kernel_rfl)
def K78r0:OpsF:=(oVal (.tmp 8) (kUn (fadA 0) (.tmp 1)) (oVal (.tmp 9) (kLoad none (.tmp 8)) (oVal (.tmp 10) (kUn lenSlA (.tmp 9)) (oVal (.tmp 11) (kMove (.con (.int .i64 0))) oNil))))
def K78r1:OpsF:=(oVal (.tmp 12) (kInt aLss (.tmp 11) (.tmp 10)) oNil)
def K78r2:OpsF:=(oVal (.tmp 13) (kMove (.tmp 11)) (oVal (.tmp 14) (kTwo (ixsA 3) (.tmp 9) (.tmp 11)) (oVal (.tmp 15) (kLoad (some 3) (.tmp 14)) (oVal (.tmp 4) (kAlloc [(.int .i64 0),(.int .i64 0),(.int .i64 0)] (tag 65)) (oVal (.tmp 3) (kMove (.tmp 13)) (oVal .none (kStore 3 (.tmp 4) (.tmp 15)) oNil))))))
def K78r3:OpsF:=(oEnd [] (oVal (.tmp 16) (kMove (.tmp 0)) (oVal (.tmp 17) (kMove (.tmp 3)) (oCallT (some [19]) (.tmp 18) (.con (.func 30 [] [])) [(.tmp 17)] (oVal (.tmp 19) (kUn (fadA 1) (.tmp 4)) (oVal (.tmp 20) (kLoad (some 2) (.tmp 19)) (oCall (.tmp 21) (.con (.func 70 [] [])) [(.tmp 20)] (oVal (.tmp 22) (kBuild [(.int .i64 0),(.int .i64 0),(.int .i64 0),(.int .i64 0)] [(0,1,(.tmp 18)),(1,1,(.con (.int .i64 0))),(2,2,(.tmp 21))]) (oCall (.tmp 23) (.tmp 16) [(.tmp 22)] (oVal (.tmp 24) (kUn notA (.tmp 23)) oNil))))))))))
def K78r4:OpsF:=(oVal (.tmp 25) (kInt aAdd (.tmp 11) (.con (.int .i64 1))) (oVal (.tmp 11) (kMove (.tmp 25)) oNil))
def K78l0:K:=(kSeq (kRegion K78r1 [12]) (kSeq (kCond (.tmp 12) kSkip (kExit 0)) (kSeq (kBlock 1 (kSeq (kRegion K78r2 [4,3]) (kSeq (kRegionD K78r3 [24]) (kCond (.tmp 24) kRet kSkip)))) (kRegion K78r4 [11]))))
def K78r5:OpsF:=(oVal (.tmp 26) (kUn (fadA 2) (.tmp 1)) (oVal (.tmp 27) (kLoad none (.tmp 26)) (oVal (.tmp 28) (kUn lenSlA (.tmp 27)) (oVal (.tmp 29) (kMove (.con (.int .i64 0))) oNil))))
def K78r6:OpsF:=(oVal (.tmp 30) (kInt aLss (.tmp 29) (.tmp 28)) oNil)
def K78r7:OpsF:=(oVal (.tmp 31) (kMove (.tmp 29)) (oVal (.tmp 32) (kTwo (ixsA 4) (.tmp 27) (.tmp 29)) (oVal (.tmp 33) (kLoad (some 4) (.tmp 32)) (oVal (.tmp 6) (kAlloc [(.int .i64 0),(.int .i64 0),(.int .i64 0),(.int .i64 0)] (tag 68)) (oVal (.tmp 5) (kMove (.tmp 31)) (oVal .none (kStore 4 (.tmp 6) (.tmp 33)) oNil))))))
def K78r8:OpsF:=(oEnd [] (oVal (.tmp 34) (kMove (.tmp 0)) (oVal (.tmp 35) (kLoad (some 5) (.tmp 1)) (oVal (.tmp 36) (kMove (.tmp 5)) (oCallT (some [38]) (.tmp 37) (.con (.func 59 [] [])) [(.tmp 35),(.tmp 36),(.con (.int .i64 0))] (oVal (.tmp 38) (kUn (fadA 0) (.tmp 6)) (oVal (.tmp 39) (kLoad (some 2) (.tmp 38)) (oCall (.tmp 40) (.con (.func 70 [] [])) [(.tmp 39)] (oCall (.tmp 41) (.con (.func 68 [] [])) [(.tmp 40)] (oVal (.tmp 42) (kBuild [(.int .i64 0),(.int .i64 0),(.int .i64 0),(.int .i64 0)] [(0,1,(.tmp 37)),(1,1,(.con (.int .i64 0))),(2,2,(.tmp 41))]) (oCall (.tmp 43) (.tmp 34) [(.tmp 42)] (oVal (.tmp 44) (kUn notA (.tmp 43)) oNil))))))))))))
def K78r9:OpsF:=(oVal (.tmp 45) (kUn (fadA 4) (.tmp 1)) (oVal (.tmp 46) (kLoad none (.tmp 45)) (oVal (.tmp 47) (kMove (.con (.int .i64 0))) oNil)))
def K78r10:OpsF:=(oVal (.tmp 48) (kInt aLss (.tmp 47) (.tmp 46)) oNil)
def K78r11:OpsF:=(oVal (.tmp 49) (kMove (.tmp 47)) (oVal (.tmp 7) (kMove (.tmp 49)) oNil))
def K78r12:OpsF:=(oEnd [] (oVal (.tmp 50) (kMove (.tmp 0)) (oVal (.tmp 51) (kLoad (some 5) (.tmp 1)) (oVal (.tmp 52) (kMove (.tmp 5)) (oVal (.tmp 53) (kMove (.tmp 7)) (oVal (.tmp 54) (kInt aAdd (.tmp 53) (.con (.int .i64 1))) (oCallT (some [1,60]) (.tmp 55) (.con (.func 59 [] [])) [(.tmp 51),(.tmp 52),(.tmp 54)] (oVal (.tmp 56) (kLoad (some 5) (.tmp 1)) (oVal (.tmp 57) (kMove (.tmp 5)) (oVal (.tmp 58) (kMove (.tmp 7)) (oCallT (some [60]) (.tmp 59) (.con (.func 59 [] [])) [(.tmp 56),(.tmp 57),(.tmp 58)] (oVal (.tmp 60) (kUn (fadA 2) (.tmp 6)) (oVal (.tmp 61) (kLoad (some 2) (.tmp 60)) (oCall (.tmp 62) (.con (.func 70 [] [])) [(.tmp 61)] (oCall (.tmp 63) (.con (.func 68 [] [])) [(.tmp 62)] (oVal (.tmp 64) (kBuild [(.int .i64 0),(.int .i64 0),(.int .i64 0),(.int .i64 0)] [(0,1,(.tmp 55)),(1,1,(.tmp 59)),(2,2,(.tmp 63))]) (oCall (.tmp 65) (.tmp 50) [(.tmp 64)] (oVal (.tmp 66) (kUn notA (.tmp 65)) oNil))))))))))))))))))
def K78r13:OpsF:=(oVal (.tmp 67) (kInt aAdd (.tmp 47) (.con (.int .i64 1))) (oVal (.tmp 47) (kMove (.tmp 67)) oNil))
def K78l1:K:=(kSeq (kRegion K78r10 [48]) (kSeq (kCond (.tmp 48) kSkip (kExit 4)) (kSeq (kBlock 5 (kSeq (kRegion K78r11 [7]) (kSeq (kRegionD K78r12 [66]) (kCond (.tmp 66) kRet kSkip)))) (kRegion K78r13 [47]))))
def K78r14:OpsF:=(oVal (.tmp 68) (kInt aAdd (.tmp 29) (.con (.int .i64 1))) (oVal (.tmp 29) (kMove (.tmp 68)) oNil))
def K78l2:K:=(kSeq (kRegion K78r6 [30]) (kSeq (kCond (.tmp 30) kSkip (kExit 2)) (kSeq (kBlock 3 (kSeq (kRegion K78r7 [6,5]) (kSeq (kSeq (kRegionD K78r8 [44]) (kCond (.tmp 44) kRet kSkip)) (kSeq (kRegion K78r9 [46,47]) (kBlock 4 (kLoop K78l1)))))) (kRegion K78r14 [29]))))
theorem res78:Try.f78.results.toList=[]:=by kernel_rfl
def K78:K:=(kSeq (kSeq (kRegion K78r0 [9,10,11]) (kBlock 0 (kLoop K78l0))) (kSeq (kRegion K78r5 [27,28,29]) (kBlock 2 (kLoop K78l2))))
theorem enter78 (cl:CallF) (a0 a1:AV) (s:St):enterA Try.prog X cl 78 [a0,a1] s Try.f78=finA Try.prog Try.f78 (K78 cl ⟨78,none,Try.f78.ntmps,X 78⟩ (paramsEnv 0 [a0,a1] .nil) [] s) :=
  enterA_eq (b:=Try.f78.body.getD .skip) (by kernel_rfl) (by kernel_rfl) (by kernel_rfl) (by kernel_rfl) (by kernel_rfl)
def K52r0:OpsF:=(oVal (.tmp 1) (kBox (tag 28) (.tmp 0)) (oVal (.tmp 2) (kMove (.con .nilfunc)) oNil))
def K52r1:OpsF:=(oVal (.tmp 3) (kFunc 69 [] [(.tmp 1)]) (oVal (.tmp 2) (kMove (.tmp 3)) oNil))
theorem res52:Try.f52.results.toList=[.tmp 2]:=by kernel_rfl
def K52:K:=(kSeq (kRegion K52r0 [1,2]) (kSeq (kRegion K52r1 [2]) kRet))
theorem enter52 (cl:CallF) (a0:AV) (s:St):enterA Try.prog X cl 52 [a0] s Try.f52=finA Try.prog Try.f52 (K52 cl ⟨52,none,Try.f52.ntmps,X 52⟩ (paramsEnv 0 [a0] .nil) [] s) :=
  enterA_eq (b:=Try.f52.body.getD .skip) (by kernel_rfl) (by kernel_rfl) (by kernel_rfl) (by kernel_rfl) (by kernel_rfl)
def K69r0:OpsF:=(oVal (.tmp 8) (kUn (fadA 1) (.tmp 1)) (oVal (.tmp 9) (kLoad none (.tmp 8)) (oVal (.tmp 10) (kUn lenSlA (.tmp 9)) (oVal (.tmp 11) (kMove (.con (.int .i64 0))) oNil))))
def K69r1:OpsF:=(oVal (.tmp 12) (kInt aLss (.tmp 11) (.tmp 10)) oNil)
def K69r2:OpsF:=(oVal (.tmp 13) (kTwo (ixsA 4) (.tmp 9) (.tmp 11)) (oVal (.tmp 14) (kLoad (some 4) (.tmp 13)) (oVal (.tmp 4) (kAlloc [(.int .i64 0),(.int .i64 0),(.int .i64 0),(.int .i64 0)] (tag 70)) (oVal .none (kStore 4 (.tmp 4) (.tmp 14)) oNil))))
def K69r3:OpsF:=(oEnd [] (oVal (.tmp 15) (kMove (.tmp 0)) (oVal (.tmp 16) (kUn (fadA 0) (.tmp 4)) (oVal (.tmp 17) (kLoad none (.tmp 16)) (oCallT (some [19,22]) (.tmp 18) (.con (.func 30 [] [])) [(.tmp 17)] (oVal (.tmp 19) (kUn (fadA 1) (.tmp 4)) (oVal (.tmp 20) (kLoad none (.tmp 19)) (oCallT (some [22]) (.tmp 21) (.con (.func 30 [] [])) [(.tmp 20)] (oVal (.tmp 22) (kUn (fadA 2) (.tmp 4)) (oVal (.tmp 23) (kLoad (some 2) (.tmp 22)) (oCall (.tmp 24) (.con (.func 70 [] [])) [(.tmp 23)] (oVal (.tmp 25) (kBuild [(.int .i64 0),(.int .i64 0),(.int .i64 0),(.int .i64 0)] [(0,1,(.tmp 18)),(1,1,(.tmp 21)),(2,2,(.tmp 24))]) (oCall (.tmp 26) (.tmp 15) [(.tmp 25)] (oVal (.tmp 27) (kUn notA (.tmp 26)) oNil))))))))))))))
def K69r4:OpsF:=(oVal (.tmp 28) (kInt aAdd (.tmp 11) (.con (.int .i64 1))) (oVal (.tmp 11) (kMove (.tmp 28)) oNil))
def K69l0:K:=(kSeq (kRegion K69r1 [12]) (kSeq (kCond (.tmp 12) kSkip (kExit 0)) (kSeq (kBlock 1 (kSeq (kRegion K69r2 [4]) (kSeq (kRegionD K69r3 [27]) (kCond (.tmp 27) kRet kSkip)))) (kRegion K69r4 [11]))))
def K69r5:OpsF:=(oVal (.tmp 29) (kUn (fadA 3) (.tmp 1)) (oVal (.tmp 30) (kLoad none (.tmp 29)) (oVal (.tmp 31) (kUn lenSlA (.tmp 30)) (oVal (.tmp 32) (kMove (.con (.int .i64 0))) oNil))))
def K69r6:OpsF:=(oVal (.tmp 33) (kInt aLss (.tmp 32) (.tmp 31)) oNil)
def K69r7:OpsF:=(oVal (.tmp 34) (kTwo (ixsA 4) (.tmp 30) (.tmp 32)) (oVal (.tmp 35) (kLoad (some 4) (.tmp 34)) (oVal (.tmp 6) (kAlloc [(.int .i64 0),(.int .i64 0),(.int .i64 0),(.int .i64 0)] (tag 72)) (oVal .none (kStore 4 (.tmp 6) (.tmp 35)) oNil))))
def K69r8:OpsF:=(oEnd [] (oVal (.tmp 36) (kUn (fadA 3) (.tmp 6)) (oVal (.tmp 37) (kLoad none (.tmp 36)) (oVal (.tmp 38) (kUn (fadA 0) (.tmp 1)) (oVal (.tmp 39) (kLoad none (.tmp 38)) (oVal (.tmp 40) (kUn (fadA 2) (.tmp 6)) (oVal (.tmp 41) (kLoad none (.tmp 40)) (oVal (.tmp 42) (kTwo (ixsA 3) (.tmp 39) (.tmp 41)) (oVal (.tmp 43) (kUn (fadA 0) (.tmp 42)) (oVal (.tmp 44) (kLoad none (.tmp 43)) (oVal (.tmp 45) (kInt aSub (.tmp 37) (.tmp 44)) (oVal (.tmp 7) (kMove (.tmp 45)) oNil))))))))))))
def K69r9:OpsF:=(oEnd [] (oVal (.tmp 46) (kMove (.tmp 0)) (oVal (.tmp 47) (kUn (fadA 2) (.tmp 6)) (oVal (.tmp 48) (kLoad none (.tmp 47)) (oCallT (some [1,51,53]) (.tmp 49) (.con (.func 30 [] [])) [(.tmp 48)] (oVal (.tmp 50) (kLoad (some 5) (.tmp 1)) (oVal (.tmp 51) (kUn (fadA 0) (.tmp 6)) (oVal (.tmp 52) (kLoad none (.tmp 51)) (oVal (.tmp 53) (kUn (fadA 1) (.tmp 6)) (oVal (.tmp 54) (kLoad none (.tmp 53)) (oCall (.tmp 55) (.con (.func 59 [] [])) [(.tmp 50),(.tmp 52),(.tmp 54)] (oVal (.tmp 56) (kMove (.tmp 7)) (oVal (.tmp 57) (kMove (.tmp 7)) (oVal (.tmp 58) (kBuild [(.int .i64 0),(.int .i64 0)] [(0,1,(.tmp 56)),(1,1,(.tmp 57))]) (oVal (.tmp 59) (kBuild [(.int .i64 0),(.int .i64 0),(.int .i64 0),(.int .i64 0)] [(0,1,(.tmp 49)),(1,1,(.tmp 55)),(2,2,(.tmp 58))]) (oCall (.tmp 60) (.tmp 46) [(.tmp 59)] (oVal (.tmp 61) (kUn notA (.tmp 60)) oNil)))))))))))))))))
def K69r10:OpsF:=(oVal (.tmp 62) (kInt aAdd (.tmp 32) (.con (.int .i64 1))) (oVal (.tmp 32) (kMove (.tmp 62)) oNil))
def K69l1:K:=(kSeq (kRegion K69r6 [33]) (kSeq (kCond (.tmp 33) kSkip (kExit 2)) (kSeq (kBlock 3 (kSeq (kRegion K69r7 [6]) (kSeq (kRegionD K69r8 [7]) (kSeq (kRegionD K69r9 [61]) (kCond (.tmp 61) kRet kSkip))))) (kRegion K69r10 [32]))))
theorem res69:Try.f69.results.toList=[]:=by kernel_rfl
def K69:K:=(kSeq (kSeq (kRegion K69r0 [9,10,11]) (kBlock 0 (kLoop K69l0))) (kSeq (kRegion K69r5 [30,31,32]) (kBlock 2 (kLoop K69l1))))
theorem enter69 (cl:CallF) (a0 a1:AV) (s:St):enterA Try.prog X cl 69 [a0,a1] s Try.f69=finA Try.prog Try.f69 (K69 cl ⟨69,none,Try.f69.ntmps,X 69⟩ (paramsEnv 0 [a0,a1] .nil) [] s) :=
  enterA_eq (b:=Try.f69.body.getD .skip) (by kernel_rfl) (by kernel_rfl) (by kernel_rfl) (by kernel_rfl) (by kernel_rfl)
def K53r0:OpsF:=(oVal (.tmp 3) (kBox (tag 120) (.tmp 1)) (oVal (.tmp 4) (kMove (.con (.bool false))) oNil))
def K53r1:OpsF:=(oEnd [] (oVal (.tmp 6) (kMove (.tmp 0)) (oVal (.tmp 7) (kUn (fadA 0) (.tmp 3)) (oVal (.tmp 8) (kLoad none (.tmp 7)) (oVal (.tmp 9) (kTwo (ixsA 1) (.tmp 6) (.tmp 8)) (oVal (.tmp 10) (kLoad none (.tmp 9)) (oVal (.tmp 11) (kUn (fadA 1) (.tmp 3)) (oVal (.tmp 12) (kLoad none (.tmp 11)) (oVal (.tmp 13) (kTwo (ixsA 2) (.tmp 10) (.tmp 12)) (oVal (.tmp 14) (kLoad (some 2) (.tmp 13)) (oVal (.tmp 15) (kUn (fadA 2) (.tmp 3)) (oVal (.tmp 16) (kLoad (some 2) (.tmp 15)) (oCall (.tmp 17) (.con (.func 71 [] [])) [(.tmp 14),(.tmp 16)] (oVal (.tmp 5) (kAlloc [(.int .i64 0),(.int .i64 0)] (tag 86)) (oVal .none (kStore 2 (.tmp 5) (.tmp 17)) oNil)))))))))))))))
def K53r2:OpsF:=(oVal (.tmp 18) (kTwo (ixaA 2 1) (.tmp 5) (.con (.int .i64 0))) (oVal (.tmp 19) (kLoad none (.tmp 18)) (oVal (.tmp 20) (kTwo (ixaA 2 1) (.tmp 5) (.con (.int .i64 1))) (oVal (.tmp 21) (kLoad none (.tmp 20)) (oVal (.tmp 22) (kGtr (.tmp 19) (.tmp 21)) (oVal (.tmp 4) (kMove (.tmp 22)) oNil))))))
theorem res53:Try.f53.results.toList=[.tmp 4]:=by kernel_rfl
def K53:K:=(kSeq (kRegion K53r0 [3,4]) (kSeq (kRegionD K53r1 [5]) (kSeq (kRegion K53r2 [4]) kRet)))
theorem enter53 (cl:CallF) (a0 a1:AV) (s:St):enterA Try.prog X cl 53 [a0,a1] s Try.f53=finA Try.prog Try.f53 (K53 cl ⟨53,none,Try.f53.ntmps,X 53⟩ (paramsEnv 0 [a0,a1] .nil) [] s) :=
  enterA_eq (b:=Try.f53.body.getD .skip) (by kernel_rfl) (by kernel_rfl) (by kernel_rfl) (by kernel_rfl) (by kernel_rfl)
def K54r0:OpsF:=(oVal (.tmp 3) (kBox (tag 120) (.tmp 1)) (oVal (.tmp 4) (kMove (.con .nilslice)) oNil))
def K54r1:OpsF:=(oEnd [] (oVal (.tmp 13) (kMove (.tmp 0)) (oVal (.tmp 14) (kUn (fadA 0) (.tmp 3)) (oVal (.tmp 15) (kLoad none (.tmp 14)) (oVal (.tmp 16) (kTwo (ixsA 1) (.tmp 13) (.tmp 15)) (oVal (.tmp 17) (kLoad none (.tmp 16)) (oVal (.tmp 18) (kUn (fadA 1) (.tmp 3)) (oVal (.tmp 19) (kLoad none (.tmp 18)) (oVal (.tmp 20) (kTwo (ixsA 2) (.tmp 17) (.tmp 19)) (oVal (.tmp 21) (kLoad (some 2) (.tmp 20)) (oVal (.tmp 22) (kUn (fadA 2) (.tmp 3)) (oVal (.tmp 23) (kLoad (some 2) (.tmp 22)) (oCall (.tmp 24) (.con (.func 71 [] [])) [(.tmp 21),(.tmp 23)] (oVal (.tmp 5) (kAlloc [(.int .i64 0),(.int .i64 0)] (tag 86)) (oVal .none (kStore 2 (.tmp 5) (.tmp 24)) oNil)))))))))))))))
def K54r2:OpsF:=(oVal (.tmp 25) (kMove (.tmp 0)) (oVal (.tmp 26) (kUn lenSlA (.tmp 25)) (oVal (.tmp 27) (kMake [.nilslice] 24 (.tmp 26) (.tmp 26)) (oVal (.tmp 6) (kMove (.tmp 27)) oNil))))
def K54r3:OpsF:=(oVal (.tmp 28) (kMove (.tmp 0)) (oVal (.tmp 29) (kUn lenSlA (.tmp 28)) (oVal (.tmp 30) (kMove (.con (.int .i64 0))) oNil)))
def K54r4:OpsF:=(oVal (.tmp 31) (kInt aLss (.tmp 30) (.tmp 29)) oNil)
def K54r5:OpsF:=(oVal (.tmp 32) (kMove (.tmp 30)) (oVal (.tmp 33) (kTwo (ixsA 1) (.tmp 28) (.tmp 30)) (oVal (.tmp 34) (kLoad none (.tmp 33)) (oVal (.tmp 7) (kMove (.tmp 32)) (oVal (.tmp 8) (kMove (.tmp 34)) oNil)))))
def K54r6:OpsF:=(oVal (.tmp 35) (kMove (.tmp 6)) (oVal (.tmp 36) (kMove (.tmp 7)) (oVal (.tmp 37) (kMove (.tmp 8)) (oVal (.tmp 38) (kUn lenSlA (.tmp 37)) (oVal (.tmp 39) (kMake [(.int .i64 0),(.int .i64 0)] 16 (.tmp 38) (.tmp 38)) (oVal (.tmp 40) (kTwo (ixsA 1) (.tmp 35) (.tmp 36)) (oVal .none (kStore 1 (.tmp 40) (.tmp 39)) oNil)))))))
def K54r7:OpsF:=(oEnd [] (oVal (.tmp 41) (kMove (.tmp 8)) (oVal (.tmp 42) (kUn (fadA 0) (.tmp 3)) (oVal (.tmp 43) (kLoad none (.tmp 42)) (oVal (.tmp 44) (kTwo (ixsA 2) (.tmp 41) (.tmp 43)) (oVal (.tmp 45) (kLoad (some 2) (.tmp 44)) (oVal (.tmp 46) (kLoad (some 2) (.tmp 5)) (oCallT (some [49,51,5]) (.tmp 47) (.con (.func 67 [] [])) [(.tmp 45),(.tmp 46)] (oVal (.tmp 48) (kMove (.tmp 8)) (oVal (.tmp 49) (kUn (fadA 1) (.tmp 3)) (oVal (.tmp 50) (kLoad none (.tmp 49)) (oVal (.tmp 51) (kTwo (ixsA 2) (.tmp 48) (.tmp 50)) (oVal (.tmp 52) (kLoad (some 2) (.tmp 51)) (oVal (.tmp 53) (kLoad (some 2) (.tmp 5)) (oCallT (some [49,51]) (.tmp 54) (.con (.func 68 [] [])) [(.tmp 53)] (oCall (.tmp 55) (.con (.func 67 [] [])) [(.tmp 52),(.tmp 54)] (oVal (.tmp 9) (kAlloc [(.int .i64 0),(.int .i64 0)] (tag 86)) (oVal (.tmp 10) (kAlloc [(.int .i64 0),(.int .i64 0)] (tag 86)) (oVal .none (kStore 2 (.tmp 9) (.tmp 47)) (oVal .none (kStore 2 (.tmp 10) (.tmp 55)) oNil))))))))))))))))))))
def K54r8:OpsF:=(oVal (.tmp 56) (kMove (.tmp 8)) (oVal (.tmp 57) (kUn lenSlA (.tmp 56)) (oVal (.tmp 58) (kMove (.con (.int .i64 0))) oNil)))
def K54r9:OpsF:=(oVal (.tmp 59) (kInt aLss (.tmp 58) (.tmp 57)) oNil)
def K54r10:OpsF:=(oVal (.tmp 60) (kMove (.tmp 58)) (oVal (.tmp 61) (kTwo (ixsA 2) (.tmp 56) (.tmp 58)) (oVal (.tmp 62) (kLoad (some 2) (.tmp 61)) (oVal (.tmp 12) (kAlloc [(.int .i64 0),(.int .i64 0)] (tag 86)) (oVal (.tmp 11) (kMove (.tmp 60)) (oVal .none (kStore 2 (.tmp 12) (.tmp 62)) oNil))))))
def K54r11:OpsF:=(oEnd [] (oVal (.tmp 63) (kMove (.tmp 6)) (oVal (.tmp 64) (kMove (.tmp 7)) (oVal (.tmp 65) (kTwo (ixsA 1) (.tmp 63) (.tmp 64)) (oVal (.tmp 66) (kLoad none (.tmp 65)) (oVal (.tmp 67) (kMove (.tmp 11)) (oVal (.tmp 68) (kLoad (some 2) (.tmp 12)) (oVal (.tmp 69) (kLoad (some 2) (.tmp 9)) (oVal (.tmp 70) (kMove (.tmp 0)) (oVal (.tmp 71) (kUn (fadA 1) (.tmp 3)) (oVal (.tmp 72) (kLoad none (.tmp 71)) (oVal (.tmp 73) (kTwo (ixsA 1) (.tmp 70) (.tmp 72)) (oVal (.tmp 74) (kLoad none (.tmp 73)) (oVal (.tmp 75) (kMove (.tmp 11)) (oVal (.tmp 76) (kTwo (ixsA 2) (.tmp 74) (.tmp 75)) (oVal (.tmp 77) (kLoad (some 2) (.tmp 76)) (oCallT (some [65,12,10,82,84,87]) (.tmp 78) (.con (.func 67 [] [])) [(.tmp 69),(.tmp 77)] (oCallT (some [65,10,82,84,87]) (.tmp 79) (.con (.func 71 [] [])) [(.tmp 68),(.tmp 78)] (oVal (.tmp 80) (kLoad (some 2) (.tmp 10)) (oVal (.tmp 81) (kMove (.tmp 0)) (oVal (.tmp 82) (kUn (fadA 0) (.tmp 3)) (oVal (.tmp 83) (kLoad none (.tmp 82)) (oVal (.tmp 84) (kTwo (ixsA 1) (.tmp 81) (.tmp 83)) (oVal (.tmp 85) (kLoad none (.tmp 84)) (oVal (.tmp 86) (kMove (.tmp 11)) (oVal (.tmp 87) (kTwo (ixsA 2) (.tmp 85) (.tmp 86)) (oVal (.tmp 88) (kLoad (some 2) (.tmp 87)) (oCallT (some [65]) (.tmp 89) (.con (.func 67 [] [])) [(.tmp 80),(.tmp 88)] (oCallT (some [65]) (.tmp 90) (.con (.func 71 [] [])) [(.tmp 79),(.tmp 89)] (oVal (.tmp 91) (kTwo (ixsA 2) (.tmp 66) (.tmp 67)) (oVal .none (kStore 2 (.tmp 91) (.tmp 90)) oNil)))))))))))))))))))))))))))))))
def K54r12:OpsF:=(oVal (.tmp 92) (kInt aAdd (.tmp 58) (.con (.int .i64 1))) (oVal (.tmp 58) (kMove (.tmp 92)) oNil))
def K54l0:K:=(kSeq (kRegion K54r9 [59]) (kSeq (kCond (.tmp 59) kSkip (kExit 2)) (kSeq (kBlock 3 (kSeq (kRegion K54r10 [12,11]) (kRegionD K54r11 []))) (kRegion K54r12 [58]))))
def K54r13:OpsF:=(oVal (.tmp 93) (kInt aAdd (.tmp 30) (.con (.int .i64 1))) (oVal (.tmp 30) (kMove (.tmp 93)) oNil))
def K54l1:K:=(kSeq (kRegion K54r4 [31]) (kSeq (kCond (.tmp 31) kSkip (kExit 0)) (kSeq (kBlock 1 (kSeq (kRegion K54r5 [7,8]) (kSeq (kRegion K54r6 []) (kSeq (kRegionD K54r7 [9,10]) (kSeq (kRegion K54r8 [56,57,58]) (kBlock 2 (kLoop K54l0))))))) (kRegion K54r13 [30]))))
def K54r14:OpsF:=(oVal (.tmp 94) (kMove (.tmp 6)) (oVal (.tmp 4) (kMove (.tmp 94)) oNil))
theorem res54:Try.f54.results.toList=[.tmp 4]:=by kernel_rfl
def K54:K:=(kSeq (kRegion K54r0 [3,4]) (kSeq (kRegionD K54r1 [5]) (kSeq (kRegion K54r2 [6]) (kSeq (kSeq (kRegion K54r3 [28,29,30]) (kBlock 0 (kLoop K54l1))) (kSeq (kRegion K54r14 [4]) kRet)))))
theorem enter54 (cl:CallF) (a0 a1:AV) (s:St):enterA Try.prog X cl 54 [a0,a1] s Try.f54=finA Try.prog Try.f54 (K54 cl ⟨54,none,Try.f54.ntmps,X 54⟩ (paramsEnv 0 [a0,a1] .nil) [] s) :=
  enterA_eq (b:=Try.f54.body.getD .skip) (by kernel_rfl) (by kernel_rfl) (by kernel_rfl) (by kernel_rfl) (by kernel_rfl)
def K67r0:OpsF:=(oVal (.tmp 2) (kBox (tag 86) (.tmp 0)) (oVal (.tmp 3) (kBox (tag 86) (.tmp 1)) (oVal (.tmp 4) (kAlloc [(.int .i64 0),(.int .i64 0)] (tag 86)) oNil)))
def K67r1:OpsF:=(oVal (.tmp 5) (kTwo (ixaA 2 1) (.tmp 2) (.con (.int .i64 0))) (oVal (.tmp 6) (kLoad none (.tmp 5)) (oVal (.tmp 7) (kTwo (ixaA 2 1) (.tmp 3) (.con (.int .i64 0))) (oVal (.tmp 8) (kLoad none (.tmp 7)) (oVal (.tmp 9) (kInt aAdd (.tmp 6) (.tmp 8)) (oVal (.tmp 10) (kTwo (ixaA 2 1) (.tmp 2) (.con (.int .i64 1))) (oVal (.tmp 11) (kLoad none (.tmp 10)) (oVal (.tmp 12) (kTwo (ixaA 2 1) (.tmp 3) (.con (.int .i64 1))) (oVal (.tmp 13) (kLoad none (.tmp 12)) (oVal (.tmp 14) (kInt aAdd (.tmp 11) (.tmp 13)) (oVal (.tmp 15) (kBuild [(.int .i64 0),(.int .i64 0)] [(0,1,(.tmp 9)),(1,1,(.tmp 14))]) (oVal .none (kStore 2 (.tmp 4) (.tmp 15)) oNil))))))))))))
theorem res67:Try.f67.results.toList=[.cell 4 86]:=by kernel_rfl
def K67:K:=(kSeq (kRegion K67r0 [2,3,4]) (kSeq (kRegion K67r1 []) kRet))
theorem enter67 (cl:CallF) (a0 a1:AV) (s:St):enterA Try.prog X cl 67 [a0,a1] s Try.f67=finA Try.prog Try.f67 (K67 cl ⟨67,none,Try.f67.ntmps,X 67⟩ (paramsEnv 0 [a0,a1] .nil) [] s) :=
  enterA_eq (b:=Try.f67.body.getD .skip) (by kernel_rfl) (by kernel_rfl) (by kernel_rfl) (by kernel_rfl) (by kernel_rfl)
def K68r0:OpsF:=(oVal (.tmp 1) (kBox (tag 86) (.tmp 0)) (oVal (.tmp 2) (kAlloc [(.int .i64 0),(.int .i64 0)] (tag 86)) oNil))
def K68r1:OpsF:=(oVal (.tmp 3) (kTwo (ixaA 2 1) (.tmp 1) (.con (.int .i64 1))) (oVal (.tmp 4) (kLoad none (.tmp 3)) (oVal (.tmp 5) (kUn negA (.tmp 4)) (oVal (.tmp 6) (kTwo (ixaA 2 1) (.tmp 1) (.con (.int .i64 0))) (oVal (.tmp 7) (kLoad none (.tmp 6)) (oVal (.tmp 8) (kUn negA (.tmp 7)) (oVal (.tmp 9) (kBuild [(.int .i64 0),(.int .i64 0)] [(0,1,(.tmp 5)),(1,1,(.tmp 8))]) (oVal .none (kStore 2 (.tmp 2) (.tmp 9)) oNil))))))))
theorem res68:Try.f68.results.toList=[.cell 2 86]:=by kernel_rfl
def K68:K:=(kSeq (kRegion K68r0 [1,2]) (kSeq (kRegion K68r1 []) kRet))
theorem enter68 (cl:CallF) (a0:AV) (s:St):enterA Try.prog X cl 68 [a0] s Try.f68=finA Try.prog Try.f68 (K68 cl ⟨68,none,Try.f68.ntmps,X 68⟩ (paramsEnv 0 [a0] .nil) [] s) :=
  enterA_eq (b:=Try.f68.body.getD .skip) (by kernel_rfl) (by kernel_rfl) (by kernel_rfl) (by kernel_rfl) (by kernel_rfl)
def K71r0:OpsF:=(oVal (.tmp 2) (kBox (tag 86) (.tmp 0)) (oVal (.tmp 3) (kBox (tag 86) (.tmp 1)) (oVal (.tmp 4) (kAlloc [(.int .i64 0),(.int .i64 0)] (tag 86)) oNil)))
def K71r1:OpsF:=(oVal (.tmp 5) (kTwo (ixaA 2 1) (.tmp 2) (.con (.int .i64 0))) (oVal (.tmp 6) (kLoad none (.tmp 5)) (oVal (.tmp 7) (kTwo (ixaA 2 1) (.tmp 3) (.con (.int .i64 0))) (oVal (.tmp 8) (kLoad none (.tmp 7)) (oVal (.tmp 9) (kFold maxA (.tmp 6) [(.tmp 8)]) (oVal (.tmp 10) (kTwo (ixaA 2 1) (.tmp 2) (.con (.int .i64 1))) (oVal (.tmp 11) (kLoad none (.tmp 10)) (oVal (.tmp 12) (kTwo (ixaA 2 1) (.tmp 3) (.con (.int .i64 1))) (oVal (.tmp 13) (kLoad none (.tmp 12)) (oVal (.tmp 14) (kFold minA (.tmp 11) [(.tmp 13)]) (oVal (.tmp 15) (kBuild [(.int .i64 0),(.int .i64 0)] [(0,1,(.tmp 9)),(1,1,(.tmp 14))]) (oVal .none (kStore 2 (.tmp 4) (.tmp 15)) oNil))))))))))))
theorem res71:Try.f71.results.toList=[.cell 4 86]:=by kernel_rfl
def K71:K:=(kSeq (kRegion K71r0 [2,3,4]) (kSeq (kRegion K71r1 []) kRet))
theorem enter71 (cl:CallF) (a0 a1:AV) (s:St):enterA Try.prog X cl 71 [a0,a1] s Try.f71=finA Try.prog Try.f71 (K71 cl ⟨71,none,Try.f71.ntmps,X 71⟩ (paramsEnv 0 [a0,a1] .nil) [] s) :=
  enterA_eq (b:=Try.f71.body.getD .skip) (by kernel_rfl) (by kernel_rfl) (by kernel_rfl) (by kernel_rfl) (by kernel_rfl)
def K70r0:OpsF:=(oVal (.tmp 1) (kBox (tag 60) (.tmp 0)) (oVal (.tmp 2) (kAlloc [(.int .i64 0),(.int .i64 0)] (tag 86)) oNil))
def K70r1:OpsF:=(oVal (.tmp 3) (kUn (fadA 0) (.tmp 1)) (oVal (.tmp 4) (kLoad none (.tmp 3)) (oVal (.tmp 5) (kUn (fadA 1) (.tmp 1)) (oVal (.tmp 6) (kLoad none (.tmp 5)) (oVal (.tmp 7) (kBuild [(.int .i64 0),(.int .i64 0)] [(0,1,(.tmp 4)),(1,1,(.tmp 6))]) (oVal .none (kStore 2 (.tmp 2) (.tmp 7)) oNil))))))
theorem res70:Try.f70.results.toList=[.cell 2 86]:=by kernel_rfl
def K70:K:=(kSeq (kRegion K70r0 [1,2]) (kSeq (kRegion K70r1 []) kRet))
theorem enter70 (cl:CallF) (a0:AV) (s:St):enterA Try.prog X cl 70 [a0] s Try.f70=finA Try.prog Try.f70 (K70 cl ⟨70,none,Try.f70.ntmps,X 70⟩ (paramsEnv 0 [a0] .nil) [] s) :=
  enterA_eq (b:=Try.f70.body.getD .skip) (by kernel_rfl) (by kernel_rfl) (by kernel_rfl) (by kernel_rfl) (by kernel_rfl)
def K31r0:OpsF:=(oVal (.tmp 1) (kBox (tag 86) (.tmp 0)) (oVal (.tmp 2) (kAlloc [(.int .i64 0),(.int .i64 0)] (tag 60)) oNil))
def K31r1:OpsF:=(oVal (.tmp 3) (kTwo (ixaA 2 1) (.tmp 1) (.con (.int .i64 0))) (oVal (.tmp 4) (kLoad none (.tmp 3)) (oVal (.tmp 5) (kTwo (ixaA 2 1) (.tmp 1) (.con (.int .i64 1))) (oVal (.tmp 6) (kLoad none (.tmp 5)) (oVal (.tmp 7) (kBuild [(.int .i64 0),(.int .i64 0)] [(0,1,(.tmp 4)),(1,1,(.tmp 6))]) (oVal .none (kStore 2 (.tmp 2) (.tmp 7)) oNil))))))
theorem res31:Try.f31.results.toList=[.cell 2 60]:=by kernel_rfl
def K31:K:=(kSeq (kRegion K31r0 [1,2]) (kSeq (kRegion K31r1 []) kRet))
theorem enter31 (cl:CallF) (a0:AV) (s:St):enterA Try.prog X cl 31 [a0] s Try.f31=finA Try.prog Try.f31 (K31 cl ⟨31,none,Try.f31.ntmps,X 31⟩ (paramsEnv 0 [a0] .nil) [] s) :=
  enterA_eq (b:=Try.f31.body.getD .skip) (by kernel_rfl) (by kernel_rfl) (by kernel_rfl) (by kernel_rfl) (by kernel_rfl)
def K30r0:OpsF:=(oVal (.tmp 2) (kMove (.con (.int .i64 0))) oNil)
def K30r1:OpsF:=(oVal (.tmp 3) (kMove (.tmp 0)) (oVal (.tmp 4) (kInt aAdd (.con (.int .i64 1)) (.tmp 3)) (oVal (.tmp 2) (kMove (.tmp 4)) oNil)))
theorem res30:Try.f30.results.toList=[.tmp 2]:=by kernel_rfl
def K30:K:=(kSeq (kRegion K30r0 [2]) (kSeq (kRegion K30r1 [2]) kRet))
theorem enter30 (cl:CallF) (a0:AV) (s:St):enterA Try.prog X cl 30 [a0] s Try.f30=finA Try.prog Try.f30 (K30 cl ⟨30,none,Try.f30.ntmps,X 30⟩ (paramsEnv 0 [a0] .nil) [] s) :=
  enterA_eq (b:=Try.f30.body.getD .skip) (by kernel_rfl) (by kernel_rfl) (by kernel_rfl) (by kernel_rfl) (by kernel_rfl)
def K59r0:OpsF:=(oVal (.tmp 3) (kBox (tag 28) (.tmp 0)) (oVal (.tmp 6) (kMove (.con (.int .i64 0))) oNil))
def K59r1:OpsF:=(oVal (.tmp 7) (kUn (fadA 0) (.tmp 3)) (oVal (.tmp 8) (kLoad none (.tmp 7)) (oVal (.tmp 9) (kUn lenSlA (.tmp 8)) (oVal (.tmp 10) (kInt aAdd (.con (.int .i64 1)) (.tmp 9)) (oVal (.tmp 11) (kMove (.tmp 1)) (oVal (.tmp 12) (kUn (fadA 4) (.tmp 3)) (oVal (.tmp 13) (kLoad none (.tmp 12)) (oVal (.tmp 14) (kInt aAdd (.tmp 13) (.con (.int .i64 1))) (oVal (.tmp 15) (kInt aMul (.tmp 11) (.tmp 14)) (oVal (.tmp 16) (kInt aAdd (.tmp 10) (.tmp 15)) (oVal (.tmp 17) (kMove (.tmp 2)) (oVal (.tmp 18) (kInt aAdd (.tmp 16) (.tmp 17)) (oVal (.tmp 6) (kMove (.tmp 18)) oNil)))))))))))))
theorem res59:Try.f59.results.toList=[.tmp 6]:=by kernel_rfl
def K59:K:=(kSeq (kRegion K59r0 [3,6]) (kSeq (kRegion K59r1 [6]) kRet))
theorem enter59 (cl:CallF) (a0 a1 a2:AV) (s:St):enterA Try.prog X cl 59 [a0,a1,a2] s Try.f59=finA Try.prog Try.f59 (K59 cl ⟨59,none,Try.f59.ntmps,X 59⟩ (paramsEnv 0 [a0,a1,a2] .nil) [] s) :=
  enterA_eq (b:=Try.f59.body.getD .skip) (by kernel_rfl) (by kernel_rfl) (by kernel_rfl) (by kernel_rfl) (by kernel_rfl)
end
end Go.Proofs.Ytoolodjbfphkjaa.code
set_option maxRecDepth 100000
namespace Go.Proofs.Ytoolodjbfphkjaa.code
open Go.Abs
noncomputable section
def K8r0:OpsF:=(oVal (.tmp 1) (kBox (tag 28) (.tmp 0)) (oVal (.tmp 2) (kMove (.con .nilslice)) (oVal (.tmp 3) (kMove (.con (.int .i64 0))) oNil)))
def K8r1:OpsF:=(oVal (.tmp 9) (kLoad (some 5) (.tmp 1)) (oCall (.tmp 10) (.con (.func 27 [] [])) [(.tmp 9)] (oVal (.tmp 4) (kMove (.tmp 10)) oNil)))
def K8r2:OpsF:=(oVal (.tmp 11) (kMove (.tmp 4)) (oVal (.tmp 12) (kInt aNeq (.tmp 11) (.con (.int .i64 0))) oNil))
def K8r3:OpsF:=(oVal (.tmp 13) (kMove (.tmp 4)) (oVal (.tmp 2) (kMove (.con .nilslice)) (oVal (.tmp 3) (kMove (.tmp 13)) oNil)))
def K8r4:OpsF:=(oVal (.tmp 15) (kLoad (some 5) (.tmp 1)) (oCall (.tmp 16) (.con (.func 28 [] [])) [(.tmp 15)] (oVal (.tmp 14) (kMove (.tmp 16)) (oVal (.tmp 17) (kUn (extA 0) (.tmp 14)) (oVal (.tmp 18) (kUn (extA 1) (.tmp 14)) (oVal (.tmp 5) (kMove (.tmp 17)) (oVal (.tmp 6) (kMove (.tmp 18)) oNil)))))))
def K8r5:OpsF:=(oVal (.tmp 19) (kMove (.tmp 6)) (oVal (.tmp 20) (kUn notA (.tmp 19)) oNil))
def K8r6:OpsF:=(oVal (.tmp 2) (kMove (.con .nilslice)) (oVal (.tmp 3) (kMove (.con (.int .i64 9))) oNil))
def K8r7:OpsF:=(oVal (.tmp 21) (kUn (fadA 0) (.tmp 1)) (oVal (.tmp 22) (kLoad none (.tmp 21)) (oVal (.tmp 23) (kUn lenSlA (.tmp 22)) (oVal (.tmp 24) (kMake [(.int .i64 0),(.int .i64 0)] 16 (.tmp 23) (.tmp 23)) (oVal (.tmp 7) (kMove (.tmp 24)) oNil)))))
def K8r8:OpsF:=(oVal (.tmp 25) (kMove (.tmp 7)) (oVal (.tmp 26) (kUn lenSlA (.tmp 25)) (oVal (.tmp 27) (kMove (.con (.int .i64 0))) oNil)))
def K8r9:OpsF:=(oVal (.tmp 28) (kInt aLss (.tmp 27) (.tmp 26)) oNil)
def K8r10:OpsF:=(oVal (.tmp 29) (kMove (.tmp 27)) (oVal (.tmp 8) (kMove (.tmp 29)) oNil))
def K8r11:OpsF:=(oVal (.tmp 30) (kMove (.tmp 7)) (oVal (.tmp 31) (kMove (.tmp 8)) (oVal (.tmp 32) (kMove (.tmp 5)) (oVal (.tmp 33) (kMove (.tmp 8)) (oCall (.tmp 34) (.con (.func 30 [] [])) [(.tmp 33)] (oVal (.tmp 35) (kTwo (ixsA 1) (.tmp 32) (.tmp 34)) (oVal (.tmp 36) (kLoad none (.tmp 35)) (oVal (.tmp 37) (kTwo (ixsA 2) (.tmp 36) (.con (.int .i64 0))) (oVal (.tmp 38) (kLoad (some 2) (.tmp 37)) (oCall (.tmp 39) (.con (.func 31 [] [])) [(.tmp 38)] (oVal (.tmp 40) (kTwo (ixsA 2) (.tmp 30) (.tmp 31)) (oVal .none (kStore 2 (.tmp 40) (.tmp 39)) oNil))))))))))))
def K8r12:OpsF:=(oVal (.tmp 41) (kInt aAdd (.tmp 27) (.con (.int .i64 1))) (oVal (.tmp 27) (kMove (.tmp 41)) oNil))
def K8l0:K:=(kSeq (kRegion K8r9 [28]) (kSeq (kCond (.tmp 28) kSkip (kExit 0)) (kSeq (kBlock 1 (kSeq (kRegion K8r10 [8]) (kRegion K8r11 []))) (kRegion K8r12 [27]))))
def K8r13:OpsF:=(oVal (.tmp 42) (kMove (.tmp 7)) (oVal (.tmp 2) (kMove (.tmp 42)) (oVal (.tmp 3) (kMove (.con (.int .i64 0))) oNil)))
theorem res8:Try.f8.results.toList=[.tmp 2,.tmp 3]:=by kernel_rfl
def K8:K:=(kSeq (kRegion K8r0 [1,2,3]) (kSeq (kSeq (kRegion K8r1 [4]) (kSeq (kRegion K8r2 [12]) (kCond (.tmp 12) (kSeq (kRegion K8r3 [2,3]) kRet) kSkip))) (kSeq (kRegion K8r4 [5,6]) (kSeq (kSeq (kRegion K8r5 [20]) (kCond (.tmp 20) (kSeq (kRegion K8r6 [2,3]) kRet) kSkip)) (kSeq (kRegion K8r7 [7]) (kSeq (kSeq (kRegion K8r8 [26,27]) (kBlock 0 (kLoop K8l0))) (kSeq (kRegion K8r13 [2,3]) kRet)))))))
theorem enter8 (cl:CallF) (a0:AV) (s:St):enterA Try.prog X cl 8 [a0] s Try.f8=finA Try.prog Try.f8 (K8 cl ⟨8,none,Try.f8.ntmps,X 8⟩ (paramsEnv 0 [a0] .nil) [] s) :=
  enterA_eq (b:=Try.f8.body.getD .skip) (by kernel_rfl) (by kernel_rfl) (by kernel_rfl) (by kernel_rfl) (by kernel_rfl)
end
end Go.Proofs.Ytoolodjbfphkjaa.code
set_option maxRecDepth 100000
namespace Go.Proofs.Ytoolodjbfphkjaa.code
open Go.Abs
noncomputable section
def K26r0:OpsF:=(oVal (.tmp 2) (kMove (.con (.int .u64 0))) oNil)
def K26r1:OpsF:=(oVal (.tmp 4) (kMove (.tmp 0)) (oVal (.tmp 5) (kMove (.tmp 0)) (oVal (.tmp 6) (kUn nilA (.tmp 5)) (oVal (.tmp 7) (kUn (fadA 0) (.tmp 6)) (oVal (.tmp 8) (kLoad none (.tmp 7)) (oVal (.tmp 9) (kInt aAdd (.tmp 8) (.con (.int .u64 11562461410679940143))) (oVal (.tmp 10) (kUn nilA (.tmp 4)) (oVal (.tmp 11) (kUn (fadA 0) (.tmp 10)) (oVal .none (kStore 1 (.tmp 11) (.tmp 9)) oNil)))))))))
def K26r2:OpsF:=(oVal (.tmp 12) (kMove (.tmp 0)) (oVal (.tmp 13) (kUn nilA (.tmp 12)) (oVal (.tmp 14) (kUn (fadA 0) (.tmp 13)) (oVal (.tmp 15) (kLoad none (.tmp 14)) (oVal (.tmp 3) (kMove (.tmp 15)) oNil)))))
def K26r3:OpsF:=(oVal (.tmp 16) (kMove (.tmp 3)) (oVal (.tmp 17) (kMove (.tmp 3)) (oVal (.tmp 18) (kShr (.tmp 17) (.con (.int .u64 30))) (oVal (.tmp 19) (kInt aXor (.tmp 16) (.tmp 18)) (oVal (.tmp 20) (kInt aMul (.tmp 19) (.con (.int .u64 13787848793156543929))) (oVal (.tmp 3) (kMove (.tmp 20)) oNil))))))
def K26r4:OpsF:=(oVal (.tmp 21) (kMove (.tmp 3)) (oVal (.tmp 22) (kMove (.tmp 3)) (oVal (.tmp 23) (kShr (.tmp 22) (.con (.int .u64 27))) (oVal (.tmp 24) (kInt aXor (.tmp 21) (.tmp 23)) (oVal (.tmp 25) (kInt aMul (.tmp 24) (.con (.int .u64 10723151780598845931))) (oVal (.tmp 3) (kMove (.tmp 25)) oNil))))))
def K26r5:OpsF:=(oVal (.tmp 26) (kMove (.tmp 3)) (oVal (.tmp 27) (kMove (.tmp 3)) (oVal (.tmp 28) (kShr (.tmp 27) (.con (.int .u64 31))) (oVal (.tmp 29) (kInt aXor (.tmp 26) (.tmp 28)) (oVal (.tmp 2) (kMove (.tmp 29)) oNil)))))
theorem res26:Try.f26.results.toList=[.tmp 2]:=by kernel_rfl
def K26:K:=(kSeq (kRegion K26r0 [2]) (kSeq (kRegion K26r1 []) (kSeq (kRegion K26r2 [3]) (kSeq (kRegion K26r3 [3]) (kSeq (kRegion K26r4 [3]) (kSeq (kRegion K26r5 [2]) kRet))))))
theorem enter26 (cl:CallF) (a0:AV) (s:St):enterA Try.prog X cl 26 [a0] s Try.f26=finA Try.prog Try.f26 (K26 cl ⟨26,none,Try.f26.ntmps,X 26⟩ (paramsEnv 0 [a0] .nil) [] s) :=
  enterA_eq (b:=Try.f26.body.getD .skip) (by kernel_rfl) (by kernel_rfl) (by kernel_rfl) (by kernel_rfl) (by kernel_rfl)
def K18r0:OpsF:=(oVal (.tmp 4) (kMove (.con (.int .i64 0))) oNil)
def K18r1:OpsF:=(oVal (.tmp 5) (kMove (.tmp 1)) (oVal (.tmp 6) (kInt aLss (.tmp 5) (.con (.int .i64 2))) oNil))
def K18r2:OpsF:=(oVal (.tmp 4) (kMove (.con (.int .i64 0))) oNil)
def K18r3:OpsF:=(oVal (.tmp 7) (kMove (.tmp 0)) (oCall (.tmp 8) (.con (.func 26 [] [])) [(.tmp 7)] (oVal (.tmp 9) (kShr (.tmp 8) (.con (.int .u64 2))) (oVal (.tmp 10) (kMove (.tmp 1)) (oVal (.tmp 11) (kUn (cviA .u64) (.tmp 10)) (oVal (.tmp 12) (kInt aRem (.tmp 9) (.tmp 11)) (oVal (.tmp 13) (kUn (cviA .i64) (.tmp 12)) (oVal (.tmp 4) (kMove (.tmp 13)) oNil))))))))
theorem res18:Try.f18.results.toList=[.tmp 4]:=by kernel_rfl
def K18:K:=(kSeq (kRegion K18r0 [4]) (kSeq (kSeq (kRegion K18r1 [6]) (kCond (.tmp 6) (kSeq (kRegion K18r2 [4]) kRet) kSkip)) (kSeq (kRegion K18r3 [4]) kRet)))
theorem enter18 (cl:CallF) (a0 a1:AV) (s:St):enterA Try.prog X cl 18 [a0,a1] s Try.f18=finA Try.prog Try.f18 (K18 cl ⟨18,none,Try.f18.ntmps,X 18⟩ (paramsEnv 0 [a0,a1] .nil) [] s) :=
  enterA_eq (b:=Try.f18.body.getD .skip) (by kernel_rfl) (by kernel_rfl) (by kernel_rfl) (by kernel_rfl) (by kernel_rfl)
def K19r0:OpsF:=(oVal (.tmp 6) (kMove (.con (.int .i64 0))) oNil)
def K19r1:OpsF:=(oVal (.tmp 7) (kMove (.tmp 1)) (oVal (.tmp 8) (kMove (.tmp 0)) (oVal (.tmp 9) (kMove (.tmp 2)) (oVal (.tmp 10) (kMove (.tmp 1)) (oVal (.tmp 11) (kInt aSub (.tmp 9) (.tmp 10)) (oVal (.tmp 12) (kInt aAdd (.tmp 11) (.con (.int .i64 1))) (oCall (.tmp 13) (.con (.func 18 [] [])) [(.tmp 8),(.tmp 12)] (oVal (.tmp 14) (kInt aAdd (.tmp 7) (.tmp 13)) (oVal (.tmp 6) (kMove (.tmp 14)) oNil)))))))))
theorem res19:Try.f19.results.toList=[.tmp 6]:=by kernel_rfl
def K19:K:=(kSeq (kRegion K19r0 [6]) (kSeq (kRegion K19r1 [6]) kRet))
theorem enter19 (cl:CallF) (a0 a1 a2:AV) (s:St):enterA Try.prog X cl 19 [a0,a1,a2] s Try.f19=finA Try.prog Try.f19 (K19 cl ⟨19,none,Try.f19.ntmps,X 19⟩ (paramsEnv 0 [a0,a1,a2] .nil) [] s) :=
  enterA_eq (b:=Try.f19.body.getD .skip) (by kernel_rfl) (by kernel_rfl) (by kernel_rfl) (by kernel_rfl) (by kernel_rfl)
def K22r0:OpsF:=(oVal (.tmp 4) (kMove (.con (.bool false))) oNil)
def K22r1:OpsF:=(oVal (.tmp 5) (kMove (.tmp 0)) (oVal (.tmp 6) (kMove (.tmp 1)) (oCall (.tmp 7) (.con (.func 18 [] [])) [(.tmp 5),(.tmp 6)] (oVal (.tmp 8) (kInt aEql (.tmp 7) (.con (.int .i64 0))) (oVal (.tmp 4) (kMove (.tmp 8)) oNil)))))
theorem res22:Try.f22.results.toList=[.tmp 4]:=by kernel_rfl
def K22:K:=(kSeq (kRegion K22r0 [4]) (kSeq (kRegion K22r1 [4]) kRet))
theorem enter22 (cl:CallF) (a0 a1:AV) (s:St):enterA Try.prog X cl 22 [a0,a1] s Try.f22=finA Try.prog Try.f22 (K22 cl ⟨22,none,Try.f22.ntmps,X 22⟩ (paramsEnv 0 [a0,a1] .nil) [] s) :=
  enterA_eq (b:=Try.f22.body.getD .skip) (by kernel_rfl) (by kernel_rfl) (by kernel_rfl) (by kernel_rfl) (by kernel_rfl)
def K21r0:OpsF:=(oVal (.tmp 4) (kMove (.con (.int .i64 0))) oNil)
def K21r1:OpsF:=(oVal (.tmp 5) (kMove (.tmp 1)) (oVal (.tmp 6) (kUn lenSlA (.tmp 5)) (oVal (.tmp 7) (kInt aEql (.tmp 6) (.con (.int .i64 0))) oNil)))
def K21r2:OpsF:=(oVal (.tmp 4) (kMove (.con (.int .i64 0))) oNil)
def K21r3:OpsF:=(oVal (.tmp 8) (kMove (.tmp 1)) (oVal (.tmp 9) (kMove (.tmp 0)) (oVal (.tmp 10) (kMove (.tmp 1)) (oVal (.tmp 11) (kUn lenSlA (.tmp 10)) (oCall (.tmp 12) (.con (.func 18 [] [])) [(.tmp 9),(.tmp 11)] (oVal (.tmp 13) (kTwo (ixsA 1) (.tmp 8) (.tmp 12)) (oVal (.tmp 14) (kLoad none (.tmp 13)) (oVal (.tmp 4) (kMove (.tmp 14)) oNil))))))))
theorem res21:Try.f21.results.toList=[.tmp 4]:=by kernel_rfl
def K21:K:=(kSeq (kRegion K21r0 [4]) (kSeq (kSeq (kRegion K21r1 [7]) (kCond (.tmp 7) (kSeq (kRegion K21r2 [4]) kRet) kSkip)) (kSeq (kRegion K21r3 [4]) kRet)))
theorem enter21 (cl:CallF) (a0 a1:AV) (s:St):enterA Try.prog X cl 21 [a0,a1] s Try.f21=finA Try.prog Try.f21 (K21 cl ⟨21,none,Try.f21.ntmps,X 21⟩ (paramsEnv 0 [a0,a1] .nil) [] s) :=
  enterA_eq (b:=Try.f21.body.getD .skip) (by kernel_rfl) (by kernel_rfl) (by kernel_rfl) (by kernel_rfl) (by kernel_rfl)
def K20r0:OpsF:=(oVal (.tmp 6) (kAlloc [(.int .i64 0),(.int .i64 0)] (tag 60)) oNil)
def K20r1:OpsF:=(oVal (.tmp 9) (kMove (.tmp 0)) (oVal (.tmp 10) (kMove (.tmp 1)) (oVal (.tmp 11) (kMove (.tmp 2)) (oCall (.tmp 12) (.con (.func 19 [] [])) [(.tmp 9),(.tmp 10),(.tmp 11)] (oVal (.tmp 7) (kMove (.tmp 12)) oNil)))))
def K20r2:OpsF:=(oVal (.tmp 13) (kMove (.tmp 0)) (oVal (.tmp 14) (kMove (.tmp 7)) (oVal (.tmp 15) (kMove (.tmp 2)) (oVal (.tmp 16) (kMove (.tmp 7)) (oVal (.tmp 17) (kInt aAdd (.tmp 16) (.con (.int .i64 4))) (oVal (.tmp 18) (kFold minA (.tmp 15) [(.tmp 17)]) (oVal (.tmp 19) (kMove (.tmp 2)) (oVal (.tmp 20) (kBuildSlice [(.int .i64 0),(.int .i64 0),(.int .i64 0)] 3 [(0,1,(.tmp 14)),(1,1,(.tmp 18)),(2,1,(.tmp 19))]) (oCall (.tmp 21) (.con (.func 21 [] [])) [(.tmp 13),(.tmp 20)] (oVal (.tmp 8) (kMove (.tmp 21)) oNil))))))))))
def K20r3:OpsF:=(oVal (.tmp 22) (kMove (.tmp 7)) (oVal (.tmp 23) (kMove (.tmp 0)) (oVal (.tmp 24) (kMove (.tmp 7)) (oVal (.tmp 25) (kMove (.tmp 8)) (oCall (.tmp 26) (.con (.func 19 [] [])) [(.tmp 23),(.tmp 24),(.tmp 25)] (oVal (.tmp 27) (kBuild [(.int .i64 0),(.int .i64 0)] [(0,1,(.tmp 22)),(1,1,(.tmp 26))]) (oVal .none (kStore 2 (.tmp 6) (.tmp 27)) oNil)))))))
theorem res20:Try.f20.results.toList=[.cell 6 60]:=by kernel_rfl
def K20:K:=(kSeq (kRegion K20r0 [6]) (kSeq (kRegion K20r1 [7]) (kSeq (kRegion K20r2 [8]) (kSeq (kRegion K20r3 []) kRet))))
theorem enter20 (cl:CallF) (a0 a1 a2:AV) (s:St):enterA Try.prog X cl 20 [a0,a1,a2] s Try.f20=finA Try.prog Try.f20 (K20 cl ⟨20,none,Try.f20.ntmps,X 20⟩ (paramsEnv 0 [a0,a1,a2] .nil) [] s) :=
  enterA_eq (b:=Try.f20.body.getD .skip) (by kernel_rfl) (by kernel_rfl) (by kernel_rfl) (by kernel_rfl) (by kernel_rfl)
def K23r0:OpsF:=(oVal (.tmp 3) (kBox (tag 60) (.tmp 1)) (oVal (.tmp 4) (kMove (.con (.int .i64 0))) oNil))
def K23r1:OpsF:=(oEnd [] (oVal (.tmp 5) (kMove (.tmp 0)) (oVal (.tmp 6) (kUn (fadA 0) (.tmp 3)) (oVal (.tmp 7) (kLoad none (.tmp 6)) (oVal (.tmp 8) (kUn (fadA 1) (.tmp 3)) (oVal (.tmp 9) (kLoad none (.tmp 8)) (oVal (.tmp 10) (kMove (.tmp 0)) (oVal (.tmp 11) (kUn (fadA 0) (.tmp 3)) (oVal (.tmp 12) (kLoad none (.tmp 11)) (oVal (.tmp 13) (kUn (fadA 1) (.tmp 3)) (oVal (.tmp 14) (kLoad none (.tmp 13)) (oCallT (some [6,8,17,19]) (.tmp 15) (.con (.func 19 [] [])) [(.tmp 10),(.tmp 12),(.tmp 14)] (oVal (.tmp 16) (kMove (.tmp 0)) (oVal (.tmp 17) (kUn (fadA 0) (.tmp 3)) (oVal (.tmp 18) (kLoad none (.tmp 17)) (oVal (.tmp 19) (kUn (fadA 1) (.tmp 3)) (oVal (.tmp 20) (kLoad none (.tmp 19)) (oCallT (some [6,8]) (.tmp 21) (.con (.func 19 [] [])) [(.tmp 16),(.tmp 18),(.tmp 20)] (oVal (.tmp 22) (kBuildSlice [(.int .i64 0),(.int .i64 0),(.int .i64 0),(.int .i64 0)] 4 [(0,1,(.tmp 7)),(1,1,(.tmp 9)),(2,1,(.tmp 15)),(3,1,(.tmp 21))]) (oCall (.tmp 23) (.con (.func 21 [] [])) [(.tmp 5),(.tmp 22)] (oVal (.tmp 4) (kMove (.tmp 23)) oNil)))))))))))))))))))))
theorem res23:Try.f23.results.toList=[.tmp 4]:=by kernel_rfl
def K23:K:=(kSeq (kRegion K23r0 [3,4]) (kSeq (kRegionD K23r1 [4]) kRet))
theorem enter23 (cl:CallF) (a0 a1:AV) (s:St):enterA Try.prog X cl 23 [a0,a1] s Try.f23=finA Try.prog Try.f23 (K23 cl ⟨23,none,Try.f23.ntmps,X 23⟩ (paramsEnv 0 [a0,a1] .nil) [] s) :=
  enterA_eq (b:=Try.f23.body.getD .skip) (by kernel_rfl) (by kernel_rfl) (by kernel_rfl) (by kernel_rfl) (by kernel_rfl)
end
end Go.Proofs.Ytoolodjbfphkjaa.code
set_option maxRecDepth 100000
namespace Go.Proofs.Ytoolodjbfphkjaa.code
open Go.Abs
noncomputable section
def K5r0:OpsF:=(oVal (.tmp 10) (kAlloc [.nilslice,.nilslice,.nilslice,.nilslice,(.int .i64 0)] (tag 28)) (oVal (.tmp 11) (kAlloc [.nilslice,.nilslice] (tag 31)) (oVal (.tmp 12) (kMove (.con (.bool false))) oNil)))
def K5r1:OpsF:=(oVal (.tmp 29) (kMove (.tmp 0)) (oVal (.tmp 30) (kMove (.tmp 4)) (oVal (.tmp 31) (kInt aAdd (.tmp 30) (.con (.int .i64 1))) (oCall (.tmp 32) (.con (.func 18 [] [])) [(.tmp 29),(.tmp 31)] (oVal (.tmp 33) (kBuild [.nilslice,.nilslice,.nilslice,.nilslice,(.int .i64 0)] [(4,1,(.tmp 32))]) (oVal (.tmp 13) (kAlloc [.nilslice,.nilslice,.nilslice,.nilslice,(.int .i64 0)] (tag 28)) (oVal .none (kStore 5 (.tmp 13) (.tmp 33)) oNil)))))))
def K5r2:OpsF:=(oVal (.tmp 14) (kAlloc [.nilslice,.nilslice] (tag 31)) oNil)
def K5r3:OpsF:=(oVal (.tmp 34) (kMove (.tmp 0)) (oVal (.tmp 35) (kMove (.tmp 1)) (oCall (.tmp 36) (.con (.func 19 [] [])) [(.tmp 34),(.con (.int .i64 1)),(.tmp 35)] (oVal (.tmp 15) (kMove (.tmp 36)) oNil))))
def K5r4:OpsF:=(oVal (.tmp 37) (kMove (.tmp 15)) (oVal (.tmp 38) (kGtr (.tmp 37) (.con (.int .i64 0))) oNil))
def K5r5:OpsF:=(oVal (.tmp 41) (kMove (.tmp 0)) (oVal (.tmp 42) (kMove (.tmp 0)) (oVal (.tmp 43) (kBuildSlice [(.int .i64 0),(.int .i64 0)] 2 [(0,1,(.con (.int .i64 3))),(1,1,(.con (.int .i64 20)))]) (oCall (.tmp 44) (.con (.func 21 [] [])) [(.tmp 42),(.tmp 43)] (oVal (.tmp 45) (kUn negA (.tmp 44)) (oVal (.tmp 46) (kMove (.tmp 0)) (oVal (.tmp 47) (kBuildSlice [(.int .i64 0),(.int .i64 0)] 2 [(0,1,(.con (.int .i64 3))),(1,1,(.con (.int .i64 20)))]) (oCall (.tmp 48) (.con (.func 21 [] [])) [(.tmp 46),(.tmp 47)] (oCall (.tmp 49) (.con (.func 20 [] [])) [(.tmp 41),(.tmp 45),(.tmp 48)] (oVal (.tmp 16) (kAlloc [(.int .i64 0),(.int .i64 0)] (tag 60)) (oVal .none (kStore 2 (.tmp 16) (.tmp 49)) oNil)))))))))))
def K5r6:OpsF:=(oVal (.tmp 50) (kMove (.tmp 0)) (oCall (.tmp 51) (.con (.func 22 [] [])) [(.tmp 50),(.con (.int .i64 4))] oNil))
def K5r7:OpsF:=(oVal (.tmp 52) (kBuild [(.int .i64 0),(.int .i64 0)] []) (oVal .none (kStore 2 (.tmp 16) (.tmp 52)) oNil))
def K5r8:OpsF:=(oEnd [(54,62),(54,16)] (oVal (.tmp 53) (kUn (fadA 0) (.tmp 13)) (oVal (.tmp 54) (kLoad none (.tmp 53)) (oVal (.tmp 55) (kMove (.tmp 0)) (oVal (.tmp 56) (kBuildSlice [(.int .i64 0),(.int .i64 0),(.int .i64 0)] 3 [(0,1,(.con (.int .i64 5))),(1,1,(.con (.int .i64 500))),(2,1,(.con (.int .i64 1000)))]) (oCallT (some [53,16,62,16]) (.tmp 57) (.con (.func 21 [] [])) [(.tmp 55),(.tmp 56)] (oVal (.tmp 58) (kLoad (some 2) (.tmp 16)) (oVal (.tmp 59) (kBuild [(.int .i64 0),(.int .i64 0),(.int .i64 0)] [(0,1,(.tmp 57)),(1,2,(.tmp 58))]) (oVal (.tmp 60) (kBuildSlice [(.int .i64 0),(.int .i64 0),(.int .i64 0)] 1 [(0,3,(.tmp 59))]) (oVal (.tmp 61) (kTwo (appendA false 3 24 (tag 65)) (.tmp 54) (.tmp 60)) (oVal (.tmp 62) (kUn (fadA 0) (.tmp 14)) (oVal (.tmp 63) (kLoad none (.tmp 62)) (oVal (.tmp 64) (kMove (.tmp 0)) (oVal (.tmp 65) (kLoad (some 2) (.tmp 16)) (oCallT (some [62]) (.tmp 66) (.con (.func 23 [] [])) [(.tmp 64),(.tmp 65)] (oVal (.tmp 67) (kBuildSlice [(.int .i64 0)] 1 [(0,1,(.tmp 66))]) (oVal (.tmp 68) (kTwo (appendA false 1 8 (tag 3)) (.tmp 63) (.tmp 67)) (oVal (.tmp 69) (kUn (fadA 0) (.tmp 13)) (oVal .none (kStore 1 (.tmp 69) (.tmp 61)) (oVal (.tmp 70) (kUn (fadA 0) (.tmp 14)) (oVal .none (kStore 1 (.tmp 70) (.tmp 68)) oNil)))))))))))))))))))))
def K5r9:OpsF:=(oVal (.tmp 39) (kMove (.tmp 15)) (oVal (.tmp 40) (kInt aSub (.tmp 39) (.con (.int .i64 1))) (oVal (.tmp 15) (kMove (.tmp 40)) oNil)))
def K5l0:K:=(kSeq (kSeq (kRegion K5r4 [38]) (kCond (.tmp 38) kSkip (kExit 0))) (kSeq (kBlock 1 (kSeq (kRegion K5r5 [16]) (kSeq (kSeq (kRegion K5r6 [51]) (kCond (.tmp 51) (kRegion K5r7 []) kSkip)) (kRegionD K5r8 [])))) (kRegion K5r9 [15])))
def K5r10:OpsF:=(oVal (.tmp 71) (kMove (.tmp 0)) (oVal (.tmp 72) (kMove (.tmp 2)) (oCall (.tmp 73) (.con (.func 19 [] [])) [(.tmp 71),(.con (.int .i64 1)),(.tmp 72)] (oVal (.tmp 17) (kMove (.tmp 73)) oNil))))
def K5r11:OpsF:=(oVal (.tmp 74) (kMove (.tmp 17)) (oVal (.tmp 75) (kGtr (.tmp 74) (.con (.int .i64 0))) oNil))
def K5r12:OpsF:=(oVal (.tmp 78) (kMove (.tmp 0)) (oVal (.tmp 79) (kMove (.tmp 0)) (oVal (.tmp 80) (kBuildSlice [(.int .i64 0),(.int .i64 0)] 2 [(0,1,(.con (.int .i64 2))),(1,1,(.con (.int .i64 9)))]) (oCall (.tmp 81) (.con (.func 21 [] [])) [(.tmp 79),(.tmp 80)] (oVal (.tmp 82) (kUn negA (.tmp 81)) (oVal (.tmp 83) (kMove (.tmp 0)) (oVal (.tmp 84) (kBuildSlice [(.int .i64 0),(.int .i64 0)] 2 [(0,1,(.con (.int .i64 2))),(1,1,(.con (.int .i64 9)))]) (oCall (.tmp 85) (.con (.func 21 [] [])) [(.tmp 83),(.tmp 84)] (oCall (.tmp 86) (.con (.func 20 [] [])) [(.tmp 78),(.tmp 82),(.tmp 85)] (oVal (.tmp 87) (kMove (.tmp 0)) (oVal (.tmp 88) (kMove (.tmp 0)) (oVal (.tmp 89) (kBuildSlice [(.int .i64 0),(.int .i64 0)] 2 [(0,1,(.con (.int .i64 0))),(1,1,(.con (.int .i64 3)))]) (oCall (.tmp 90) (.con (.func 21 [] [])) [(.tmp 88),(.tmp 89)] (oCall (.tmp 91) (.con (.func 20 [] [])) [(.tmp 87),(.con (.int .i64 (-2))),(.tmp 90)] (oVal (.tmp 92) (kBuild [(.int .i64 0),(.int .i64 0),(.int .i64 0),(.int .i64 0)] [(0,2,(.tmp 86)),(2,2,(.tmp 91))]) (oVal (.tmp 18) (kAlloc [(.int .i64 0),(.int .i64 0),(.int .i64 0),(.int .i64 0)] (tag 68)) (oVal .none (kStore 4 (.tmp 18) (.tmp 92)) oNil)))))))))))))))))
def K5r13:OpsF:=(oVal (.tmp 93) (kMove (.tmp 0)) (oVal (.tmp 94) (kUn (fadA 0) (.tmp 18)) (oVal (.tmp 95) (kLoad (some 2) (.tmp 94)) (oCall (.tmp 96) (.con (.func 23 [] [])) [(.tmp 93),(.tmp 95)] (oVal (.tmp 97) (kBuildSlice [(.int .i64 0)] 1 [(0,1,(.tmp 96))]) (oVal (.tmp 19) (kMove (.tmp 97)) oNil))))))
def K5r14:OpsF:=(oVal (.tmp 20) (kMove (.con (.int .i64 0))) oNil)
def K5r15:OpsF:=(oVal (.tmp 98) (kMove (.tmp 20)) (oVal (.tmp 99) (kUn (fadA 4) (.tmp 13)) (oVal (.tmp 100) (kLoad none (.tmp 99)) (oVal (.tmp 101) (kInt aLss (.tmp 98) (.tmp 100)) oNil))))
def K5r16:OpsF:=(oEnd [] (oVal (.tmp 104) (kMove (.tmp 19)) (oVal (.tmp 105) (kMove (.tmp 19)) (oVal (.tmp 106) (kMove (.tmp 20)) (oVal (.tmp 107) (kTwo (ixsA 1) (.tmp 105) (.tmp 106)) (oVal (.tmp 108) (kLoad none (.tmp 107)) (oVal (.tmp 109) (kMove (.tmp 0)) (oVal (.tmp 110) (kUn (fadA 2) (.tmp 18)) (oVal (.tmp 111) (kLoad (some 2) (.tmp 110)) (oCallT (some [107]) (.tmp 112) (.con (.func 23 [] [])) [(.tmp 109),(.tmp 111)] (oVal (.tmp 113) (kInt aAdd (.tmp 108) (.tmp 112)) (oVal (.tmp 114) (kBuildSlice [(.int .i64 0)] 1 [(0,1,(.tmp 113))]) (oVal (.tmp 115) (kTwo (appendA false 1 8 (tag 3)) (.tmp 104) (.tmp 114)) (oVal (.tmp 19) (kMove (.tmp 115)) oNil))))))))))))))
def K5r17:OpsF:=(oVal (.tmp 102) (kMove (.tmp 20)) (oVal (.tmp 103) (kInt aAdd (.tmp 102) (.con (.int .i64 1))) (oVal (.tmp 20) (kMove (.tmp 103)) oNil)))
def K5l1:K:=(kSeq (kSeq (kRegion K5r15 [101]) (kCond (.tmp 101) kSkip (kExit 4))) (kSeq (kBlock 5 (kRegionD K5r16 [19])) (kRegion K5r17 [20])))
def K5r18:OpsF:=(oEnd [(117,121)] (oVal (.tmp 116) (kUn (fadA 2) (.tmp 13)) (oVal (.tmp 117) (kLoad none (.tmp 116)) (oVal (.tmp 118) (kLoad (some 4) (.tmp 18)) (oVal (.tmp 119) (kBuildSlice [(.int .i64 0),(.int .i64 0),(.int .i64 0),(.int .i64 0)] 1 [(0,4,(.tmp 118))]) (oVal (.tmp 120) (kTwo (appendA false 4 32 (tag 68)) (.tmp 117) (.tmp 119)) (oVal (.tmp 121) (kUn (fadA 1) (.tmp 14)) (oVal (.tmp 122) (kLoad none (.tmp 121)) (oVal (.tmp 123) (kMove (.tmp 19)) (oVal (.tmp 124) (kBuildSlice [.nilslice] 1 [(0,1,(.tmp 123))]) (oVal (.tmp 125) (kTwo (appendA false 1 24 (tag 22)) (.tmp 122) (.tmp 124)) (oVal (.tmp 126) (kUn (fadA 2) (.tmp 13)) (oVal .none (kStore 1 (.tmp 126) (.tmp 120)) (oVal (.tmp 127) (kUn (fadA 1) (.tmp 14)) (oVal .none (kStore 1 (.tmp 127) (.tmp 125)) oNil)))))))))))))))
def K5r19:OpsF:=(oVal (.tmp 76) (kMove (.tmp 17)) (oVal (.tmp 77) (kInt aSub (.tmp 76) (.con (.int .i64 1))) (oVal (.tmp 17) (kMove (.tmp 77)) oNil)))
def K5l2:K:=(kSeq (kSeq (kRegion K5r11 [75]) (kCond (.tmp 75) kSkip (kExit 2))) (kSeq (kBlock 3 (kSeq (kRegion K5r12 [18]) (kSeq (kRegion K5r13 [19]) (kSeq (kSeq (kRegion K5r14 [20]) (kBlock 4 (kLoop K5l1))) (kRegionD K5r18 []))))) (kRegion K5r19 [17])))
def K5r20:OpsF:=(oVal (.tmp 128) (kMove (.tmp 0)) (oVal (.tmp 129) (kMove (.tmp 3)) (oVal (.tmp 130) (kInt aAdd (.tmp 129) (.con (.int .i64 1))) (oCall (.tmp 131) (.con (.func 18 [] [])) [(.tmp 128),(.tmp 130)] (oVal (.tmp 21) (kMove (.tmp 131)) oNil)))))
def K5r21s7:OpsF:=(oVal (.tmp 139) (kPick (.tmp 134) (.tmp 138) (.con (.bool false))) oNil)
def K5r21s6:OpsF:=(oIf 134 true (oVal (.tmp 138) (kGtr (.tmp 137) (.con (.int .i64 1))) K5r21s7) (oSkip (.tmp 138) K5r21s7))
def K5r21s5:OpsF:=(oIf 134 true (oVal (.tmp 137) (kUn lenSlA (.tmp 136)) K5r21s6) (oSkip (.tmp 137) K5r21s6))
def K5r21s4:OpsF:=(oIf 134 true (oVal (.tmp 136) (kLoad none (.tmp 135)) K5r21s5) (oSkip (.tmp 136) K5r21s5))
def K5r21:OpsF:=(oVal (.tmp 132) (kMove (.tmp 21)) (oVal (.tmp 133) (kGtr (.tmp 132) (.con (.int .i64 0))) (oVal (.tmp 134) (kMove (.tmp 133)) (oIf 134 true (oVal (.tmp 135) (kUn (fadA 0) (.tmp 13)) K5r21s4) (oSkip (.tmp 135) K5r21s4)))))
def K5r22:OpsF:=(oVal (.tmp 142) (kMove (.tmp 0)) (oVal (.tmp 143) (kUn (fadA 0) (.tmp 13)) (oVal (.tmp 144) (kLoad none (.tmp 143)) (oVal (.tmp 145) (kUn lenSlA (.tmp 144)) (oCall (.tmp 146) (.con (.func 18 [] [])) [(.tmp 142),(.tmp 145)] (oVal (.tmp 22) (kMove (.tmp 146)) oNil))))))
def K5r23:OpsF:=(oEnd [] (oVal (.tmp 147) (kMove (.tmp 22)) (oVal (.tmp 148) (kMove (.tmp 0)) (oVal (.tmp 149) (kUn (fadA 0) (.tmp 13)) (oVal (.tmp 150) (kLoad none (.tmp 149)) (oVal (.tmp 151) (kUn lenSlA (.tmp 150)) (oVal (.tmp 152) (kInt aSub (.tmp 151) (.con (.int .i64 1))) (oCallT (some [155,156]) (.tmp 153) (.con (.func 19 [] [])) [(.tmp 148),(.con (.int .i64 1)),(.tmp 152)] (oVal (.tmp 154) (kInt aAdd (.tmp 147) (.tmp 153)) (oVal (.tmp 155) (kUn (fadA 0) (.tmp 13)) (oVal (.tmp 156) (kLoad none (.tmp 155)) (oVal (.tmp 157) (kUn lenSlA (.tmp 156)) (oCall (.tmp 158) (.con (.func 24 [] [])) [(.tmp 154),(.tmp 157)] (oVal (.tmp 23) (kMove (.tmp 158)) oNil))))))))))))))
def K5r24:OpsF:=(oEnd [] (oVal (.tmp 159) (kUn (fadA 0) (.tmp 14)) (oVal (.tmp 160) (kLoad none (.tmp 159)) (oVal (.tmp 161) (kMove (.tmp 22)) (oVal (.tmp 162) (kTwo (ixsA 1) (.tmp 160) (.tmp 161)) (oVal (.tmp 163) (kLoad none (.tmp 162)) (oVal (.tmp 164) (kUn (fadA 0) (.tmp 14)) (oVal (.tmp 165) (kLoad none (.tmp 164)) (oVal (.tmp 166) (kMove (.tmp 23)) (oVal (.tmp 167) (kTwo (ixsA 1) (.tmp 165) (.tmp 166)) (oVal (.tmp 168) (kLoad none (.tmp 167)) (oVal (.tmp 169) (kInt aSub (.tmp 163) (.tmp 168)) (oVal (.tmp 24) (kMove (.tmp 169)) oNil)))))))))))))
def K5r25:OpsF:=(oEnd [] (oVal (.tmp 170) (kUn (fadA 1) (.tmp 13)) (oVal (.tmp 171) (kLoad none (.tmp 170)) (oVal (.tmp 172) (kMove (.tmp 22)) (oVal (.tmp 173) (kMove (.tmp 23)) (oVal (.tmp 174) (kMove (.tmp 24)) (oVal (.tmp 175) (kMove (.tmp 0)) (oCallT (some [170]) (.tmp 176) (.con (.func 18 [] [])) [(.tmp 175),(.con (.int .i64 4))] (oVal (.tmp 177) (kInt aSub (.tmp 174) (.tmp 176)) (oVal (.tmp 178) (kMove (.tmp 24)) (oVal (.tmp 179) (kMove (.tmp 0)) (oCallT (some [170]) (.tmp 180) (.con (.func 18 [] [])) [(.tmp 179),(.con (.int .i64 4))] (oVal (.tmp 181) (kInt aAdd (.tmp 178) (.tmp 180)) (oVal (.tmp 182) (kBuild [(.int .i64 0),(.int .i64 0)] [(0,1,(.tmp 177)),(1,1,(.tmp 181))]) (oVal (.tmp 183) (kBuild [(.int .i64 0),(.int .i64 0),(.int .i64 0),(.int .i64 0)] [(0,1,(.tmp 172)),(1,1,(.tmp 173)),(2,2,(.tmp 182))]) (oVal (.tmp 184) (kBuildSlice [(.int .i64 0),(.int .i64 0),(.int .i64 0),(.int .i64 0)] 1 [(0,4,(.tmp 183))]) (oVal (.tmp 185) (kTwo (appendA false 4 32 (tag 70)) (.tmp 171) (.tmp 184)) (oVal (.tmp 186) (kUn (fadA 1) (.tmp 13)) (oVal .none (kStore 1 (.tmp 186) (.tmp 185)) oNil)))))))))))))))))))
def K5r26:OpsF:=(oVal (.tmp 140) (kMove (.tmp 21)) (oVal (.tmp 141) (kInt aSub (.tmp 140) (.con (.int .i64 1))) (oVal (.tmp 21) (kMove (.tmp 141)) oNil)))
def K5l3:K:=(kSeq (kSeq (kRegion K5r21 [139]) (kCond (.tmp 139) kSkip (kExit 6))) (kSeq (kBlock 7 (kSeq (kRegion K5r22 [22]) (kSeq (kRegionD K5r23 [23]) (kSeq (kRegionD K5r24 [24]) (kRegionD K5r25 []))))) (kRegion K5r26 [21])))
def K5r27:OpsF:=(oVal (.tmp 187) (kMove (.tmp 0)) (oVal (.tmp 188) (kMove (.tmp 3)) (oVal (.tmp 189) (kInt aAdd (.tmp 188) (.con (.int .i64 1))) (oCall (.tmp 190) (.con (.func 18 [] [])) [(.tmp 187),(.tmp 189)] (oVal (.tmp 25) (kMove (.tmp 190)) oNil)))))
def K5r28:OpsF:=(oVal (.tmp 191) (kMove (.tmp 25)) (oVal (.tmp 192) (kGtr (.tmp 191) (.con (.int .i64 0))) oNil))
def K5r29:OpsF:=(oEnd [] (oVal (.tmp 195) (kMove (.tmp 0)) (oVal (.tmp 196) (kUn (fadA 2) (.tmp 13)) (oVal (.tmp 197) (kLoad none (.tmp 196)) (oVal (.tmp 198) (kUn lenSlA (.tmp 197)) (oCallT (some [201,206,207]) (.tmp 199) (.con (.func 18 [] [])) [(.tmp 195),(.tmp 198)] (oVal (.tmp 200) (kMove (.tmp 0)) (oVal (.tmp 201) (kUn (fadA 4) (.tmp 13)) (oVal (.tmp 202) (kLoad none (.tmp 201)) (oVal (.tmp 203) (kInt aAdd (.tmp 202) (.con (.int .i64 1))) (oCallT (some [206,207]) (.tmp 204) (.con (.func 18 [] [])) [(.tmp 200),(.tmp 203)] (oVal (.tmp 205) (kMove (.tmp 0)) (oVal (.tmp 206) (kUn (fadA 0) (.tmp 13)) (oVal (.tmp 207) (kLoad none (.tmp 206)) (oVal (.tmp 208) (kUn lenSlA (.tmp 207)) (oCall (.tmp 209) (.con (.func 18 [] [])) [(.tmp 205),(.tmp 208)] (oVal (.tmp 210) (kBuild [(.int .i64 0),(.int .i64 0),(.int .i64 0),(.int .i64 0)] [(0,1,(.tmp 199)),(1,1,(.tmp 204)),(2,1,(.tmp 209))]) (oVal (.tmp 26) (kAlloc [(.int .i64 0),(.int .i64 0),(.int .i64 0),(.int .i64 0)] (tag 72)) (oVal .none (kStore 4 (.tmp 26) (.tmp 210)) oNil)))))))))))))))))))
def K5r30:OpsF:=(oEnd [] (oVal (.tmp 211) (kUn (fadA 0) (.tmp 13)) (oVal (.tmp 212) (kLoad none (.tmp 211)) (oVal (.tmp 213) (kUn (fadA 2) (.tmp 26)) (oVal (.tmp 214) (kLoad none (.tmp 213)) (oVal (.tmp 215) (kTwo (ixsA 3) (.tmp 212) (.tmp 214)) (oVal (.tmp 216) (kUn (fadA 0) (.tmp 215)) (oVal (.tmp 217) (kLoad none (.tmp 216)) (oVal (.tmp 218) (kUn (fadA 0) (.tmp 14)) (oVal (.tmp 219) (kLoad none (.tmp 218)) (oVal (.tmp 220) (kUn (fadA 2) (.tmp 26)) (oVal (.tmp 221) (kLoad none (.tmp 220)) (oVal (.tmp 222) (kTwo (ixsA 1) (.tmp 219) (.tmp 221)) (oVal (.tmp 223) (kLoad none (.tmp 222)) (oVal (.tmp 224) (kInt aAdd (.tmp 217) (.tmp 223)) (oVal (.tmp 225) (kUn (fadA 1) (.tmp 14)) (oVal (.tmp 226) (kLoad none (.tmp 225)) (oVal (.tmp 227) (kUn (fadA 0) (.tmp 26)) (oVal (.tmp 228) (kLoad none (.tmp 227)) (oVal (.tmp 229) (kTwo (ixsA 1) (.tmp 226) (.tmp 228)) (oVal (.tmp 230) (kLoad none (.tmp 229)) (oVal (.tmp 231) (kUn (fadA 1) (.tmp 26)) (oVal (.tmp 232) (kLoad none (.tmp 231)) (oVal (.tmp 233) (kTwo (ixsA 1) (.tmp 230) (.tmp 232)) (oVal (.tmp 234) (kLoad none (.tmp 233)) (oVal (.tmp 235) (kInt aAdd (.tmp 224) (.tmp 234)) (oVal (.tmp 236) (kFold maxA (.con (.int .i64 0)) [(.tmp 235)]) (oVal (.tmp 237) (kUn (fadA 3) (.tmp 26)) (oVal .none (kStore 1 (.tmp 237) (.tmp 236)) oNil)))))))))))))))))))))))))))))
def K5r31:OpsF:=(oVal (.tmp 238) (kUn (fadA 3) (.tmp 13)) (oVal (.tmp 239) (kLoad none (.tmp 238)) (oVal (.tmp 240) (kLoad (some 4) (.tmp 26)) (oVal (.tmp 241) (kBuildSlice [(.int .i64 0),(.int .i64 0),(.int .i64 0),(.int .i64 0)] 1 [(0,4,(.tmp 240))]) (oVal (.tmp 242) (kTwo (appendA false 4 32 (tag 72)) (.tmp 239) (.tmp 241)) (oVal (.tmp 243) (kUn (fadA 3) (.tmp 13)) (oVal .none (kStore 1 (.tmp 243) (.tmp 242)) oNil)))))))
def K5r32:OpsF:=(oVal (.tmp 193) (kMove (.tmp 25)) (oVal (.tmp 194) (kInt aSub (.tmp 193) (.con (.int .i64 1))) (oVal (.tmp 25) (kMove (.tmp 194)) oNil)))
def K5l4:K:=(kSeq (kSeq (kRegion K5r28 [192]) (kCond (.tmp 192) kSkip (kExit 8))) (kSeq (kBlock 9 (kSeq (kRegionD K5r29 [26]) (kSeq (kRegionD K5r30 []) (kRegion K5r31 [])))) (kRegion K5r32 [25])))
def K5r33:OpsF:=(oVal (.tmp 244) (kLoad (some 5) (.tmp 13)) (oVal (.tmp 245) (kLoad (some 2) (.tmp 14)) (oCall (.tmp 246) (.con (.func 25 [] [])) [(.tmp 244),(.tmp 245)] (oVal (.tmp 27) (kMove (.tmp 246)) oNil))))
def K5r34s7:OpsF:=(oVal (.tmp 254) (kPick (.tmp 251) (.tmp 253) (.con (.bool false))) oNil)
def K5r34s6:OpsF:=(oIf 251 true (oCall (.tmp 253) (.con (.func 22 [] [])) [(.tmp 252),(.con (.int .i64 4))] K5r34s7) (oSkip (.tmp 253) K5r34s7))
def K5r34:OpsF:=(oVal (.tmp 247) (kUn (fadA 3) (.tmp 13)) (oVal (.tmp 248) (kLoad none (.tmp 247)) (oVal (.tmp 249) (kUn lenSlA (.tmp 248)) (oVal (.tmp 250) (kGtr (.tmp 249) (.con (.int .i64 0))) (oVal (.tmp 251) (kMove (.tmp 250)) (oIf 251 true (oVal (.tmp 252) (kMove (.tmp 0)) K5r34s6) (oSkip (.tmp 252) K5r34s6)))))))
def K5r35:OpsF:=(oEnd [] (oVal (.tmp 255) (kUn (fadA 3) (.tmp 13)) (oVal (.tmp 256) (kLoad none (.tmp 255)) (oVal (.tmp 257) (kMove (.tmp 0)) (oVal (.tmp 258) (kUn (fadA 3) (.tmp 13)) (oVal (.tmp 259) (kLoad none (.tmp 258)) (oVal (.tmp 260) (kUn lenSlA (.tmp 259)) (oCallT (some [255]) (.tmp 261) (.con (.func 18 [] [])) [(.tmp 257),(.tmp 260)] (oVal (.tmp 262) (kTwo (ixsA 4) (.tmp 256) (.tmp 261)) (oVal (.tmp 28) (kMove (.tmp 262)) oNil))))))))))
def K5r36:OpsF:=(oEnd [] (oVal (.tmp 263) (kMove (.tmp 28)) (oVal (.tmp 264) (kMove (.tmp 28)) (oVal (.tmp 265) (kUn nilA (.tmp 264)) (oVal (.tmp 266) (kUn (fadA 3) (.tmp 265)) (oVal (.tmp 267) (kLoad none (.tmp 266)) (oVal (.tmp 268) (kMove (.tmp 0)) (oCallT (some [266]) (.tmp 269) (.con (.func 19 [] [])) [(.tmp 268),(.con (.int .i64 (-9))),(.con (.int .i64 9))] (oVal (.tmp 270) (kInt aAdd (.tmp 267) (.tmp 269)) (oVal (.tmp 271) (kFold maxA (.con (.int .i64 0)) [(.tmp 270)]) (oVal (.tmp 272) (kUn nilA (.tmp 263)) (oVal (.tmp 273) (kUn (fadA 3) (.tmp 272)) (oVal .none (kStore 1 (.tmp 273) (.tmp 271)) oNil)))))))))))))
def K5r37:OpsF:=(oVal (.tmp 274) (kLoad (some 5) (.tmp 13)) (oVal (.tmp 275) (kLoad (some 2) (.tmp 14)) (oCall (.tmp 276) (.con (.func 25 [] [])) [(.tmp 274),(.tmp 275)] (oVal (.tmp 27) (kMove (.tmp 276)) oNil))))
def K5r38:OpsF:=(oEnd [(10,14)] (oVal (.tmp 277) (kLoad (some 5) (.tmp 13)) (oVal (.tmp 278) (kLoad (some 2) (.tmp 14)) (oVal (.tmp 279) (kMove (.tmp 27)) (oVal .none (kStore 5 (.tmp 10) (.tmp 277)) (oVal .none (kStore 2 (.tmp 11) (.tmp 278)) (oVal (.tmp 12) (kMove (.tmp 279)) oNil)))))))
theorem res5:Try.f5.results.toList=[.cell 10 28,.cell 11 31,.tmp 12]:=by kernel_rfl
def K5:K:=(kSeq (kRegion K5r0 [10,11,12]) (kSeq (kRegion K5r1 [13]) (kSeq (kRegion K5r2 [14]) (kSeq (kSeq (kRegion K5r3 [15]) (kBlock 0 (kLoop K5l0))) (kSeq (kSeq (kRegion K5r10 [17]) (kBlock 2 (kLoop K5l2))) (kSeq (kSeq (kRegion K5r20 [21]) (kBlock 6 (kLoop K5l3))) (kSeq (kSeq (kRegion K5r27 [25]) (kBlock 8 (kLoop K5l4))) (kSeq (kRegion K5r33 [27]) (kSeq (kSeq (kRegion K5r34 [254]) (kCond (.tmp 254) (kSeq (kRegionD K5r35 [28]) (kSeq (kRegionD K5r36 []) (kRegion K5r37 [27]))) kSkip)) (kSeq (kRegionD K5r38 [12]) kRet))))))))))
theorem enter5 (cl:CallF) (a0 a1 a2 a3 a4:AV) (s:St):enterA Try.prog X cl 5 [a0,a1,a2,a3,a4] s Try.f5=finA Try.prog Try.f5 (K5 cl ⟨5,none,Try.f5.ntmps,X 5⟩ (paramsEnv 0 [a0,a1,a2,a3,a4] .nil) [] s) :=
  enterA_eq (b:=Try.f5.body.getD .skip) (by kernel_rfl) (by kernel_rfl) (by kernel_rfl) (by kernel_rfl) (by kernel_rfl)
def K24r0:OpsF:=(oVal (.tmp 4) (kMove (.con (.int .i64 0))) oNil)
def K24r1:OpsF:=(oVal (.tmp 5) (kMove (.tmp 1)) (oVal (.tmp 6) (kInt aLss (.tmp 5) (.con (.int .i64 2))) oNil))
def K24r2:OpsF:=(oVal (.tmp 4) (kMove (.con (.int .i64 0))) oNil)
def K24r3:OpsF:=(oVal (.tmp 7) (kMove (.tmp 0)) (oVal (.tmp 8) (kMove (.tmp 1)) (oVal (.tmp 9) (kInt aRem (.tmp 7) (.tmp 8)) (oVal (.tmp 0) (kMove (.tmp 9)) oNil))))
def K24r4:OpsF:=(oVal (.tmp 10) (kMove (.tmp 0)) (oVal (.tmp 11) (kInt aLss (.tmp 10) (.con (.int .i64 0))) oNil))
def K24r5:OpsF:=(oVal (.tmp 12) (kMove (.tmp 0)) (oVal (.tmp 13) (kMove (.tmp 1)) (oVal (.tmp 14) (kInt aAdd (.tmp 12) (.tmp 13)) (oVal (.tmp 4) (kMove (.tmp 14)) oNil))))
def K24r6:OpsF:=(oVal (.tmp 15) (kMove (.tmp 0)) (oVal (.tmp 4) (kMove (.tmp 15)) oNil))
theorem res24:Try.f24.results.toList=[.tmp 4]:=by kernel_rfl
def K24:K:=(kSeq (kRegion K24r0 [4]) (kSeq (kSeq (kRegion K24r1 [6]) (kCond (.tmp 6) (kSeq (kRegion K24r2 [4]) kRet) kSkip)) (kSeq (kRegion K24r3 [0]) (kSeq (kSeq (kRegion K24r4 [11]) (kCond (.tmp 11) (kSeq (kRegion K24r5 [4]) kRet) kSkip)) (kSeq (kRegion K24r6 [4]) kRet)))))
theorem enter24 (cl:CallF) (a0 a1:AV) (s:St):enterA Try.prog X cl 24 [a0,a1] s Try.f24=finA Try.prog Try.f24 (K24 cl ⟨24,none,Try.f24.ntmps,X 24⟩ (paramsEnv 0 [a0,a1] .nil) [] s) :=
  enterA_eq (b:=Try.f24.body.getD .skip) (by kernel_rfl) (by kernel_rfl) (by kernel_rfl) (by kernel_rfl) (by kernel_rfl)
def K25r0:OpsF:=(oVal (.tmp 2) (kBox (tag 28) (.tmp 0)) (oVal (.tmp 3) (kBox (tag 31) (.tmp 1)) (oVal (.tmp 4) (kMove (.con (.bool false))) oNil)))
def K25r1:OpsF:=(oVal (.tmp 5) (kMove (.con (.int .i64 0))) oNil)
def K25r2:OpsF:=(oVal (.tmp 9) (kMove (.tmp 5)) (oVal (.tmp 10) (kUn (fadA 1) (.tmp 2)) (oVal (.tmp 11) (kLoad none (.tmp 10)) (oVal (.tmp 12) (kUn lenSlA (.tmp 11)) (oVal (.tmp 13) (kInt aLss (.tmp 9) (.tmp 12)) oNil)))))
def K25r3:OpsF:=(oVal (.tmp 16) (kUn (fadA 1) (.tmp 2)) (oVal (.tmp 17) (kLoad none (.tmp 16)) (oVal (.tmp 18) (kMove (.tmp 5)) (oVal (.tmp 19) (kTwo (ixsA 4) (.tmp 17) (.tmp 18)) (oVal (.tmp 20) (kLoad (some 4) (.tmp 19)) (oVal (.tmp 6) (kAlloc [(.int .i64 0),(.int .i64 0),(.int .i64 0),(.int .i64 0)] (tag 70)) (oVal .none (kStore 4 (.tmp 6) (.tmp 20)) oNil)))))))
def K25r4:OpsF:=(oEnd [] (oVal (.tmp 21) (kUn (fadA 2) (.tmp 6)) (oVal (.tmp 22) (kLoad (some 2) (.tmp 21)) (oVal (.tmp 23) (kUn (fadA 0) (.tmp 3)) (oVal (.tmp 24) (kLoad none (.tmp 23)) (oVal (.tmp 25) (kUn (fadA 0) (.tmp 6)) (oVal (.tmp 26) (kLoad none (.tmp 25)) (oVal (.tmp 27) (kTwo (ixsA 1) (.tmp 24) (.tmp 26)) (oVal (.tmp 28) (kLoad none (.tmp 27)) (oVal (.tmp 29) (kUn (fadA 0) (.tmp 3)) (oVal (.tmp 30) (kLoad none (.tmp 29)) (oVal (.tmp 31) (kUn (fadA 1) (.tmp 6)) (oVal (.tmp 32) (kLoad none (.tmp 31)) (oVal (.tmp 33) (kTwo (ixsA 1) (.tmp 30) (.tmp 32)) (oVal (.tmp 34) (kLoad none (.tmp 33)) (oVal (.tmp 35) (kInt aSub (.tmp 28) (.tmp 34)) (oCall (.tmp 36) (.con (.func 44 [] [])) [(.tmp 22),(.tmp 35)] (oVal (.tmp 37) (kUn notA (.tmp 36)) oNil))))))))))))))))))
def K25r5:OpsF:=(oVal (.tmp 4) (kMove (.con (.bool false))) oNil)
def K25r6:OpsF:=(oVal (.tmp 14) (kMove (.tmp 5)) (oVal (.tmp 15) (kInt aAdd (.tmp 14) (.con (.int .i64 1))) (oVal (.tmp 5) (kMove (.tmp 15)) oNil)))
def K25l0:K:=(kSeq (kSeq (kRegion K25r2 [13]) (kCond (.tmp 13) kSkip (kExit 0))) (kSeq (kBlock 1 (kSeq (kRegion K25r3 [6]) (kSeq (kRegionD K25r4 [37]) (kCond (.tmp 37) (kSeq (kRegion K25r5 [4]) kRet) kSkip)))) (kRegion K25r6 [5])))
def K25r7:OpsF:=(oVal (.tmp 7) (kMove (.con (.int .i64 0))) oNil)
def K25r8:OpsF:=(oVal (.tmp 38) (kMove (.tmp 7)) (oVal (.tmp 39) (kUn (fadA 3) (.tmp 2)) (oVal (.tmp 40) (kLoad none (.tmp 39)) (oVal (.tmp 41) (kUn lenSlA (.tmp 40)) (oVal (.tmp 42) (kInt aLss (.tmp 38) (.tmp 41)) oNil)))))
def K25r9:OpsF:=(oVal (.tmp 45) (kUn (fadA 3) (.tmp 2)) (oVal (.tmp 46) (kLoad none (.tmp 45)) (oVal (.tmp 47) (kMove (.tmp 7)) (oVal (.tmp 48) (kTwo (ixsA 4) (.tmp 46) (.tmp 47)) (oVal (.tmp 49) (kLoad (some 4) (.tmp 48)) (oVal (.tmp 8) (kAlloc [(.int .i64 0),(.int .i64 0),(.int .i64 0),(.int .i64 0)] (tag 72)) (oVal .none (kStore 4 (.tmp 8) (.tmp 49)) oNil)))))))
def K25r10:OpsF:=(oEnd [] (oVal (.tmp 50) (kUn (fadA 3) (.tmp 8)) (oVal (.tmp 51) (kLoad none (.tmp 50)) (oVal (.tmp 52) (kUn (fadA 0) (.tmp 2)) (oVal (.tmp 53) (kLoad none (.tmp 52)) (oVal (.tmp 54) (kUn (fadA 2) (.tmp 8)) (oVal (.tmp 55) (kLoad none (.tmp 54)) (oVal (.tmp 56) (kTwo (ixsA 3) (.tmp 53) (.tmp 55)) (oVal (.tmp 57) (kUn (fadA 0) (.tmp 56)) (oVal (.tmp 58) (kLoad none (.tmp 57)) (oVal (.tmp 59) (kUn (fadA 0) (.tmp 3)) (oVal (.tmp 60) (kLoad none (.tmp 59)) (oVal (.tmp 61) (kUn (fadA 2) (.tmp 8)) (oVal (.tmp 62) (kLoad none (.tmp 61)) (oVal (.tmp 63) (kTwo (ixsA 1) (.tmp 60) (.tmp 62)) (oVal (.tmp 64) (kLoad none (.tmp 63)) (oVal (.tmp 65) (kInt aAdd (.tmp 58) (.tmp 64)) (oVal (.tmp 66) (kUn (fadA 1) (.tmp 3)) (oVal (.tmp 67) (kLoad none (.tmp 66)) (oVal (.tmp 68) (kUn (fadA 0) (.tmp 8)) (oVal (.tmp 69) (kLoad none (.tmp 68)) (oVal (.tmp 70) (kTwo (ixsA 1) (.tmp 67) (.tmp 69)) (oVal (.tmp 71) (kLoad none (.tmp 70)) (oVal (.tmp 72) (kUn (fadA 1) (.tmp 8)) (oVal (.tmp 73) (kLoad none (.tmp 72)) (oVal (.tmp 74) (kTwo (ixsA 1) (.tmp 71) (.tmp 73)) (oVal (.tmp 75) (kLoad none (.tmp 74)) (oVal (.tmp 76) (kInt aAdd (.tmp 65) (.tmp 75)) (oVal (.tmp 77) (kInt aNeq (.tmp 51) (.tmp 76)) oNil)))))))))))))))))))))))))))))
def K25r11:OpsF:=(oVal (.tmp 4) (kMove (.con (.bool false))) oNil)
def K25r12:OpsF:=(oVal (.tmp 43) (kMove (.tmp 7)) (oVal (.tmp 44) (kInt aAdd (.tmp 43) (.con (.int .i64 1))) (oVal (.tmp 7) (kMove (.tmp 44)) oNil)))
def K25l1:K:=(kSeq (kSeq (kRegion K25r8 [42]) (kCond (.tmp 42) kSkip (kExit 2))) (kSeq (kBlock 3 (kSeq (kRegion K25r9 [8]) (kSeq (kRegionD K25r10 [77]) (kCond (.tmp 77) (kSeq (kRegion K25r11 [4]) kRet) kSkip)))) (kRegion K25r12 [7])))
def K25r13:OpsF:=(oVal (.tmp 4) (kMove (.con (.bool true))) oNil)
theorem res25:Try.f25.results.toList=[.tmp 4]:=by kernel_rfl
def K25:K:=(kSeq (kRegion K25r0 [2,3,4]) (kSeq (kSeq (kRegion K25r1 [5]) (kBlock 0 (kLoop K25l0))) (kSeq (kSeq (kRegion K25r7 [7]) (kBlock 2 (kLoop K25l1))) (kSeq (kRegion K25r13 [4]) kRet))))
theorem enter25 (cl:CallF) (a0 a1:AV) (s:St):enterA Try.prog X cl 25 [a0,a1] s Try.f25=finA Try.prog Try.f25 (K25 cl ⟨25,none,Try.f25.ntmps,X 25⟩ (paramsEnv 0 [a0,a1] .nil) [] s) :=
  enterA_eq (b:=Try.f25.body.getD .skip) (by kernel_rfl) (by kernel_rfl) (by kernel_rfl) (by kernel_rfl) (by kernel_rfl)
def K44r0:OpsF:=(oVal (.tmp 2) (kBox (tag 60) (.tmp 0)) (oVal (.tmp 4) (kMove (.con (.bool false))) oNil))
def K44r1s9:OpsF:=(oVal (.tmp 14) (kPick (.tmp 9) (.tmp 13) (.con (.bool false))) (oVal (.tmp 4) (kMove (.tmp 14)) oNil))
def K44r1s8:OpsF:=(oIf 9 true (oVal (.tmp 13) (kInt aLeq (.tmp 10) (.tmp 12)) K44r1s9) (oSkip (.tmp 13) K44r1s9))
def K44r1s7:OpsF:=(oIf 9 true (oVal (.tmp 12) (kLoad none (.tmp 11)) K44r1s8) (oSkip (.tmp 12) K44r1s8))
def K44r1s6:OpsF:=(oIf 9 true (oVal (.tmp 11) (kUn (fadA 1) (.tmp 2)) K44r1s7) (oSkip (.tmp 11) K44r1s7))
def K44r1:OpsF:=(oVal (.tmp 5) (kUn (fadA 0) (.tmp 2)) (oVal (.tmp 6) (kLoad none (.tmp 5)) (oVal (.tmp 7) (kMove (.tmp 1)) (oVal (.tmp 8) (kInt aLeq (.tmp 6) (.tmp 7)) (oVal (.tmp 9) (kMove (.tmp 8)) (oIf 9 true (oVal (.tmp 10) (kMove (.tmp 1)) K44r1s6) (oSkip (.tmp 10) K44r1s6)))))))
theorem res44:Try.f44.results.toList=[.tmp 4]:=by kernel_rfl
def K44:K:=(kSeq (kRegion K44r0 [2,4]) (kSeq (kRegion K44r1 [4]) kRet))
theorem enter44 (cl:CallF) (a0 a1:AV) (s:St):enterA Try.prog X cl 44 [a0,a1] s Try.f44=finA Try.prog Try.f44 (K44 cl ⟨44,none,Try.f44.ntmps,X 44⟩ (paramsEnv 0 [a0,a1] .nil) [] s) :=
  enterA_eq (b:=Try.f44.body.getD .skip) (by kernel_rfl) (by kernel_rfl) (by kernel_rfl) (by kernel_rfl) (by kernel_rfl)
end
end Go.Proofs.Ytoolodjbfphkjaa.code
set_option maxRecDepth 100000
namespace Go.Proofs.Ytoolodjbfphkjaa.code
open Go.Abs
noncomputable section
def K3r2:OpsF:=(oVal (.tmp 24) (kLoad (some 5) (.tmp 3)) (oCall (.tmp 25) (.con (.func 7 [] [])) [(.tmp 24)] (oVal (.tmp 23) (kMove (.tmp 25)) (oVal (.tmp 26) (kUn (extA 0) (.tmp 23)) (oVal (.tmp 27) (kUn (extA 1) (.tmp 23)) (oVal (.tmp 6) (kMove (.tmp 26)) (oVal (.tmp 7) (kMove (.tmp 27)) oNil)))))))
def K3r3:OpsF:=(oVal (.tmp 29) (kLoad (some 5) (.tmp 3)) (oCall (.tmp 30) (.con (.func 8 [] [])) [(.tmp 29)] (oVal (.tmp 28) (kMove (.tmp 30)) (oVal (.tmp 31) (kUn (extA 0) (.tmp 28)) (oVal (.tmp 32) (kUn (extA 1) (.tmp 28)) (oVal (.tmp 8) (kMove (.tmp 31)) (oVal (.tmp 9) (kMove (.tmp 32)) oNil)))))))
def K3r4:OpsF:=(oVal (.tmp 33) (kMove (.tmp 7)) (oVal (.tmp 34) (kInt aEql (.tmp 33) (.con (.int .i64 3))) oNil))
def K3r5s9:OpsF:=(oVal (.tmp 44) (kPick (.tmp 42) (.tmp 43) (.con (.bool false))) (oVal (.tmp 2) (kMove (.tmp 44)) oNil))
def K3r5s6:OpsF:=(oVal (.tmp 41) (kPick (.tmp 37) (.tmp 40) (.con (.bool false))) (oVal (.tmp 42) (kMove (.tmp 41)) (oIf 42 true (oCall (.tmp 43) (.con (.func 9 [] [])) [] K3r5s9) (oSkip (.tmp 43) K3r5s9))))
def K3r5s5:OpsF:=(oIf 37 true (oVal (.tmp 40) (kInt aEql (.tmp 39) (.con (.int .i64 0))) K3r5s6) (oSkip (.tmp 40) K3r5s6))
def K3r5s4:OpsF:=(oIf 37 true (oVal (.tmp 39) (kUn lenSlA (.tmp 38)) K3r5s5) (oSkip (.tmp 39) K3r5s5))
def K3r5:OpsF:=(oVal (.tmp 35) (kMove (.tmp 9)) (oVal (.tmp 36) (kInt aEql (.tmp 35) (.con (.int .i64 0))) (oVal (.tmp 37) (kMove (.tmp 36)) (oIf 37 true (oVal (.tmp 38) (kMove (.tmp 6)) K3r5s4) (oSkip (.tmp 38) K3r5s4)))))
def K3r6:OpsF:=(oVal (.tmp 45) (kUn (fadA 1) (.tmp 3)) (oVal (.tmp 46) (kLoad none (.tmp 45)) (oVal (.tmp 47) (kUn lenSlA (.tmp 46)) (oVal (.tmp 48) (kUn (fadA 3) (.tmp 3)) (oVal (.tmp 49) (kLoad none (.tmp 48)) (oVal (.tmp 50) (kUn lenSlA (.tmp 49)) (oVal (.tmp 51) (kInt aAdd (.tmp 47) (.tmp 50)) (oVal (.tmp 10) (kMove (.tmp 51)) oNil))))))))
def K3r7s16:OpsF:=(oVal (.tmp 68) (kPick (.tmp 63) (.con (.bool true)) (.tmp 67)) oNil)
def K3r7s15:OpsF:=(oIf 63 false (oVal (.tmp 67) (kGtr (.tmp 65) (.tmp 66)) K3r7s16) (oSkip (.tmp 67) K3r7s16))
def K3r7s14:OpsF:=(oIf 63 false (oVal (.tmp 66) (kMove (.tmp 10)) K3r7s15) (oSkip (.tmp 66) K3r7s15))
def K3r7s13:OpsF:=(oIf 63 false (oVal (.tmp 65) (kUn lenSlA (.tmp 64)) K3r7s14) (oSkip (.tmp 65) K3r7s14))
def K3r7s10:OpsF:=(oVal (.tmp 62) (kPick (.tmp 58) (.con (.bool true)) (.tmp 61)) (oVal (.tmp 63) (kMove (.tmp 62)) (oIf 63 false (oVal (.tmp 64) (kMove (.tmp 6)) K3r7s13) (oSkip (.tmp 64) K3r7s13))))
def K3r7s9:OpsF:=(oIf 58 false (oVal (.tmp 61) (kInt aEql (.tmp 60) (.con (.int .i64 0))) K3r7s10) (oSkip (.tmp 61) K3r7s10))
def K3r7s8:OpsF:=(oIf 58 false (oVal (.tmp 60) (kUn lenSlA (.tmp 59)) K3r7s9) (oSkip (.tmp 60) K3r7s9))
def K3r7s5:OpsF:=(oVal (.tmp 57) (kPick (.tmp 54) (.con (.bool true)) (.tmp 56)) (oVal (.tmp 58) (kMove (.tmp 57)) (oIf 58 false (oVal (.tmp 59) (kMove (.tmp 6)) K3r7s8) (oSkip (.tmp 59) K3r7s8))))
def K3r7s4:OpsF:=(oIf 54 false (oVal (.tmp 56) (kInt aNeq (.tmp 55) (.con (.int .i64 9))) K3r7s5) (oSkip (.tmp 56) K3r7s5))
def K3r7:OpsF:=(oVal (.tmp 52) (kMove (.tmp 7)) (oVal (.tmp 53) (kInt aNeq (.tmp 52) (.con (.int .i64 0))) (oVal (.tmp 54) (kMove (.tmp 53)) (oIf 54 false (oVal (.tmp 55) (kMove (.tmp 9)) K3r7s4) (oSkip (.tmp 55) K3r7s4)))))
def K3r8:OpsF:=(oVal (.tmp 2) (kMove (.con (.bool false))) oNil)
def K3r9:OpsF:=(oVal (.tmp 11) (kMove (.con (.int .i64 1))) oNil)
def K3r10:OpsF:=(oVal (.tmp 69) (kMove (.tmp 11)) (oVal (.tmp 70) (kMove (.tmp 6)) (oVal (.tmp 71) (kUn lenSlA (.tmp 70)) (oVal (.tmp 72) (kInt aLeq (.tmp 69) (.tmp 71)) oNil))))
def K3r11:OpsF:=(oVal (.tmp 75) (kMove (.tmp 10)) (oVal (.tmp 76) (kMove (.tmp 11)) (oCall (.tmp 77) (.con (.func 10 [] [])) [(.con (.int .i64 0)),(.tmp 75),(.tmp 76)] (oVal (.tmp 12) (kMove (.tmp 77)) oNil))))
def K3r12:OpsF:=(oVal (.tmp 13) (kMove (.con (.int .i64 0))) oNil)
def K3r13:OpsF:=(oVal (.tmp 78) (kMove (.tmp 13)) (oVal (.tmp 79) (kMove (.tmp 12)) (oVal (.tmp 80) (kUn lenSlA (.tmp 79)) (oVal (.tmp 81) (kInt aLss (.tmp 78) (.tmp 80)) oNil))))
def K3r14:OpsF:=(oEnd [] (oVal (.tmp 85) (kLoad (some 5) (.tmp 3)) (oVal (.tmp 86) (kMove (.tmp 12)) (oVal (.tmp 87) (kMove (.tmp 13)) (oVal (.tmp 88) (kTwo (ixsA 1) (.tmp 86) (.tmp 87)) (oVal (.tmp 89) (kLoad none (.tmp 88)) (oCall (.tmp 90) (.con (.func 11 [] [])) [(.tmp 85),(.tmp 89)] (oCall (.tmp 91) (.con (.func 8 [] [])) [(.tmp 90)] (oVal (.tmp 84) (kMove (.tmp 91)) (oVal (.tmp 92) (kUn (extA 0) (.tmp 84)) (oVal (.tmp 93) (kUn (extA 1) (.tmp 84)) (oVal (.tmp 14) (kMove (.tmp 92)) (oVal (.tmp 15) (kMove (.tmp 93)) oNil)))))))))))))
def K3r15:OpsF:=(oVal (.tmp 94) (kMove (.tmp 12)) (oVal (.tmp 95) (kMove (.tmp 13)) (oVal (.tmp 96) (kTwo (ixsA 1) (.tmp 94) (.tmp 95)) (oVal (.tmp 97) (kLoad none (.tmp 96)) (oVal (.tmp 98) (kMove (.tmp 6)) (oCall (.tmp 99) (.con (.func 12 [] [])) [(.tmp 97),(.tmp 98)] oNil))))))
def K3r16s4:OpsF:=(oVal (.tmp 104) (kPick (.tmp 102) (.tmp 103) (.con (.bool false))) (oVal (.tmp 2) (kMove (.tmp 104)) oNil))
def K3r16:OpsF:=(oVal (.tmp 100) (kMove (.tmp 15)) (oVal (.tmp 101) (kInt aEql (.tmp 100) (.con (.int .i64 9))) (oVal (.tmp 102) (kMove (.tmp 101)) (oIf 102 true (oCall (.tmp 103) (.con (.func 9 [] [])) [] K3r16s4) (oSkip (.tmp 103) K3r16s4)))))
def K3r17:OpsF:=(oVal (.tmp 105) (kMove (.tmp 15)) (oVal (.tmp 106) (kInt aNeq (.tmp 105) (.con (.int .i64 0))) oNil))
def K3r18:OpsF:=(oVal (.tmp 2) (kMove (.con (.bool false))) oNil)
def K3r19:OpsF:=(oVal (.tmp 82) (kMove (.tmp 13)) (oVal (.tmp 83) (kInt aAdd (.tmp 82) (.con (.int .i64 1))) (oVal (.tmp 13) (kMove (.tmp 83)) oNil)))
def K3l0:K:=(kSeq (kSeq (kRegion K3r13 [81]) (kCond (.tmp 81) kSkip (kExit 2))) (kSeq (kBlock 3 (kSeq (kRegionD K3r14 [15]) (kSeq (kSeq (kRegion K3r15 [99]) (kCond (.tmp 99) (kSeq (kRegion K3r16 [2]) kRet) kSkip)) (kSeq (kRegion K3r17 [106]) (kCond (.tmp 106) (kSeq (kRegion K3r18 [2]) kRet) kSkip))))) (kRegion K3r19 [13])))
def K3r20:OpsF:=(oVal (.tmp 73) (kMove (.tmp 11)) (oVal (.tmp 74) (kInt aAdd (.tmp 73) (.con (.int .i64 1))) (oVal (.tmp 11) (kMove (.tmp 74)) oNil)))
def K3l1:K:=(kSeq (kSeq (kRegion K3r10 [72]) (kCond (.tmp 72) kSkip (kExit 0))) (kSeq (kBlock 1 (kSeq (kRegion K3r11 [12]) (kSeq (kRegion K3r12 [13]) (kBlock 2 (kLoop K3l0))))) (kRegion K3r20 [11])))
def K3r21:OpsF:=(oVal (.tmp 2) (kMove (.con (.bool false))) oNil)
theorem res3:Try.f3.results.toList=[.tmp 2]:=by kernel_rfl
end
end Go.Proofs.Ytoolodjbfphkjaa.code
set_option maxRecDepth 100000
namespace Go.Proofs.Ytoolodjbfphkjaa.code
open Go.Abs
noncomputable section
def K11r0:OpsF:=(oVal (.tmp 2) (kBox (tag 28) (.tmp 0)) (oVal (.tmp 4) (kAlloc [.nilslice,.nilslice,.nilslice,.nilslice,(.int .i64 0)] (tag 28)) oNil))
def K11r1:OpsF:=(oVal (.tmp 7) (kLoad (some 5) (.tmp 2)) (oVal (.tmp 5) (kAlloc [.nilslice,.nilslice,.nilslice,.nilslice,(.int .i64 0)] (tag 28)) (oVal .none (kStore 5 (.tmp 5) (.tmp 7)) oNil)))
def K11r2:OpsF:=(oVal (.tmp 8) (kUn (fadA 1) (.tmp 5)) (oVal .none (kStore 1 (.tmp 8) (.con .nilslice)) (oVal (.tmp 9) (kUn (fadA 3) (.tmp 5)) (oVal .none (kStore 1 (.tmp 9) (.con .nilslice)) oNil))))
def K11r3:OpsF:=(oVal (.tmp 6) (kMove (.con (.int .i64 0))) oNil)
def K11r4:OpsF:=(oVal (.tmp 10) (kMove (.tmp 6)) (oVal (.tmp 11) (kMove (.tmp 1)) (oVal (.tmp 12) (kUn lenSlA (.tmp 11)) (oVal (.tmp 13) (kInt aLss (.tmp 10) (.tmp 12)) oNil))))
def K11r5:OpsF:=(oEnd [] (oVal (.tmp 16) (kMove (.tmp 1)) (oVal (.tmp 17) (kMove (.tmp 6)) (oVal (.tmp 18) (kTwo (ixsA 1) (.tmp 16) (.tmp 17)) (oVal (.tmp 19) (kLoad none (.tmp 18)) (oVal (.tmp 20) (kUn (fadA 1) (.tmp 2)) (oVal (.tmp 21) (kLoad none (.tmp 20)) (oVal (.tmp 22) (kUn lenSlA (.tmp 21)) (oVal (.tmp 23) (kInt aLss (.tmp 19) (.tmp 22)) oNil)))))))))
def K11r6:OpsF:=(oEnd [] (oVal (.tmp 24) (kUn (fadA 1) (.tmp 5)) (oVal (.tmp 25) (kLoad none (.tmp 24)) (oVal (.tmp 26) (kUn (fadA 1) (.tmp 2)) (oVal (.tmp 27) (kLoad none (.tmp 26)) (oVal (.tmp 28) (kMove (.tmp 1)) (oVal (.tmp 29) (kMove (.tmp 6)) (oVal (.tmp 30) (kTwo (ixsA 1) (.tmp 28) (.tmp 29)) (oVal (.tmp 31) (kLoad none (.tmp 30)) (oVal (.tmp 32) (kTwo (ixsA 4) (.tmp 27) (.tmp 31)) (oVal (.tmp 33) (kLoad (some 4) (.tmp 32)) (oVal (.tmp 34) (kBuildSlice [(.int .i64 0),(.int .i64 0),(.int .i64 0),(.int .i64 0)] 1 [(0,4,(.tmp 33))]) (oVal (.tmp 35) (kTwo (appendA false 4 32 (tag 70)) (.tmp 25) (.tmp 34)) (oVal (.tmp 36) (kUn (fadA 1) (.tmp 5)) (oVal .none (kStore 1 (.tmp 36) (.tmp 35)) oNil)))))))))))))))
def K11r7:OpsF:=(oEnd [] (oVal (.tmp 37) (kUn (fadA 3) (.tmp 5)) (oVal (.tmp 38) (kLoad none (.tmp 37)) (oVal (.tmp 39) (kUn (fadA 3) (.tmp 2)) (oVal (.tmp 40) (kLoad none (.tmp 39)) (oVal (.tmp 41) (kMove (.tmp 1)) (oVal (.tmp 42) (kMove (.tmp 6)) (oVal (.tmp 43) (kTwo (ixsA 1) (.tmp 41) (.tmp 42)) (oVal (.tmp 44) (kLoad none (.tmp 43)) (oVal (.tmp 45) (kUn (fadA 1) (.tmp 2)) (oVal (.tmp 46) (kLoad none (.tmp 45)) (oVal (.tmp 47) (kUn lenSlA (.tmp 46)) (oVal (.tmp 48) (kInt aSub (.tmp 44) (.tmp 47)) (oVal (.tmp 49) (kTwo (ixsA 4) (.tmp 40) (.tmp 48)) (oVal (.tmp 50) (kLoad (some 4) (.tmp 49)) (oVal (.tmp 51) (kBuildSlice [(.int .i64 0),(.int .i64 0),(.int .i64 0),(.int .i64 0)] 1 [(0,4,(.tmp 50))]) (oVal (.tmp 52) (kTwo (appendA false 4 32 (tag 72)) (.tmp 38) (.tmp 51)) (oVal (.tmp 53) (kUn (fadA 3) (.tmp 5)) (oVal .none (kStore 1 (.tmp 53) (.tmp 52)) oNil)))))))))))))))))))
def K11r8:OpsF:=(oVal (.tmp 14) (kMove (.tmp 6)) (oVal (.tmp 15) (kInt aAdd (.tmp 14) (.con (.int .i64 1))) (oVal (.tmp 6) (kMove (.tmp 15)) oNil)))
def K11l0:K:=(kSeq (kSeq (kRegion K11r4 [13]) (kCond (.tmp 13) kSkip (kExit 0))) (kSeq (kBlock 1 (kSeq (kRegionD K11r5 [23]) (kCond (.tmp 23) (kRegionD K11r6 []) (kRegionD K11r7 [])))) (kRegion K11r8 [6])))
def K11r9:OpsF:=(oVal (.tmp 54) (kLoad (some 5) (.tmp 5)) (oVal .none (kStore 5 (.tmp 4) (.tmp 54)) oNil))
theorem res11:Try.f11.results.toList=[.cell 4 28]:=by kernel_rfl
def K11:K:=(kSeq (kRegion K11r0 [2,4]) (kSeq (kRegion K11r1 [5]) (kSeq (kRegion K11r2 []) (kSeq (kSeq (kRegion K11r3 [6]) (kBlock 0 (kLoop K11l0))) (kSeq (kRegion K11r9 []) kRet)))))
theorem enter11 (cl:CallF) (a0 a1:AV) (s:St):enterA Try.prog X cl 11 [a0,a1] s Try.f11=finA Try.prog Try.f11 (K11 cl ⟨11,none,Try.f11.ntmps,X 11⟩ (paramsEnv 0 [a0,a1] .nil) [] s) :=
  enterA_eq (b:=Try.f11.body.getD .skip) (by kernel_rfl) (by kernel_rfl) (by kernel_rfl) (by kernel_rfl) (by kernel_rfl)
end
end Go.Proofs.Ytoolodjbfphkjaa.code
set_option maxRecDepth 100000
namespace Go.Proofs.Ytoolodjbfphkjaa.code
open Go.Abs
noncomputable section
def K10r0:OpsF:=(oVal (.tmp 6) (kMove (.con .nilslice)) oNil)
def K10r1:OpsF:=(oVal (.tmp 11) (kMove (.tmp 2)) (oVal (.tmp 12) (kInt aEql (.tmp 11) (.con (.int .i64 0))) oNil))
def K10r2:OpsF:=(oVal (.tmp 13) (kBuildSlice [.nilslice] 1 [(0,1,(.con .nilslice))]) (oVal (.tmp 6) (kMove (.tmp 13)) oNil))
def K10r3:OpsF:=(oVal (.tmp 7) (kMove (.con .nilslice)) oNil)
def K10r4:OpsF:=(oVal (.tmp 14) (kMove (.tmp 0)) (oVal (.tmp 8) (kMove (.tmp 14)) oNil))
def K10r5:OpsF:=(oVal (.tmp 15) (kMove (.tmp 8)) (oVal (.tmp 16) (kMove (.tmp 1)) (oVal (.tmp 17) (kInt aLss (.tmp 15) (.tmp 16)) oNil)))
def K10r6:OpsF:=(oVal (.tmp 20) (kMove (.tmp 8)) (oVal (.tmp 21) (kInt aAdd (.tmp 20) (.con (.int .i64 1))) (oVal (.tmp 22) (kMove (.tmp 1)) (oVal (.tmp 23) (kMove (.tmp 2)) (oVal (.tmp 24) (kInt aSub (.tmp 23) (.con (.int .i64 1))) (oCall (.tmp 25) (.con (.func 10 [] [])) [(.tmp 21),(.tmp 22),(.tmp 24)] (oVal (.tmp 9) (kMove (.tmp 25)) oNil)))))))
def K10r7:OpsF:=(oVal (.tmp 10) (kMove (.con (.int .i64 0))) oNil)
def K10r8:OpsF:=(oVal (.tmp 26) (kMove (.tmp 10)) (oVal (.tmp 27) (kMove (.tmp 9)) (oVal (.tmp 28) (kUn lenSlA (.tmp 27)) (oVal (.tmp 29) (kInt aLss (.tmp 26) (.tmp 28)) oNil))))
def K10r9:OpsF:=(oVal (.tmp 32) (kMove (.tmp 7)) (oVal (.tmp 33) (kMove (.tmp 8)) (oVal (.tmp 34) (kBuildSlice [(.int .i64 0)] 1 [(0,1,(.tmp 33))]) (oVal (.tmp 35) (kMove (.tmp 9)) (oVal (.tmp 36) (kMove (.tmp 10)) (oVal (.tmp 37) (kTwo (ixsA 1) (.tmp 35) (.tmp 36)) (oVal (.tmp 38) (kLoad none (.tmp 37)) (oVal (.tmp 39) (kTwo (appendA false 1 8 (tag 3)) (.tmp 34) (.tmp 38)) (oVal (.tmp 40) (kBuildSlice [.nilslice] 1 [(0,1,(.tmp 39))]) (oVal (.tmp 41) (kTwo (appendA false 1 24 (tag 22)) (.tmp 32) (.tmp 40)) (oVal (.tmp 7) (kMove (.tmp 41)) oNil)))))))))))
def K10r10:OpsF:=(oVal (.tmp 30) (kMove (.tmp 10)) (oVal (.tmp 31) (kInt aAdd (.tmp 30) (.con (.int .i64 1))) (oVal (.tmp 10) (kMove (.tmp 31)) oNil)))
def K10l0:K:=(kSeq (kSeq (kRegion K10r8 [29]) (kCond (.tmp 29) kSkip (kExit 2))) (kSeq (kBlock 3 (kRegion K10r9 [7])) (kRegion K10r10 [10])))
def K10r11:OpsF:=(oVal (.tmp 18) (kMove (.tmp 8)) (oVal (.tmp 19) (kInt aAdd (.tmp 18) (.con (.int .i64 1))) (oVal (.tmp 8) (kMove (.tmp 19)) oNil)))
def K10l1:K:=(kSeq (kSeq (kRegion K10r5 [17]) (kCond (.tmp 17) kSkip (kExit 0))) (kSeq (kBlock 1 (kSeq (kRegion K10r6 [9]) (kSeq (kRegion K10r7 [10]) (kBlock 2 (kLoop K10l0))))) (kRegion K10r11 [8])))
def K10r12:OpsF:=(oVal (.tmp 42) (kMove (.tmp 7)) (oVal (.tmp 6) (kMove (.tmp 42)) oNil))
theorem res10:Try.f10.results.toList=[.tmp 6]:=by kernel_rfl
def K10:K:=(kSeq (kRegion K10r0 [6]) (kSeq (kSeq (kRegion K10r1 [12]) (kCond (.tmp 12) (kSeq (kRegion K10r2 [6]) kRet) kSkip)) (kSeq (kRegion K10r3 [7]) (kSeq (kSeq (kRegion K10r4 [8]) (kBlock 0 (kLoop K10l1))) (kSeq (kRegion K10r12 [6]) kRet)))))
theorem enter10 (cl:CallF) (a0 a1 a2:AV) (s:St):enterA Try.prog X cl 10 [a0,a1,a2] s Try.f10=finA Try.prog Try.f10 (K10 cl ⟨10,none,Try.f10.ntmps,X 10⟩ (paramsEnv 0 [a0,a1,a2] .nil) [] s) :=
  enterA_eq (b:=Try.f10.body.getD .skip) (by kernel_rfl) (by kernel_rfl) (by kernel_rfl) (by kernel_rfl) (by kernel_rfl)
def K12r0:OpsF:=(oVal (.tmp 4) (kMove (.con (.bool false))) oNil)
def K12r1:OpsF:=(oVal (.tmp 7) (kMove (.tmp 0)) (oVal (.tmp 8) (kUn lenSlA (.tmp 7)) (oVal (.tmp 9) (kMove (.tmp 1)) (oVal (.tmp 10) (kUn lenSlA (.tmp 9)) (oVal (.tmp 11) (kInt aEql (.tmp 8) (.tmp 10)) (oVal (.tmp 5) (kMove (.tmp 11)) oNil))))))
def K12r2:OpsF:=(oVal (.tmp 6) (kMove (.con (.int .i64 0))) oNil)
def K12r3s6:OpsF:=(oVal (.tmp 18) (kPick (.tmp 13) (.tmp 17) (.con (.bool false))) oNil)
def K12r3s5:OpsF:=(oIf 13 true (oVal (.tmp 17) (kInt aLss (.tmp 14) (.tmp 16)) K12r3s6) (oSkip (.tmp 17) K12r3s6))
def K12r3s4:OpsF:=(oIf 13 true (oVal (.tmp 16) (kUn lenSlA (.tmp 15)) K12r3s5) (oSkip (.tmp 16) K12r3s5))
def K12r3s3:OpsF:=(oIf 13 true (oVal (.tmp 15) (kMove (.tmp 0)) K12r3s4) (oSkip (.tmp 15) K12r3s4))
def K12r3:OpsF:=(oVal (.tmp 12) (kMove (.tmp 5)) (oVal (.tmp 13) (kMove (.tmp 12)) (oIf 13 true (oVal (.tmp 14) (kMove (.tmp 6)) K12r3s3) (oSkip (.tmp 14) K12r3s3))))
def K12r4:OpsF:=(oEnd [] (oVal (.tmp 21) (kMove (.tmp 0)) (oVal (.tmp 22) (kMove (.tmp 6)) (oVal (.tmp 23) (kTwo (ixsA 1) (.tmp 21) (.tmp 22)) (oVal (.tmp 24) (kLoad none (.tmp 23)) (oVal (.tmp 25) (kMove (.tmp 1)) (oVal (.tmp 26) (kMove (.tmp 6)) (oVal (.tmp 27) (kTwo (ixsA 1) (.tmp 25) (.tmp 26)) (oVal (.tmp 28) (kLoad none (.tmp 27)) (oVal (.tmp 29) (kInt aEql (.tmp 24) (.tmp 28)) (oVal (.tmp 5) (kMove (.tmp 29)) oNil)))))))))))
def K12r5:OpsF:=(oVal (.tmp 19) (kMove (.tmp 6)) (oVal (.tmp 20) (kInt aAdd (.tmp 19) (.con (.int .i64 1))) (oVal (.tmp 6) (kMove (.tmp 20)) oNil)))
def K12l0:K:=(kSeq (kSeq (kRegion K12r3 [18]) (kCond (.tmp 18) kSkip (kExit 0))) (kSeq (kBlock 1 (kRegionD K12r4 [5])) (kRegion K12r5 [6])))
def K12r6:OpsF:=(oVal (.tmp 30) (kMove (.tmp 5)) (oVal (.tmp 4) (kMove (.tmp 30)) oNil))
theorem res12:Try.f12.results.toList=[.tmp 4]:=by kernel_rfl
def K12:K:=(kSeq (kRegion K12r0 [4]) (kSeq (kRegion K12r1 [5]) (kSeq (kSeq (kRegion K12r2 [6]) (kBlock 0 (kLoop K12l0))) (kSeq (kRegion K12r6 [4]) kRet))))
theorem enter12 (cl:CallF) (a0 a1:AV) (s:St):enterA Try.prog X cl 12 [a0,a1] s Try.f12=finA Try.prog Try.f12 (K12 cl ⟨12,none,Try.f12.ntmps,X 12⟩ (paramsEnv 0 [a0,a1] .nil) [] s) :=
  enterA_eq (b:=Try.f12.body.getD .skip) (by kernel_rfl) (by kernel_rfl) (by kernel_rfl) (by kernel_rfl) (by kernel_rfl)
end
end Go.Proofs.Ytoolodjbfphkjaa.code
set_option maxRecDepth 100000
namespace Go.Proofs.Ytoolodjbfphkjaa.code
open Go.Abs
noncomputable section
def K7r0:OpsF:=(oVal (.tmp 1) (kBox (tag 28) (.tmp 0)) (oVal (.tmp 2) (kMove (.con .nilslice)) (oVal (.tmp 3) (kMove (.con (.int .i64 0))) oNil)))
def K7r1:OpsF:=(oVal (.tmp 7) (kLoad (some 5) (.tmp 1)) (oCall (.tmp 8) (.con (.func 27 [] [])) [(.tmp 7)] (oVal (.tmp 4) (kMove (.tmp 8)) oNil)))
def K7r2:OpsF:=(oVal (.tmp 9) (kMove (.tmp 4)) (oVal (.tmp 10) (kInt aNeq (.tmp 9) (.con (.int .i64 0))) oNil))
def K7r3:OpsF:=(oVal (.tmp 11) (kMove (.tmp 4)) (oVal (.tmp 2) (kMove (.con .nilslice)) (oVal (.tmp 3) (kMove (.tmp 11)) oNil)))
def K7r4:OpsF:=(oVal (.tmp 13) (kLoad (some 5) (.tmp 1)) (oCall (.tmp 14) (.con (.func 28 [] [])) [(.tmp 13)] (oVal (.tmp 12) (kMove (.tmp 14)) (oVal (.tmp 15) (kUn (extA 0) (.tmp 12)) (oVal (.tmp 16) (kUn (extA 1) (.tmp 12)) (oVal (.tmp 5) (kMove (.tmp 15)) (oVal (.tmp 6) (kMove (.tmp 16)) oNil)))))))
def K7r5:OpsF:=(oVal (.tmp 17) (kMove (.tmp 6)) oNil)
def K7r6:OpsF:=(oVal (.tmp 2) (kMove (.con .nilslice)) (oVal (.tmp 3) (kMove (.con (.int .i64 3))) oNil))
def K7r7:OpsF:=(oVal (.tmp 18) (kLoad (some 5) (.tmp 1)) (oCall (.tmp 19) (.con (.func 29 [] [])) [(.tmp 18)] (oVal (.tmp 2) (kMove (.tmp 19)) (oVal (.tmp 3) (kMove (.con (.int .i64 0))) oNil))))
theorem res7:Try.f7.results.toList=[.tmp 2,.tmp 3]:=by kernel_rfl
def K7:K:=(kSeq (kRegion K7r0 [1,2,3]) (kSeq (kSeq (kRegion K7r1 [4]) (kSeq (kRegion K7r2 [10]) (kCond (.tmp 10) (kSeq (kRegion K7r3 [2,3]) kRet) kSkip))) (kSeq (kSeq (kRegion K7r4 [6]) (kSeq (kRegion K7r5 [17]) (kCond (.tmp 17) (kSeq (kRegion K7r6 [2,3]) kRet) kSkip))) (kSeq (kRegion K7r7 [2,3]) kRet))))
theorem enter7 (cl:CallF) (a0:AV) (s:St):enterA Try.prog X cl 7 [a0] s Try.f7=finA Try.prog Try.f7 (K7 cl ⟨7,none,Try.f7.ntmps,X 7⟩ (paramsEnv 0 [a0] .nil) [] s) :=
  enterA_eq (b:=Try.f7.body.getD .skip) (by kernel_rfl) (by kernel_rfl) (by kernel_rfl) (by kernel_rfl) (by kernel_rfl)
def K29r0:OpsF:=(oVal (.tmp 1) (kBox (tag 28) (.tmp 0)) (oVal (.tmp 2) (kMove (.con .nilslice)) oNil))
def K29r1:OpsF:=(oVal (.tmp 8) (kLoad (some 5) (.tmp 1)) (oCall (.tmp 9) (.con (.func 52 [] [])) [(.tmp 8)] (oCall (.tmp 10) (.con (.func 55 [] [])) [(.tmp 9)] (oVal (.tmp 3) (kAlloc [.nilslice] (tag 123)) (oVal .none (kStore 1 (.tmp 3) (.tmp 10)) oNil)))))
def K29r2:OpsF:=(oVal (.tmp 4) (kAlloc [.nilfunc] (tag 125)) oNil)
def K29r3:OpsF:=(oVal (.tmp 11) (kFunc 56 [] [(.tmp 3),(.tmp 4)]) (oVal .none (kStore 1 (.tmp 4) (.tmp 11)) oNil))
def K29r4:OpsF:=(oVal (.tmp 12) (kLoad (some 5) (.tmp 1)) (oCall (.tmp 13) (.con (.func 51 [] [])) [(.tmp 12)] (oVal (.tmp 5) (kMove (.tmp 13)) oNil)))
def K29r5:OpsF:=(oVal (.tmp 6) (kMove (.con (.int .i64 1))) oNil)
def K29r6:OpsF:=(oVal (.tmp 14) (kMove (.tmp 6)) (oVal (.tmp 15) (kLoad none (.tmp 3)) (oVal (.tmp 16) (kUn lenSlA (.tmp 15)) (oVal (.tmp 17) (kInt aLeq (.tmp 14) (.tmp 16)) oNil))))
def K29r7:OpsF:=(oVal (.tmp 20) (kLoad none (.tmp 4)) (oVal (.tmp 21) (kMove (.tmp 5)) (oVal (.tmp 22) (kMove (.tmp 6)) (oCall (.tmp 23) (.tmp 20) [(.tmp 21),(.con (.int .i64 0)),(.tmp 22)] (oVal (.tmp 7) (kMove (.tmp 23)) oNil)))))
def K29r8:OpsF:=(oVal (.tmp 24) (kMove (.tmp 7)) (oVal (.tmp 25) (kEql .nilS true (.tmp 24) (.con .nilslice)) oNil))
def K29r9:OpsF:=(oVal (.tmp 26) (kMove (.tmp 7)) (oVal (.tmp 2) (kMove (.tmp 26)) oNil))
def K29r10:OpsF:=(oVal (.tmp 18) (kMove (.tmp 6)) (oVal (.tmp 19) (kInt aAdd (.tmp 18) (.con (.int .i64 1))) (oVal (.tmp 6) (kMove (.tmp 19)) oNil)))
def K29l0:K:=(kSeq (kSeq (kRegion K29r6 [17]) (kCond (.tmp 17) kSkip (kExit 0))) (kSeq (kBlock 1 (kSeq (kRegion K29r7 [7]) (kSeq (kRegion K29r8 [25]) (kCond (.tmp 25) (kSeq (kRegion K29r9 [2]) kRet) kSkip)))) (kRegion K29r10 [6])))
def K29r11:OpsF:=(oVal (.tmp 2) (kMove (.con .nilslice)) oNil)
theorem res29:Try.f29.results.toList=[.tmp 2]:=by kernel_rfl
def K29:K:=(kSeq (kRegion K29r0 [1,2]) (kSeq (kRegion K29r1 [3]) (kSeq (kRegion K29r2 [4]) (kSeq (kRegion K29r3 []) (kSeq (kRegion K29r4 [5]) (kSeq (kSeq (kRegion K29r5 [6]) (kBlock 0 (kLoop K29l0))) (kSeq (kRegion K29r11 [2]) kRet)))))))
theorem enter29 (cl:CallF) (a0:AV) (s:St):enterA Try.prog X cl 29 [a0] s Try.f29=finA Try.prog Try.f29 (K29 cl ⟨29,none,Try.f29.ntmps,X 29⟩ (paramsEnv 0 [a0] .nil) [] s) :=
  enterA_eq (b:=Try.f29.body.getD .skip) (by kernel_rfl) (by kernel_rfl) (by kernel_rfl) (by kernel_rfl) (by kernel_rfl)
def K56r0:OpsF:=(oVal (.tmp 8) (kMove (.con .nilslice)) oNil)
def K56r1:OpsF:=(oVal (.tmp 11) (kMove (.tmp 1)) (oVal (.tmp 9) (kMove (.tmp 11)) oNil))
def K56r2:OpsF:=(oVal (.tmp 12) (kMove (.tmp 9)) (oVal (.tmp 13) (kLoad none (.tmp 3)) (oVal (.tmp 14) (kUn lenSlA (.tmp 13)) (oVal (.tmp 15) (kMove (.tmp 2)) (oVal (.tmp 16) (kInt aSub (.tmp 14) (.tmp 15)) (oVal (.tmp 17) (kInt aLeq (.tmp 12) (.tmp 16)) oNil))))))
def K56r3:OpsF:=(oVal (.tmp 20) (kMove (.tmp 2)) (oVal (.tmp 21) (kGtr (.tmp 20) (.con (.int .i64 1))) oNil))
def K56r4:OpsF:=(oEnd [] (oVal (.tmp 22) (kLoad none (.tmp 4)) (oVal (.tmp 23) (kMove (.tmp 0)) (oVal (.tmp 24) (kLoad none (.tmp 3)) (oVal (.tmp 25) (kMove (.tmp 9)) (oVal (.tmp 26) (kTwo (ixsA 4) (.tmp 24) (.tmp 25)) (oVal (.tmp 27) (kLoad (some 4) (.tmp 26)) (oCallT (some [4]) (.tmp 28) (.con (.func 54 [] [])) [(.tmp 23),(.tmp 27)] (oVal (.tmp 29) (kMove (.tmp 9)) (oVal (.tmp 30) (kInt aAdd (.tmp 29) (.con (.int .i64 1))) (oVal (.tmp 31) (kMove (.tmp 2)) (oVal (.tmp 32) (kInt aSub (.tmp 31) (.con (.int .i64 1))) (oCall (.tmp 33) (.tmp 22) [(.tmp 28),(.tmp 30),(.tmp 32)] (oVal (.tmp 10) (kMove (.tmp 33)) oNil))))))))))))))
def K56r5:OpsF:=(oVal (.tmp 34) (kMove (.tmp 10)) (oVal (.tmp 35) (kEql .nilS true (.tmp 34) (.con .nilslice)) oNil))
def K56r6:OpsF:=(oVal (.tmp 36) (kMove (.tmp 10)) (oVal (.tmp 37) (kMove (.tmp 9)) (oVal (.tmp 38) (kBuildSlice [(.int .i64 0)] 1 [(0,1,(.tmp 37))]) (oCall (.tmp 39) (.con (.func 57 [] [])) [(.tmp 36),(.con (.int .i64 0)),(.tmp 38)] (oVal (.tmp 8) (kMove (.tmp 39)) oNil)))))
def K56r7:OpsF:=(oVal (.tmp 40) (kMove (.tmp 0)) (oVal (.tmp 41) (kLoad none (.tmp 3)) (oVal (.tmp 42) (kMove (.tmp 9)) (oVal (.tmp 43) (kTwo (ixsA 4) (.tmp 41) (.tmp 42)) (oVal (.tmp 44) (kLoad (some 4) (.tmp 43)) (oCall (.tmp 45) (.con (.func 53 [] [])) [(.tmp 40),(.tmp 44)] oNil))))))
def K56r8:OpsF:=(oVal (.tmp 46) (kMove (.tmp 9)) (oVal (.tmp 47) (kBuildSlice [(.int .i64 0)] 1 [(0,1,(.tmp 46))]) (oVal (.tmp 8) (kMove (.tmp 47)) oNil)))
def K56r9:OpsF:=(oVal (.tmp 18) (kMove (.tmp 9)) (oVal (.tmp 19) (kInt aAdd (.tmp 18) (.con (.int .i64 1))) (oVal (.tmp 9) (kMove (.tmp 19)) oNil)))
def K56l0:K:=(kSeq (kSeq (kRegion K56r2 [17]) (kCond (.tmp 17) kSkip (kExit 0))) (kSeq (kBlock 1 (kSeq (kRegion K56r3 [21]) (kCond (.tmp 21) (kSeq (kRegionD K56r4 [10]) (kSeq (kRegion K56r5 [35]) (kCond (.tmp 35) (kSeq (kRegion K56r6 [8]) kRet) kSkip))) (kSeq (kRegion K56r7 [45]) (kCond (.tmp 45) (kSeq (kRegion K56r8 [8]) kRet) kSkip))))) (kRegion K56r9 [9])))
def K56r10:OpsF:=(oVal (.tmp 8) (kMove (.con .nilslice)) oNil)
theorem res56:Try.f56.results.toList=[.tmp 8]:=by kernel_rfl
def K56:K:=(kSeq (kRegion K56r0 [8]) (kSeq (kSeq (kRegion K56r1 [9]) (kBlock 0 (kLoop K56l0))) (kSeq (kRegion K56r10 [8]) kRet)))
theorem enter56 (cl:CallF) (a0 a1 a2 a3 a4:AV) (s:St):enterA Try.prog X cl 56 [a0,a1,a2,a3,a4] s Try.f56=finA Try.prog Try.f56 (K56 cl ⟨56,none,Try.f56.ntmps,X 56⟩ (paramsEnv 0 [a0,a1,a2,a3,a4] .nil) [] s) :=
  enterA_eq (b:=Try.f56.body.getD .skip) (by kernel_rfl) (by kernel_rfl) (by kernel_rfl) (by kernel_rfl) (by kernel_rfl)
def K55r0:OpsF:=(oVal (.tmp 2) (kMove (.con .nilslice)) oNil)
def K55r1:OpsF:=(oVal (.tmp 3) (kMove (.tmp 0)) (oCall (.tmp 4) (.con (.func 72 [] [])) [(.con .nilslice),(.tmp 3)] (oVal (.tmp 2) (kMove (.tmp 4)) oNil)))
theorem res55:Try.f55.results.toList=[.tmp 2]:=by kernel_rfl
def K55:K:=(kSeq (kRegion K55r0 [2]) (kSeq (kRegion K55r1 [2]) kRet))
theorem enter55 (cl:CallF) (a0:AV) (s:St):enterA Try.prog X cl 55 [a0] s Try.f55=finA Try.prog Try.f55 (K55 cl ⟨55,none,Try.f55.ntmps,X 55⟩ (paramsEnv 0 [a0] .nil) [] s) :=
  enterA_eq (b:=Try.f55.body.getD .skip) (by kernel_rfl) (by kernel_rfl) (by kernel_rfl) (by kernel_rfl) (by kernel_rfl)
def K72r0:OpsF:=(oVal (.tmp 2) (kBox (tag 123) (.tmp 0)) (oVal (.tmp 4) (kMove (.con .nilslice)) oNil))
def K72r1:OpsF:=(oVal (.tmp 6) (kMove (.tmp 1)) oNil)
def K72r2:OpsF:=(oVal (.tmp 12) (kLoad none (.tmp 2)) (oVal (.tmp 4) (kMove (.tmp 12)) oNil))
theorem res72:Try.f72.results.toList=[.tmp 4]:=by kernel_rfl
def K72:K:=(kSeq (kRegion K72r0 [2,4]) (kSeq (kSeq (kRegion K72r1 [6]) (kBlock 0 (kRange (.tmp 6) [7] (rangeAt Try.f72 0).1 (rangeAt Try.f72 0).2))) (kSeq (kRegion K72r2 [4]) kRet)))
theorem enter72 (cl:CallF) (a0 a1:AV) (s:St):enterA Try.prog X cl 72 [a0,a1] s Try.f72=finA Try.prog Try.f72 (K72 cl ⟨72,none,Try.f72.ntmps,X 72⟩ (paramsEnv 0 [a0,a1] .nil) [] s) :=
  enterA_eq (b:=Try.f72.body.getD .skip) (by kernel_rfl) (by kernel_rfl) (by kernel_rfl) (by kernel_rfl) (by kernel_rfl)
def K72a0r0:OpsF:=(oVal (.tmp 5) (kAlloc [(.int .i64 0),(.int .i64 0),(.int .i64 0),(.int .i64 0)] (tag 120)) (oVal .none (kStore 4 (.tmp 5) (.tmp 7)) oNil))
def K72a0:K:=(kRegion K72a0r0 [5])
theorem code72a0:codeK Try.prog (X 72) Try.f72.ntmps (rangeAt Try.f72 0).1=some K72a0:=by kernel_rfl
def K72b0r0:OpsF:=(oVal (.tmp 8) (kLoad none (.tmp 2)) (oVal (.tmp 9) (kLoad (some 4) (.tmp 5)) (oVal (.tmp 10) (kBuildSlice [(.int .i64 0),(.int .i64 0),(.int .i64 0),(.int .i64 0)] 1 [(0,4,(.tmp 9))]) (oVal (.tmp 11) (kTwo (appendA false 4 32 (tag 120)) (.tmp 8) (.tmp 10)) (oVal .none (kStore 1 (.tmp 2) (.tmp 11)) oNil)))))
def K72b0:K:=(kBlock 1 (kRegion K72b0r0 []))
theorem code72b0:codeK Try.prog (X 72) Try.f72.ntmps (rangeAt Try.f72 0).2=some K72b0:=by kernel_rfl
end
end Go.Proofs.Ytoolodjbfphkjaa.code
set_option maxRecDepth 100000
namespace Go.Proofs.Ytoolodjbfphkjaa.code
open Go.Abs
noncomputable section
def K57r0:OpsF:=(oVal (.tmp 6) (kMove (.con .nilslice)) oNil)
def K57r1:OpsF:=(oVal (.tmp 10) (kMove (.tmp 0)) (oVal (.tmp 11) (kMove (.tmp 1)) (oVal (.tmp 12) (kSlice (sliceVal 1) (.tmp 10) (some (.tmp 11)) none) oNil)))
def K57r2:OpsF:=(oVal (.tmp 13) (kMove (.tmp 2)) (oVal (.tmp 14) (kUn lenSlA (.tmp 13)) (oVal (.tmp 7) (kMove (.tmp 14)) oNil)))
def K57r3:OpsF:=(oVal (.tmp 15) (kMove (.tmp 7)) (oVal (.tmp 16) (kInt aEql (.tmp 15) (.con (.int .i64 0))) oNil))
def K57r4:OpsF:=(oVal (.tmp 17) (kMove (.tmp 0)) (oVal (.tmp 6) (kMove (.tmp 17)) oNil))
def K57r5:OpsF:=(oVal (.tmp 18) (kMove (.tmp 0)) (oVal (.tmp 19) (kUn lenSlA (.tmp 18)) (oVal (.tmp 8) (kMove (.tmp 19)) oNil)))
def K57r6:OpsF:=(oVal (.tmp 20) (kMove (.tmp 1)) (oVal (.tmp 21) (kMove (.tmp 8)) (oVal (.tmp 22) (kInt aEql (.tmp 20) (.tmp 21)) oNil)))
def K57r7:OpsF:=(oVal (.tmp 23) (kMove (.tmp 0)) (oVal (.tmp 24) (kMove (.tmp 2)) (oVal (.tmp 25) (kTwo (appendA false 1 8 (tag 3)) (.tmp 23) (.tmp 24)) (oVal (.tmp 6) (kMove (.tmp 25)) oNil))))
def K57r8:OpsF:=(oVal (.tmp 26) (kMove (.tmp 8)) (oVal (.tmp 27) (kMove (.tmp 7)) (oVal (.tmp 28) (kInt aAdd (.tmp 26) (.tmp 27)) (oVal (.tmp 29) (kMove (.tmp 0)) (oVal (.tmp 30) (kUn capsA (.tmp 29)) (oVal (.tmp 31) (kGtr (.tmp 28) (.tmp 30)) oNil))))))
def K57r9:OpsF:=(oVal (.tmp 32) (kMove (.tmp 0)) (oVal (.tmp 33) (kMove (.tmp 1)) (oVal (.tmp 34) (kSlice (sliceVal 1) (.tmp 32) none (some (.tmp 33))) (oVal (.tmp 35) (kMove (.tmp 8)) (oVal (.tmp 36) (kMove (.tmp 7)) (oVal (.tmp 37) (kInt aAdd (.tmp 35) (.tmp 36)) (oVal (.tmp 38) (kMove (.tmp 1)) (oVal (.tmp 39) (kInt aSub (.tmp 37) (.tmp 38)) (oVal (.tmp 40) (kTwo (appendZ [(.int .i64 0)] 1 8 (tag 3)) (.tmp 34) (.tmp 39)) (oVal (.tmp 9) (kMove (.tmp 40)) oNil))))))))))
def K57r10:OpsF:=(oVal (.tmp 41) (kMove (.tmp 9)) (oVal (.tmp 42) (kMove (.tmp 1)) (oVal (.tmp 43) (kSlice (sliceVal 1) (.tmp 41) (some (.tmp 42)) none) (oVal (.tmp 44) (kMove (.tmp 2)) (oVal (.tmp 45) (kTwo (copyA 1) (.tmp 43) (.tmp 44)) oNil)))))
def K57r11:OpsF:=(oEnd [] (oVal (.tmp 46) (kMove (.tmp 9)) (oVal (.tmp 47) (kMove (.tmp 1)) (oVal (.tmp 48) (kMove (.tmp 7)) (oVal (.tmp 49) (kInt aAdd (.tmp 47) (.tmp 48)) (oVal (.tmp 50) (kSlice (sliceVal 1) (.tmp 46) (some (.tmp 49)) none) (oVal (.tmp 51) (kMove (.tmp 0)) (oVal (.tmp 52) (kMove (.tmp 1)) (oVal (.tmp 53) (kSlice (sliceVal 1) (.tmp 51) (some (.tmp 52)) none) (oVal (.tmp 54) (kTwo (copyA 1) (.tmp 50) (.tmp 53)) oNil))))))))))
def K57r12:OpsF:=(oVal (.tmp 55) (kMove (.tmp 9)) (oVal (.tmp 6) (kMove (.tmp 55)) oNil))
def K57r13:OpsF:=(oVal (.tmp 56) (kMove (.tmp 0)) (oVal (.tmp 57) (kMove (.tmp 8)) (oVal (.tmp 58) (kMove (.tmp 7)) (oVal (.tmp 59) (kInt aAdd (.tmp 57) (.tmp 58)) (oVal (.tmp 60) (kSlice (sliceVal 1) (.tmp 56) none (some (.tmp 59))) (oVal (.tmp 0) (kMove (.tmp 60)) oNil))))))
def K57r14:OpsF:=(oVal (.tmp 61) (kMove (.tmp 2)) (oVal (.tmp 62) (kMove (.tmp 0)) (oVal (.tmp 63) (kMove (.tmp 1)) (oVal (.tmp 64) (kMove (.tmp 7)) (oVal (.tmp 65) (kInt aAdd (.tmp 63) (.tmp 64)) (oVal (.tmp 66) (kSlice (sliceVal 1) (.tmp 62) (some (.tmp 65)) none) (oVal (.tmp 67) (kTwo (overlapsA 1) (.tmp 61) (.tmp 66)) (oVal (.tmp 68) (kUn notA (.tmp 67)) oNil))))))))
def K57r15:OpsF:=(oEnd [] (oVal (.tmp 69) (kMove (.tmp 0)) (oVal (.tmp 70) (kMove (.tmp 1)) (oVal (.tmp 71) (kMove (.tmp 7)) (oVal (.tmp 72) (kInt aAdd (.tmp 70) (.tmp 71)) (oVal (.tmp 73) (kSlice (sliceVal 1) (.tmp 69) (some (.tmp 72)) none) (oVal (.tmp 74) (kMove (.tmp 0)) (oVal (.tmp 75) (kMove (.tmp 1)) (oVal (.tmp 76) (kSlice (sliceVal 1) (.tmp 74) (some (.tmp 75)) none) (oVal (.tmp 77) (kTwo (copyA 1) (.tmp 73) (.tmp 76)) oNil))))))))))
def K57r16:OpsF:=(oVal (.tmp 78) (kMove (.tmp 0)) (oVal (.tmp 79) (kMove (.tmp 1)) (oVal (.tmp 80) (kSlice (sliceVal 1) (.tmp 78) (some (.tmp 79)) none) (oVal (.tmp 81) (kMove (.tmp 2)) (oVal (.tmp 82) (kTwo (copyA 1) (.tmp 80) (.tmp 81)) oNil)))))
def K57r17:OpsF:=(oVal (.tmp 83) (kMove (.tmp 0)) (oVal (.tmp 6) (kMove (.tmp 83)) oNil))
def K57r18:OpsF:=(oVal (.tmp 84) (kMove (.tmp 0)) (oVal (.tmp 85) (kMove (.tmp 8)) (oVal (.tmp 86) (kSlice (sliceVal 1) (.tmp 84) (some (.tmp 85)) none) (oVal (.tmp 87) (kMove (.tmp 2)) (oVal (.tmp 88) (kTwo (copyA 1) (.tmp 86) (.tmp 87)) oNil)))))
def K57r19:OpsF:=(oVal (.tmp 89) (kMove (.tmp 0)) (oVal (.tmp 90) (kMove (.tmp 1)) (oVal (.tmp 91) (kSlice (sliceVal 1) (.tmp 89) (some (.tmp 90)) none) (oVal (.tmp 92) (kMove (.tmp 7)) (oCall (.tmp 93) (.con (.func 74 [] [])) [(.tmp 91),(.tmp 92)] oNil)))))
def K57r20:OpsF:=(oVal (.tmp 94) (kMove (.tmp 0)) (oVal (.tmp 6) (kMove (.tmp 94)) oNil))
theorem res57:Try.f57.results.toList=[.tmp 6]:=by kernel_rfl
def K57:K:=(kSeq (kRegion K57r0 [6]) (kSeq (kRegion K57r1 []) (kSeq (kRegion K57r2 [7]) (kSeq (kSeq (kRegion K57r3 [16]) (kCond (.tmp 16) (kSeq (kRegion K57r4 [6]) kRet) kSkip)) (kSeq (kRegion K57r5 [8]) (kSeq (kSeq (kRegion K57r6 [22]) (kCond (.tmp 22) (kSeq (kRegion K57r7 [6]) kRet) kSkip)) (kSeq (kSeq (kRegion K57r8 [31]) (kCond (.tmp 31) (kSeq (kRegion K57r9 [9]) (kSeq (kRegion K57r10 []) (kSeq (kRegionD K57r11 []) (kSeq (kRegion K57r12 [6]) kRet)))) kSkip)) (kSeq (kRegion K57r13 [0]) (kSeq (kSeq (kRegion K57r14 [68]) (kCond (.tmp 68) (kSeq (kRegionD K57r15 []) (kSeq (kRegion K57r16 []) (kSeq (kRegion K57r17 [6]) kRet))) kSkip)) (kSeq (kRegion K57r18 []) (kSeq (kRegion K57r19 []) (kSeq (kRegion K57r20 [6]) kRet))))))))))))
theorem enter57 (cl:CallF) (a0 a1 a2:AV) (s:St):enterA Try.prog X cl 57 [a0,a1,a2] s Try.f57=finA Try.prog Try.f57 (K57 cl ⟨57,none,Try.f57.ntmps,X 57⟩ (paramsEnv 0 [a0,a1,a2] .nil) [] s) :=
  enterA_eq (b:=Try.f57.body.getD .skip) (by kernel_rfl) (by kernel_rfl) (by kernel_rfl) (by kernel_rfl) (by kernel_rfl)
end
end Go.Proofs.Ytoolodjbfphkjaa.code
