/- The code of functions as the interpreter has it, region by region. -/
import Derived.Test.YtkkdiibgjgnbhaaAbsTab
import Derived.Test.YtkkdiibgjgnbhaaAbsWalk
import Derived.KernelRfl
set_option maxRecDepth 100000
namespace Go.Proofs.Ytkkdiibgjgnbhaa.code
open Go.Abs
noncomputable section
def K20r0:OpsF:=(oVal (.tmp 2) (kMove (.con (.int .i64 0))) oNil)
def K20r1:OpsF:=(oVal (.tmp 3) (kMove (.con (.int .i64 0))) oNil)
def K20r2:OpsF:=(oVal (.tmp 6) (kMove (.tmp 0)) (oVal (.tmp 7) (kUn lenSlA (.tmp 6)) (oVal (.tmp 8) (kMove (.con (.int .i64 0))) oNil)))
def K20r3:OpsF:=(oVal (.tmp 9) (kInt aLss (.tmp 8) (.tmp 7)) oNil)
def K20r4:OpsF:=(oVal (.tmp 10) (kTwo (ixsA 1) (.tmp 6) (.tmp 8)) (oVal (.tmp 11) (kLoad none (.tmp 10)) (oVal (.tmp 5) (kMove (.tmp 11)) oNil)))
def K20r5:OpsF:=(oVal (.tmp 12) (kMove (.tmp 5)) (oVal (.tmp 13) (kMove (.tmp 3)) (oVal (.tmp 14) (kInt aNeq (.tmp 12) (.tmp 13)) oNil)))
def K20r6:OpsF:=(oVal (.tmp 15) (kMove (.tmp 5)) (oVal (.tmp 2) (kMove (.tmp 15)) oNil))
def K20r7:OpsF:=(oVal (.tmp 16) (kInt aAdd (.tmp 8) (.con (.int .i64 1))) (oVal (.tmp 8) (kMove (.tmp 16)) oNil))
def K20l0:K:=(kSeq (kRegion K20r3 [9]) (kSeq (kCond (.tmp 9) kSkip (kExit 0)) (kSeq (kBlock 1 (kSeq (kRegion K20r4 [5]) (kSeq (kRegion K20r5 [14]) (kCond (.tmp 14) (kSeq (kRegion K20r6 [2]) kRet) kSkip)))) (kRegion K20r7 [8]))))
def K20r8:OpsF:=(oVal (.tmp 17) (kMove (.tmp 3)) (oVal (.tmp 2) (kMove (.tmp 17)) oNil))
theorem res20:Try.f20.results.toList=[.tmp 2]:=by kernel_rfl
def K20:K:=(kSeq (kRegion K20r0 [2]) (kSeq (kRegion K20r1 [3]) (kSeq (kSeq (kRegion K20r2 [6,7,8]) (kBlock 0 (kLoop K20l0))) (kSeq (kRegion K20r8 [2]) kRet))))
theorem enter20 (cl:CallF) (a0:AV) (s:St):enterA Try.prog X cl 20 [a0] s Try.f20=finA Try.prog Try.f20 (K20 cl ⟨20,none,Try.f20.ntmps,X 20⟩ (paramsEnv 0 [a0] .nil) [] s) :=
  enterA_eq (b:=Try.f20.body.getD .skip) (by kernel_rfl) (by kernel_rfl) (by kernel_rfl) (by kernel_rfl) (by kernel_rfl)
def K57r0:OpsF:=(oVal (.tmp 6) (kMove (.con (.int .i64 0))) oNil)
def K57r1:OpsF:=(oVal (.tmp 8) (kMove (.tmp 0)) (oVal (.tmp 9) (kMove (.tmp 1)) (oVal (.tmp 10) (kInt aLss (.tmp 8) (.tmp 9)) (oVal (.tmp 7) (kMove (.tmp 10)) oNil))))
def K57r2:OpsF:=(oVal (.tmp 6) (kMove (.con (.int .i64 7))) oNil)
def K57r3:OpsF:=(oVal (.tmp 12) (kMove (.tmp 0)) (oVal (.tmp 13) (kMove (.tmp 2)) (oVal (.tmp 14) (kGtr (.tmp 12) (.tmp 13)) (oVal (.tmp 11) (kMove (.tmp 14)) oNil))))
def K57r4:OpsF:=(oVal (.tmp 6) (kMove (.con (.int .i64 6))) oNil)
def K57r5:OpsF:=(oVal (.tmp 6) (kMove (.con (.int .i64 0))) oNil)
theorem res57:Try.f57.results.toList=[.tmp 6]:=by kernel_rfl
def K57:K:=(kSeq (kRegion K57r0 [6]) (kSeq (kBlock 0 (kSeq (kRegion K57r1 [7]) (kCond (.tmp 7) (kSeq (kRegion K57r2 [6]) kRet) (kSeq (kRegion K57r3 [11]) (kCond (.tmp 11) (kSeq (kRegion K57r4 [6]) kRet) kSkip))))) (kSeq (kRegion K57r5 [6]) kRet)))
theorem enter57 (cl:CallF) (a0 a1 a2:AV) (s:St):enterA Try.prog X cl 57 [a0,a1,a2] s Try.f57=finA Try.prog Try.f57 (K57 cl ⟨57,none,Try.f57.ntmps,X 57⟩ (paramsEnv 0 [a0,a1,a2] .nil) [] s) :=
  enterA_eq (b:=Try.f57.body.getD .skip) (by kernel_rfl) (by kernel_rfl) (by kernel_rfl) (by kernel_rfl) (by kernel_rfl)
def K21r0:OpsF:=(oVal (.tmp 4) (kMove (.con (.int .i64 0))) oNil)
def K21r1s6:OpsF:=(oVal (.tmp 11) (kPick (.tmp 7) (.con (.bool true)) (.tmp 10)) oNil)
def K21r1s5:OpsF:=(oIf 7 false (oVal (.tmp 10) (kInt aGeq (.tmp 8) (.tmp 9)) K21r1s6) (oSkip (.tmp 10) K21r1s6))
def K21r1s4:OpsF:=(oIf 7 false (oVal (.tmp 9) (kMove (.tmp 1)) K21r1s5) (oSkip (.tmp 9) K21r1s5))
def K21r1:OpsF:=(oVal (.tmp 5) (kMove (.tmp 0)) (oVal (.tmp 6) (kInt aLss (.tmp 5) (.con (.int .i64 0))) (oVal (.tmp 7) (kMove (.tmp 6)) (oIf 7 false (oVal (.tmp 8) (kMove (.tmp 0)) K21r1s4) (oSkip (.tmp 8) K21r1s4)))))
def K21r2:OpsF:=(oVal (.tmp 4) (kMove (.con (.int .i64 3))) oNil)
def K21r3:OpsF:=(oVal (.tmp 4) (kMove (.con (.int .i64 0))) oNil)
theorem res21:Try.f21.results.toList=[.tmp 4]:=by kernel_rfl
def K21:K:=(kSeq (kRegion K21r0 [4]) (kSeq (kSeq (kRegion K21r1 [11]) (kCond (.tmp 11) (kSeq (kRegion K21r2 [4]) kRet) kSkip)) (kSeq (kRegion K21r3 [4]) kRet)))
theorem enter21 (cl:CallF) (a0 a1:AV) (s:St):enterA Try.prog X cl 21 [a0,a1] s Try.f21=finA Try.prog Try.f21 (K21 cl ⟨21,none,Try.f21.ntmps,X 21⟩ (paramsEnv 0 [a0,a1] .nil) [] s) :=
  enterA_eq (b:=Try.f21.body.getD .skip) (by kernel_rfl) (by kernel_rfl) (by kernel_rfl) (by kernel_rfl) (by kernel_rfl)
def K70r0:OpsF:=(oVal (.tmp 3) (kBox (tag 44) (.tmp 0)) (oVal (.tmp 6) (kMove (.con (.int .i64 0))) oNil))
def K70r1:OpsF:=(oEnd [] (oVal (.tmp 8) (kUn (fadA 0) (.tmp 3)) (oVal (.tmp 9) (kLoad none (.tmp 8)) (oVal (.tmp 10) (kMove (.tmp 1)) (oVal (.tmp 11) (kMove (.tmp 2)) (oCallT (some [13]) (.tmp 12) (.con (.func 43 [] [])) [(.tmp 9),(.tmp 10),(.tmp 11)] (oVal (.tmp 13) (kUn (fadA 1) (.tmp 3)) (oVal (.tmp 14) (kLoad none (.tmp 13)) (oVal (.tmp 15) (kMove (.tmp 1)) (oVal (.tmp 16) (kMove (.tmp 2)) (oCall (.tmp 17) (.con (.func 43 [] [])) [(.tmp 14),(.tmp 15),(.tmp 16)] (oVal (.tmp 18) (kBuildSlice [(.int .i64 0),(.int .i64 0)] 2 [(0,1,(.tmp 12)),(1,1,(.tmp 17))]) (oCall (.tmp 19) (.con (.func 20 [] [])) [(.tmp 18)] (oVal (.tmp 7) (kMove (.tmp 19)) oNil))))))))))))))
def K70r2:OpsF:=(oVal (.tmp 20) (kMove (.tmp 7)) (oVal (.tmp 21) (kInt aNeq (.tmp 20) (.con (.int .i64 0))) oNil))
def K70r3:OpsF:=(oVal (.tmp 22) (kMove (.tmp 7)) (oVal (.tmp 6) (kMove (.tmp 22)) oNil))
def K70r4:OpsF:=(oVal (.tmp 23) (kUn (fadA 0) (.tmp 3)) (oVal (.tmp 24) (kLoad none (.tmp 23)) (oVal (.tmp 25) (kUn (fadA 1) (.tmp 3)) (oVal (.tmp 26) (kLoad none (.tmp 25)) (oVal (.tmp 27) (kGtr (.tmp 24) (.tmp 26)) oNil)))))
def K70r5:OpsF:=(oVal (.tmp 6) (kMove (.con (.int .i64 5))) oNil)
def K70r6:OpsF:=(oVal (.tmp 6) (kMove (.con (.int .i64 0))) oNil)
theorem res70:Try.f70.results.toList=[.tmp 6]:=by kernel_rfl
def K70:K:=(kSeq (kRegion K70r0 [3,6]) (kSeq (kSeq (kRegionD K70r1 [7]) (kSeq (kRegion K70r2 [21]) (kCond (.tmp 21) (kSeq (kRegion K70r3 [6]) kRet) kSkip))) (kSeq (kSeq (kRegion K70r4 [27]) (kCond (.tmp 27) (kSeq (kRegion K70r5 [6]) kRet) kSkip)) (kSeq (kRegion K70r6 [6]) kRet))))
theorem enter70 (cl:CallF) (a0 a1 a2:AV) (s:St):enterA Try.prog X cl 70 [a0,a1,a2] s Try.f70=finA Try.prog Try.f70 (K70 cl ⟨70,none,Try.f70.ntmps,X 70⟩ (paramsEnv 0 [a0,a1,a2] .nil) [] s) :=
  enterA_eq (b:=Try.f70.body.getD .skip) (by kernel_rfl) (by kernel_rfl) (by kernel_rfl) (by kernel_rfl) (by kernel_rfl)
def K43r0:OpsF:=(oVal (.tmp 6) (kMove (.con (.int .i64 0))) oNil)
def K43r1s7:OpsF:=(oVal (.tmp 14) (kPick (.tmp 10) (.con (.bool true)) (.tmp 13)) oNil)
def K43r1s6:OpsF:=(oIf 10 false (oVal (.tmp 13) (kGtr (.tmp 11) (.tmp 12)) K43r1s7) (oSkip (.tmp 13) K43r1s7))
def K43r1s5:OpsF:=(oIf 10 false (oVal (.tmp 12) (kMove (.tmp 2)) K43r1s6) (oSkip (.tmp 12) K43r1s6))
def K43r1:OpsF:=(oVal (.tmp 7) (kMove (.tmp 0)) (oVal (.tmp 8) (kMove (.tmp 1)) (oVal (.tmp 9) (kInt aLss (.tmp 7) (.tmp 8)) (oVal (.tmp 10) (kMove (.tmp 9)) (oIf 10 false (oVal (.tmp 11) (kMove (.tmp 0)) K43r1s5) (oSkip (.tmp 11) K43r1s5))))))
def K43r2:OpsF:=(oVal (.tmp 6) (kMove (.con (.int .i64 1))) oNil)
def K43r3:OpsF:=(oVal (.tmp 6) (kMove (.con (.int .i64 0))) oNil)
theorem res43:Try.f43.results.toList=[.tmp 6]:=by kernel_rfl
def K43:K:=(kSeq (kRegion K43r0 [6]) (kSeq (kSeq (kRegion K43r1 [14]) (kCond (.tmp 14) (kSeq (kRegion K43r2 [6]) kRet) kSkip)) (kSeq (kRegion K43r3 [6]) kRet)))
theorem enter43 (cl:CallF) (a0 a1 a2:AV) (s:St):enterA Try.prog X cl 43 [a0,a1,a2] s Try.f43=finA Try.prog Try.f43 (K43 cl ⟨43,none,Try.f43.ntmps,X 43⟩ (paramsEnv 0 [a0,a1,a2] .nil) [] s) :=
  enterA_eq (b:=Try.f43.body.getD .skip) (by kernel_rfl) (by kernel_rfl) (by kernel_rfl) (by kernel_rfl) (by kernel_rfl)
def K16r0:OpsF:=(oVal (.tmp 1) (kBox (tag 28) (.tmp 0)) (oVal (.tmp 2) (kMove (.con (.int .i64 0))) oNil))
def K16r1:OpsF:=(oEnd [] (oVal (.tmp 3) (kLoad (some 5) (.tmp 1)) (oCallT (some [1,1,9,1]) (.tmp 4) (.con (.func 40 [] [])) [(.tmp 3)] (oVal (.tmp 5) (kLoad (some 5) (.tmp 1)) (oCallT (some [1,9,1]) (.tmp 6) (.con (.func 41 [] [])) [(.tmp 5)] (oVal (.tmp 7) (kLoad (some 5) (.tmp 1)) (oCallT (some [9,1]) (.tmp 8) (.con (.func 42 [] [])) [(.tmp 7)] (oVal (.tmp 9) (kUn (fadA 4) (.tmp 1)) (oVal (.tmp 10) (kLoad none (.tmp 9)) (oCallT (some [1]) (.tmp 11) (.con (.func 43 [] [])) [(.tmp 10),(.con (.int .i64 0)),(.con (.int .i64 8))] (oVal (.tmp 12) (kLoad (some 5) (.tmp 1)) (oCall (.tmp 13) (.con (.func 44 [] [])) [(.tmp 12)] (oVal (.tmp 14) (kBuildSlice [(.int .i64 0),(.int .i64 0),(.int .i64 0),(.int .i64 0),(.int .i64 0)] 5 [(0,1,(.tmp 4)),(1,1,(.tmp 6)),(2,1,(.tmp 8)),(3,1,(.tmp 11)),(4,1,(.tmp 13))]) (oCall (.tmp 15) (.con (.func 20 [] [])) [(.tmp 14)] (oVal (.tmp 2) (kMove (.tmp 15)) oNil)))))))))))))))
theorem res16:Try.f16.results.toList=[.tmp 2]:=by kernel_rfl
def K16:K:=(kSeq (kRegion K16r0 [1,2]) (kSeq (kRegionD K16r1 [2]) kRet))
theorem enter16 (cl:CallF) (a0:AV) (s:St):enterA Try.prog X cl 16 [a0] s Try.f16=finA Try.prog Try.f16 (K16 cl ⟨16,none,Try.f16.ntmps,X 16⟩ (paramsEnv 0 [a0] .nil) [] s) :=
  enterA_eq (b:=Try.f16.body.getD .skip) (by kernel_rfl) (by kernel_rfl) (by kernel_rfl) (by kernel_rfl) (by kernel_rfl)
def K40r0:OpsF:=(oVal (.tmp 1) (kBox (tag 28) (.tmp 0)) (oVal (.tmp 2) (kMove (.con (.int .i64 0))) oNil))
def K40r1:OpsF:=(oVal (.tmp 7) (kUn (fadA 0) (.tmp 1)) (oVal (.tmp 8) (kLoad none (.tmp 7)) (oVal (.tmp 9) (kUn lenSlA (.tmp 8)) (oCall (.tmp 10) (.con (.func 57 [] [])) [(.tmp 9),(.con (.int .i64 1)),(.con (.int .i64 5))] (oVal (.tmp 3) (kMove (.tmp 10)) oNil)))))
def K40r2:OpsF:=(oVal (.tmp 11) (kMove (.tmp 3)) (oVal (.tmp 12) (kInt aNeq (.tmp 11) (.con (.int .i64 0))) oNil))
def K40r3:OpsF:=(oVal (.tmp 13) (kMove (.tmp 3)) (oVal (.tmp 2) (kMove (.tmp 13)) oNil))
def K40r4:OpsF:=(oVal (.tmp 14) (kUn (fadA 0) (.tmp 1)) (oVal (.tmp 15) (kLoad none (.tmp 14)) (oVal (.tmp 16) (kUn lenSlA (.tmp 15)) (oVal (.tmp 17) (kMove (.con (.int .i64 0))) oNil))))
def K40r5:OpsF:=(oVal (.tmp 18) (kInt aLss (.tmp 17) (.tmp 16)) oNil)
def K40r6:OpsF:=(oVal (.tmp 19) (kTwo (ixsA 3) (.tmp 15) (.tmp 17)) (oVal (.tmp 20) (kLoad (some 3) (.tmp 19)) (oVal (.tmp 5) (kAlloc [(.int .i64 0),(.int .i64 0),(.int .i64 0)] (tag 51)) (oVal .none (kStore 3 (.tmp 5) (.tmp 20)) oNil))))
def K40r7:OpsF:=(oEnd [] (oVal (.tmp 21) (kUn (fadA 0) (.tmp 5)) (oVal (.tmp 22) (kLoad none (.tmp 21)) (oCallT (some [24]) (.tmp 23) (.con (.func 43 [] [])) [(.tmp 22),(.con (.int .i64 1)),(.con (.int .i64 1000000))] (oVal (.tmp 24) (kUn (fadA 1) (.tmp 5)) (oVal (.tmp 25) (kLoad (some 2) (.tmp 24)) (oCall (.tmp 26) (.con (.func 55 [] [])) [(.tmp 25),(.con (.int .i64 10000))] (oVal (.tmp 27) (kBuildSlice [(.int .i64 0),(.int .i64 0)] 2 [(0,1,(.tmp 23)),(1,1,(.tmp 26))]) (oCall (.tmp 28) (.con (.func 20 [] [])) [(.tmp 27)] (oVal (.tmp 6) (kMove (.tmp 28)) oNil))))))))))
def K40r8:OpsF:=(oVal (.tmp 29) (kMove (.tmp 6)) (oVal (.tmp 30) (kInt aNeq (.tmp 29) (.con (.int .i64 0))) oNil))
def K40r9:OpsF:=(oVal (.tmp 31) (kMove (.tmp 6)) (oVal (.tmp 2) (kMove (.tmp 31)) oNil))
def K40r10:OpsF:=(oVal (.tmp 32) (kInt aAdd (.tmp 17) (.con (.int .i64 1))) (oVal (.tmp 17) (kMove (.tmp 32)) oNil))
def K40l0:K:=(kSeq (kRegion K40r5 [18]) (kSeq (kCond (.tmp 18) kSkip (kExit 0)) (kSeq (kBlock 1 (kSeq (kRegion K40r6 [5]) (kSeq (kRegionD K40r7 [6]) (kSeq (kRegion K40r8 [30]) (kCond (.tmp 30) (kSeq (kRegion K40r9 [2]) kRet) kSkip))))) (kRegion K40r10 [17]))))
def K40r11:OpsF:=(oVal (.tmp 2) (kMove (.con (.int .i64 0))) oNil)
theorem res40:Try.f40.results.toList=[.tmp 2]:=by kernel_rfl
def K40:K:=(kSeq (kRegion K40r0 [1,2]) (kSeq (kSeq (kRegion K40r1 [3]) (kSeq (kRegion K40r2 [12]) (kCond (.tmp 12) (kSeq (kRegion K40r3 [2]) kRet) kSkip))) (kSeq (kSeq (kRegion K40r4 [15,16,17]) (kBlock 0 (kLoop K40l0))) (kSeq (kRegion K40r11 [2]) kRet))))
theorem enter40 (cl:CallF) (a0:AV) (s:St):enterA Try.prog X cl 40 [a0] s Try.f40=finA Try.prog Try.f40 (K40 cl ⟨40,none,Try.f40.ntmps,X 40⟩ (paramsEnv 0 [a0] .nil) [] s) :=
  enterA_eq (b:=Try.f40.body.getD .skip) (by kernel_rfl) (by kernel_rfl) (by kernel_rfl) (by kernel_rfl) (by kernel_rfl)
def K41r0:OpsF:=(oVal (.tmp 1) (kBox (tag 28) (.tmp 0)) (oVal (.tmp 2) (kMove (.con (.int .i64 0))) oNil))
def K41r1:OpsF:=(oVal (.tmp 8) (kUn (fadA 1) (.tmp 1)) (oVal (.tmp 9) (kLoad none (.tmp 8)) (oVal (.tmp 10) (kUn lenSlA (.tmp 9)) (oCall (.tmp 11) (.con (.func 57 [] [])) [(.tmp 10),(.con (.int .i64 0)),(.con (.int .i64 6))] (oVal (.tmp 3) (kMove (.tmp 11)) oNil)))))
def K41r2:OpsF:=(oVal (.tmp 12) (kMove (.tmp 3)) (oVal (.tmp 13) (kInt aNeq (.tmp 12) (.con (.int .i64 0))) oNil))
def K41r3:OpsF:=(oVal (.tmp 14) (kMove (.tmp 3)) (oVal (.tmp 2) (kMove (.tmp 14)) oNil))
def K41r4:OpsF:=(oVal (.tmp 15) (kUn (fadA 1) (.tmp 1)) (oVal (.tmp 16) (kLoad none (.tmp 15)) (oVal (.tmp 17) (kUn lenSlA (.tmp 16)) (oVal (.tmp 18) (kMove (.con (.int .i64 0))) oNil))))
def K41r5:OpsF:=(oVal (.tmp 19) (kInt aLss (.tmp 18) (.tmp 17)) oNil)
def K41r6:OpsF:=(oVal (.tmp 20) (kTwo (ixsA 4) (.tmp 16) (.tmp 18)) (oVal (.tmp 21) (kLoad (some 4) (.tmp 20)) (oVal (.tmp 5) (kAlloc [(.int .i64 0),(.int .i64 0),(.int .i64 0),(.int .i64 0)] (tag 96)) (oVal .none (kStore 4 (.tmp 5) (.tmp 21)) oNil))))
def K41r7:OpsF:=(oEnd [] (oVal (.tmp 22) (kUn (fadA 0) (.tmp 5)) (oVal (.tmp 23) (kLoad none (.tmp 22)) (oVal (.tmp 24) (kUn (fadA 0) (.tmp 1)) (oVal (.tmp 25) (kLoad none (.tmp 24)) (oVal (.tmp 26) (kUn lenSlA (.tmp 25)) (oCallT (some [28,30,31]) (.tmp 27) (.con (.func 21 [] [])) [(.tmp 23),(.tmp 26)] (oVal (.tmp 28) (kUn (fadA 1) (.tmp 5)) (oVal (.tmp 29) (kLoad none (.tmp 28)) (oVal (.tmp 30) (kUn (fadA 0) (.tmp 1)) (oVal (.tmp 31) (kLoad none (.tmp 30)) (oVal (.tmp 32) (kUn lenSlA (.tmp 31)) (oCall (.tmp 33) (.con (.func 21 [] [])) [(.tmp 29),(.tmp 32)] (oVal (.tmp 34) (kBuildSlice [(.int .i64 0),(.int .i64 0)] 2 [(0,1,(.tmp 27)),(1,1,(.tmp 33))]) (oCall (.tmp 35) (.con (.func 20 [] [])) [(.tmp 34)] (oVal (.tmp 6) (kMove (.tmp 35)) oNil))))))))))))))))
def K41r8:OpsF:=(oVal (.tmp 36) (kMove (.tmp 6)) (oVal (.tmp 37) (kInt aNeq (.tmp 36) (.con (.int .i64 0))) oNil))
def K41r9:OpsF:=(oVal (.tmp 38) (kMove (.tmp 6)) (oVal (.tmp 2) (kMove (.tmp 38)) oNil))
def K41r10:OpsF:=(oVal (.tmp 39) (kUn (fadA 0) (.tmp 5)) (oVal (.tmp 40) (kLoad none (.tmp 39)) (oVal (.tmp 41) (kUn (fadA 1) (.tmp 5)) (oVal (.tmp 42) (kLoad none (.tmp 41)) (oVal (.tmp 43) (kInt aEql (.tmp 40) (.tmp 42)) oNil)))))
def K41r11:OpsF:=(oVal (.tmp 2) (kMove (.con (.int .i64 2))) oNil)
def K41r12:OpsF:=(oVal (.tmp 44) (kUn (fadA 2) (.tmp 5)) (oVal (.tmp 45) (kLoad (some 2) (.tmp 44)) (oCall (.tmp 46) (.con (.func 55 [] [])) [(.tmp 45),(.con (.int .i64 20000))] (oVal (.tmp 7) (kMove (.tmp 46)) oNil))))
def K41r13:OpsF:=(oVal (.tmp 47) (kMove (.tmp 7)) (oVal (.tmp 48) (kInt aNeq (.tmp 47) (.con (.int .i64 0))) oNil))
def K41r14:OpsF:=(oVal (.tmp 49) (kMove (.tmp 7)) (oVal (.tmp 2) (kMove (.tmp 49)) oNil))
def K41r15:OpsF:=(oVal (.tmp 50) (kInt aAdd (.tmp 18) (.con (.int .i64 1))) (oVal (.tmp 18) (kMove (.tmp 50)) oNil))
def K41l0:K:=(kSeq (kRegion K41r5 [19]) (kSeq (kCond (.tmp 19) kSkip (kExit 0)) (kSeq (kBlock 1 (kSeq (kRegion K41r6 [5]) (kSeq (kSeq (kRegionD K41r7 [6]) (kSeq (kRegion K41r8 [37]) (kCond (.tmp 37) (kSeq (kRegion K41r9 [2]) kRet) kSkip))) (kSeq (kSeq (kRegion K41r10 [43]) (kCond (.tmp 43) (kSeq (kRegion K41r11 [2]) kRet) kSkip)) (kSeq (kRegion K41r12 [7]) (kSeq (kRegion K41r13 [48]) (kCond (.tmp 48) (kSeq (kRegion K41r14 [2]) kRet) kSkip))))))) (kRegion K41r15 [18]))))
def K41r16:OpsF:=(oVal (.tmp 2) (kMove (.con (.int .i64 0))) oNil)
theorem res41:Try.f41.results.toList=[.tmp 2]:=by kernel_rfl
def K41:K:=(kSeq (kRegion K41r0 [1,2]) (kSeq (kSeq (kRegion K41r1 [3]) (kSeq (kRegion K41r2 [13]) (kCond (.tmp 13) (kSeq (kRegion K41r3 [2]) kRet) kSkip))) (kSeq (kSeq (kRegion K41r4 [16,17,18]) (kBlock 0 (kLoop K41l0))) (kSeq (kRegion K41r16 [2]) kRet))))
theorem enter41 (cl:CallF) (a0:AV) (s:St):enterA Try.prog X cl 41 [a0] s Try.f41=finA Try.prog Try.f41 (K41 cl ⟨41,none,Try.f41.ntmps,X 41⟩ (paramsEnv 0 [a0] .nil) [] s) :=
  enterA_eq (b:=Try.f41.body.getD .skip) (by kernel_rfl) (by kernel_rfl) (by kernel_rfl) (by kernel_rfl) (by kernel_rfl)
def K42r0:OpsF:=(oVal (.tmp 1) (kBox (tag 28) (.tmp 0)) (oVal (.tmp 2) (kMove (.con (.int .i64 0))) oNil))
def K42r1:OpsF:=(oVal (.tmp 7) (kUn (fadA 2) (.tmp 1)) (oVal (.tmp 8) (kLoad none (.tmp 7)) (oVal (.tmp 9) (kUn lenSlA (.tmp 8)) (oCall (.tmp 10) (.con (.func 57 [] [])) [(.tmp 9),(.con (.int .i64 1)),(.con (.int .i64 3))] (oVal (.tmp 3) (kMove (.tmp 10)) oNil)))))
def K42r2:OpsF:=(oVal (.tmp 11) (kMove (.tmp 3)) (oVal (.tmp 12) (kInt aNeq (.tmp 11) (.con (.int .i64 0))) oNil))
def K42r3:OpsF:=(oVal (.tmp 13) (kMove (.tmp 3)) (oVal (.tmp 2) (kMove (.tmp 13)) oNil))
def K42r4:OpsF:=(oVal (.tmp 14) (kUn (fadA 2) (.tmp 1)) (oVal (.tmp 15) (kLoad none (.tmp 14)) (oVal (.tmp 16) (kUn lenSlA (.tmp 15)) (oVal (.tmp 17) (kMove (.con (.int .i64 0))) oNil))))
def K42r5:OpsF:=(oVal (.tmp 18) (kInt aLss (.tmp 17) (.tmp 16)) oNil)
def K42r6:OpsF:=(oVal (.tmp 19) (kTwo (ixsA 4) (.tmp 15) (.tmp 17)) (oVal (.tmp 20) (kLoad (some 4) (.tmp 19)) (oVal (.tmp 5) (kAlloc [(.int .i64 0),(.int .i64 0),(.int .i64 0),(.int .i64 0)] (tag 54)) (oVal .none (kStore 4 (.tmp 5) (.tmp 20)) oNil))))
def K42r7:OpsF:=(oEnd [] (oVal (.tmp 21) (kUn (fadA 0) (.tmp 5)) (oVal (.tmp 22) (kLoad (some 2) (.tmp 21)) (oCallT (some [24]) (.tmp 23) (.con (.func 55 [] [])) [(.tmp 22),(.con (.int .i64 10000))] (oVal (.tmp 24) (kUn (fadA 2) (.tmp 5)) (oVal (.tmp 25) (kLoad (some 2) (.tmp 24)) (oCall (.tmp 26) (.con (.func 55 [] [])) [(.tmp 25),(.con (.int .i64 10000))] (oVal (.tmp 27) (kBuildSlice [(.int .i64 0),(.int .i64 0)] 2 [(0,1,(.tmp 23)),(1,1,(.tmp 26))]) (oCall (.tmp 28) (.con (.func 20 [] [])) [(.tmp 27)] (oVal (.tmp 6) (kMove (.tmp 28)) oNil))))))))))
def K42r8:OpsF:=(oVal (.tmp 29) (kMove (.tmp 6)) (oVal (.tmp 30) (kInt aNeq (.tmp 29) (.con (.int .i64 0))) oNil))
def K42r9:OpsF:=(oVal (.tmp 31) (kMove (.tmp 6)) (oVal (.tmp 2) (kMove (.tmp 31)) oNil))
def K42r10:OpsF:=(oVal (.tmp 32) (kInt aAdd (.tmp 17) (.con (.int .i64 1))) (oVal (.tmp 17) (kMove (.tmp 32)) oNil))
def K42l0:K:=(kSeq (kRegion K42r5 [18]) (kSeq (kCond (.tmp 18) kSkip (kExit 0)) (kSeq (kBlock 1 (kSeq (kRegion K42r6 [5]) (kSeq (kRegionD K42r7 [6]) (kSeq (kRegion K42r8 [30]) (kCond (.tmp 30) (kSeq (kRegion K42r9 [2]) kRet) kSkip))))) (kRegion K42r10 [17]))))
def K42r11:OpsF:=(oVal (.tmp 2) (kMove (.con (.int .i64 0))) oNil)
theorem res42:Try.f42.results.toList=[.tmp 2]:=by kernel_rfl
def K42:K:=(kSeq (kRegion K42r0 [1,2]) (kSeq (kSeq (kRegion K42r1 [3]) (kSeq (kRegion K42r2 [12]) (kCond (.tmp 12) (kSeq (kRegion K42r3 [2]) kRet) kSkip))) (kSeq (kSeq (kRegion K42r4 [15,16,17]) (kBlock 0 (kLoop K42l0))) (kSeq (kRegion K42r11 [2]) kRet))))
theorem enter42 (cl:CallF) (a0:AV) (s:St):enterA Try.prog X cl 42 [a0] s Try.f42=finA Try.prog Try.f42 (K42 cl ⟨42,none,Try.f42.ntmps,X 42⟩ (paramsEnv 0 [a0] .nil) [] s) :=
  enterA_eq (b:=Try.f42.body.getD .skip) (by kernel_rfl) (by kernel_rfl) (by kernel_rfl) (by kernel_rfl) (by kernel_rfl)
def K44r0:OpsF:=(oVal (.tmp 1) (kBox (tag 28) (.tmp 0)) (oVal (.tmp 2) (kMove (.con (.int .i64 0))) oNil))
def K44r1:OpsF:=(oVal (.tmp 7) (kUn (fadA 3) (.tmp 1)) (oVal (.tmp 8) (kLoad none (.tmp 7)) (oVal (.tmp 9) (kUn lenSlA (.tmp 8)) (oCall (.tmp 10) (.con (.func 57 [] [])) [(.tmp 9),(.con (.int .i64 0)),(.con (.int .i64 6))] (oVal (.tmp 3) (kMove (.tmp 10)) oNil)))))
def K44r2:OpsF:=(oVal (.tmp 11) (kMove (.tmp 3)) (oVal (.tmp 12) (kInt aNeq (.tmp 11) (.con (.int .i64 0))) oNil))
def K44r3:OpsF:=(oVal (.tmp 13) (kMove (.tmp 3)) (oVal (.tmp 2) (kMove (.tmp 13)) oNil))
def K44r4:OpsF:=(oVal (.tmp 14) (kUn (fadA 3) (.tmp 1)) (oVal (.tmp 15) (kLoad none (.tmp 14)) (oVal (.tmp 16) (kUn lenSlA (.tmp 15)) (oVal (.tmp 17) (kMove (.con (.int .i64 0))) oNil))))
def K44r5:OpsF:=(oVal (.tmp 18) (kInt aLss (.tmp 17) (.tmp 16)) oNil)
def K44r6:OpsF:=(oVal (.tmp 19) (kTwo (ixsA 4) (.tmp 15) (.tmp 17)) (oVal (.tmp 20) (kLoad (some 4) (.tmp 19)) (oVal (.tmp 5) (kAlloc [(.int .i64 0),(.int .i64 0),(.int .i64 0),(.int .i64 0)] (tag 98)) (oVal .none (kStore 4 (.tmp 5) (.tmp 20)) oNil))))
def K44r7:OpsF:=(oEnd [] (oVal (.tmp 21) (kUn (fadA 0) (.tmp 5)) (oVal (.tmp 22) (kLoad none (.tmp 21)) (oVal (.tmp 23) (kUn (fadA 2) (.tmp 1)) (oVal (.tmp 24) (kLoad none (.tmp 23)) (oVal (.tmp 25) (kUn lenSlA (.tmp 24)) (oCallT (some [27,29,30,33,35,38]) (.tmp 26) (.con (.func 21 [] [])) [(.tmp 22),(.tmp 25)] (oVal (.tmp 27) (kUn (fadA 2) (.tmp 5)) (oVal (.tmp 28) (kLoad none (.tmp 27)) (oVal (.tmp 29) (kUn (fadA 0) (.tmp 1)) (oVal (.tmp 30) (kLoad none (.tmp 29)) (oVal (.tmp 31) (kUn lenSlA (.tmp 30)) (oCallT (some [33,35,38]) (.tmp 32) (.con (.func 21 [] [])) [(.tmp 28),(.tmp 31)] (oVal (.tmp 33) (kUn (fadA 1) (.tmp 5)) (oVal (.tmp 34) (kLoad none (.tmp 33)) (oVal (.tmp 35) (kUn (fadA 4) (.tmp 1)) (oVal (.tmp 36) (kLoad none (.tmp 35)) (oCallT (some [38]) (.tmp 37) (.con (.func 43 [] [])) [(.tmp 34),(.con (.int .i64 0)),(.tmp 36)] (oVal (.tmp 38) (kUn (fadA 3) (.tmp 5)) (oVal (.tmp 39) (kLoad none (.tmp 38)) (oCall (.tmp 40) (.con (.func 43 [] [])) [(.tmp 39),(.con (.int .i64 0)),(.con (.int .i64 2000000))] (oVal (.tmp 41) (kBuildSlice [(.int .i64 0),(.int .i64 0),(.int .i64 0),(.int .i64 0)] 4 [(0,1,(.tmp 26)),(1,1,(.tmp 32)),(2,1,(.tmp 37)),(3,1,(.tmp 40))]) (oCall (.tmp 42) (.con (.func 20 [] [])) [(.tmp 41)] (oVal (.tmp 6) (kMove (.tmp 42)) oNil))))))))))))))))))))))))
def K44r8:OpsF:=(oVal (.tmp 43) (kMove (.tmp 6)) (oVal (.tmp 44) (kInt aNeq (.tmp 43) (.con (.int .i64 0))) oNil))
def K44r9:OpsF:=(oVal (.tmp 45) (kMove (.tmp 6)) (oVal (.tmp 2) (kMove (.tmp 45)) oNil))
def K44r10:OpsF:=(oVal (.tmp 46) (kInt aAdd (.tmp 17) (.con (.int .i64 1))) (oVal (.tmp 17) (kMove (.tmp 46)) oNil))
def K44l0:K:=(kSeq (kRegion K44r5 [18]) (kSeq (kCond (.tmp 18) kSkip (kExit 0)) (kSeq (kBlock 1 (kSeq (kRegion K44r6 [5]) (kSeq (kRegionD K44r7 [6]) (kSeq (kRegion K44r8 [44]) (kCond (.tmp 44) (kSeq (kRegion K44r9 [2]) kRet) kSkip))))) (kRegion K44r10 [17]))))
def K44r11:OpsF:=(oVal (.tmp 2) (kMove (.con (.int .i64 0))) oNil)
theorem res44:Try.f44.results.toList=[.tmp 2]:=by kernel_rfl
def K44:K:=(kSeq (kRegion K44r0 [1,2]) (kSeq (kSeq (kRegion K44r1 [3]) (kSeq (kRegion K44r2 [12]) (kCond (.tmp 12) (kSeq (kRegion K44r3 [2]) kRet) kSkip))) (kSeq (kSeq (kRegion K44r4 [15,16,17]) (kBlock 0 (kLoop K44l0))) (kSeq (kRegion K44r11 [2]) kRet))))
theorem enter44 (cl:CallF) (a0:AV) (s:St):enterA Try.prog X cl 44 [a0] s Try.f44=finA Try.prog Try.f44 (K44 cl ⟨44,none,Try.f44.ntmps,X 44⟩ (paramsEnv 0 [a0] .nil) [] s) :=
  enterA_eq (b:=Try.f44.body.getD .skip) (by kernel_rfl) (by kernel_rfl) (by kernel_rfl) (by kernel_rfl) (by kernel_rfl)
def K55r0:OpsF:=(oVal (.tmp 2) (kBox (tag 44) (.tmp 0)) (oVal (.tmp 4) (kMove (.con (.int .i64 0))) oNil))
def K55r1:OpsF:=(oVal (.tmp 5) (kLoad (some 2) (.tmp 2)) (oVal (.tmp 6) (kMove (.tmp 1)) (oVal (.tmp 7) (kUn negA (.tmp 6)) (oVal (.tmp 8) (kMove (.tmp 1)) (oCall (.tmp 9) (.con (.func 70 [] [])) [(.tmp 5),(.tmp 7),(.tmp 8)] (oVal (.tmp 4) (kMove (.tmp 9)) oNil))))))
theorem res55:Try.f55.results.toList=[.tmp 4]:=by kernel_rfl
def K55:K:=(kSeq (kRegion K55r0 [2,4]) (kSeq (kRegion K55r1 [4]) kRet))
theorem enter55 (cl:CallF) (a0 a1:AV) (s:St):enterA Try.prog X cl 55 [a0,a1] s Try.f55=finA Try.prog Try.f55 (K55 cl ⟨55,none,Try.f55.ntmps,X 55⟩ (paramsEnv 0 [a0,a1] .nil) [] s) :=
  enterA_eq (b:=Try.f55.body.getD .skip) (by kernel_rfl) (by kernel_rfl) (by kernel_rfl) (by kernel_rfl) (by kernel_rfl)
end
end Go.Proofs.Ytkkdiibgjgnbhaa.code
set_option maxRecDepth 100000
namespace Go.Proofs.Ytkkdiibgjgnbhaa.code
open Go.Abs
noncomputable section
def K17r0:OpsF:=(oVal (.tmp 1) (kBox (tag 28) (.tmp 0)) (oVal (.tmp 2) (kAlloc [.nilslice] (tag 64)) (oVal (.tmp 3) (kAlloc [(.bool false)] (tag 4)) oNil)))
def K17r1:OpsF:=(oVal (.tmp 6) (kLoad (some 5) (.tmp 1)) (oCall (.tmp 7) (.con (.func 45 [] [])) [(.tmp 6)] (oVal (.tmp 4) (kAlloc [.nilslice] (tag 64)) (oVal .none (kStore 1 (.tmp 4) (.tmp 7)) oNil))))
def K17r2:OpsF:=(oVal (.tmp 8) (kLoad (some 5) (.tmp 1)) (oCall (.tmp 9) (.con (.func 46 [] [])) [(.tmp 8)] oNil))
def K17r3:OpsF:=(oVal (.tmp 17) (kLoad none (.tmp 4)) (oVal .none (kStore 1 (.tmp 2) (.tmp 17)) (oVal .none (kStore 1 (.tmp 3) (.con (.bool true))) oNil)))
theorem res17:Try.f17.results.toList=[.cell 2 64,.cell 3 4]:=by kernel_rfl
def K17:K:=(kSeq (kRegion K17r0 [1,2,3]) (kSeq (kRegion K17r1 [4]) (kSeq (kSeq (kRegion K17r2 [9]) (kBlock 0 (kRange (.tmp 9) [10] (rangeAt Try.f17 0).1 (rangeAt Try.f17 0).2))) (kSeq (kRegion K17r3 []) kRet))))
theorem enter17 (cl:CallF) (a0:AV) (s:St):enterA Try.prog X cl 17 [a0] s Try.f17=finA Try.prog Try.f17 (K17 cl ⟨17,none,Try.f17.ntmps,X 17⟩ (paramsEnv 0 [a0] .nil) [] s) :=
  enterA_eq (b:=Try.f17.body.getD .skip) (by kernel_rfl) (by kernel_rfl) (by kernel_rfl) (by kernel_rfl) (by kernel_rfl)
def K17a0r0:OpsF:=(oVal (.tmp 5) (kAlloc [(.int .i64 0),(.int .i64 0),(.int .i64 0),(.int .i64 0)] (tag 108)) (oVal .none (kStore 4 (.tmp 5) (.tmp 10)) oNil))
def K17a0:K:=(kRegion K17a0r0 [5])
theorem code17a0:codeK Try.prog (X 17) Try.f17.ntmps (rangeAt Try.f17 0).1=some K17a0:=by kernel_rfl
def K17b0r0:OpsF:=(oVal (.tmp 11) (kLoad none (.tmp 4)) (oVal (.tmp 12) (kLoad (some 4) (.tmp 5)) (oCall (.tmp 13) (.con (.func 47 [] [])) [(.tmp 11),(.tmp 12)] oNil)))
def K17b0r1:OpsF:=(oVal .none (kStore 1 (.tmp 2) (.con .nilslice)) (oVal .none (kStore 1 (.tmp 3) (.con (.bool false))) oNil))
def K17b0r2:OpsF:=(oVal (.tmp 14) (kLoad none (.tmp 4)) (oVal (.tmp 15) (kLoad (some 4) (.tmp 5)) (oCall (.tmp 16) (.con (.func 48 [] [])) [(.tmp 14),(.tmp 15)] (oVal .none (kStore 1 (.tmp 4) (.tmp 16)) oNil))))
def K17b0:K:=(kBlock 1 (kSeq (kSeq (kRegion K17b0r0 [13]) (kCond (.tmp 13) (kSeq (kRegion K17b0r1 []) kRet) kSkip)) (kRegion K17b0r2 [])))
theorem code17b0:codeK Try.prog (X 17) Try.f17.ntmps (rangeAt Try.f17 0).2=some K17b0:=by kernel_rfl
def K45r0:OpsF:=(oVal (.tmp 1) (kBox (tag 28) (.tmp 0)) (oVal (.tmp 2) (kMove (.con .nilslice)) oNil))
def K45r1:OpsF:=(oVal (.tmp 8) (kBuild [(.int .i64 0),(.int .i64 0)] []) (oVal (.tmp 9) (kBuildSlice [(.int .i64 0),(.int .i64 0)] 1 [(0,2,(.tmp 8))]) (oVal (.tmp 10) (kBuildSlice [.nilslice] 1 [(0,1,(.tmp 9))]) (oVal (.tmp 3) (kAlloc [.nilslice] (tag 64)) (oVal .none (kStore 1 (.tmp 3) (.tmp 10)) oNil)))))
def K45r2:OpsF:=(oVal (.tmp 11) (kLoad (some 5) (.tmp 1)) (oCall (.tmp 12) (.con (.func 58 [] [])) [(.tmp 11)] oNil))
def K45r3:OpsF:=(oVal (.tmp 55) (kLoad none (.tmp 3)) (oVal (.tmp 2) (kMove (.tmp 55)) oNil))
theorem res45:Try.f45.results.toList=[.tmp 2]:=by kernel_rfl
def K45:K:=(kSeq (kRegion K45r0 [1,2]) (kSeq (kRegion K45r1 [3]) (kSeq (kSeq (kRegion K45r2 [12]) (kBlock 0 (kRange (.tmp 12) [13] (rangeAt Try.f45 0).1 (rangeAt Try.f45 0).2))) (kSeq (kRegion K45r3 [2]) kRet))))
theorem enter45 (cl:CallF) (a0:AV) (s:St):enterA Try.prog X cl 45 [a0] s Try.f45=finA Try.prog Try.f45 (K45 cl ⟨45,none,Try.f45.ntmps,X 45⟩ (paramsEnv 0 [a0] .nil) [] s) :=
  enterA_eq (b:=Try.f45.body.getD .skip) (by kernel_rfl) (by kernel_rfl) (by kernel_rfl) (by kernel_rfl) (by kernel_rfl)
def K45a0r0:OpsF:=(oVal (.tmp 4) (kAlloc [(.int .i64 0),(.int .i64 0),(.int .i64 0),(.int .i64 0)] (tag 108)) (oVal .none (kStore 4 (.tmp 4) (.tmp 13)) oNil))
def K45a0:K:=(kRegion K45a0r0 [4])
theorem code45a0:codeK Try.prog (X 45) Try.f45.ntmps (rangeAt Try.f45 0).1=some K45a0:=by kernel_rfl
def K45b0r0:OpsF:=(oVal (.tmp 14) (kUn (fadA 0) (.tmp 4)) (oVal (.tmp 15) (kLoad none (.tmp 14)) (oVal (.tmp 16) (kInt aAdd (.tmp 15) (.con (.int .i64 1))) (oVal (.tmp 17) (kMake [(.int .i64 0),(.int .i64 0)] 16 (.tmp 16) (.tmp 16)) (oVal (.tmp 5) (kMove (.tmp 17)) oNil)))))
def K45b0r1:OpsF:=(oVal (.tmp 18) (kLoad none (.tmp 3)) (oVal (.tmp 19) (kUn lenSlA (.tmp 18)) (oVal (.tmp 20) (kMove (.con (.int .i64 0))) oNil)))
def K45b0r2:OpsF:=(oVal (.tmp 21) (kInt aLss (.tmp 20) (.tmp 19)) oNil)
def K45b0r3:OpsF:=(oVal (.tmp 22) (kMove (.tmp 20)) (oVal (.tmp 23) (kTwo (ixsA 1) (.tmp 18) (.tmp 20)) (oVal (.tmp 24) (kLoad none (.tmp 23)) (oVal (.tmp 6) (kMove (.tmp 22)) (oVal (.tmp 7) (kMove (.tmp 24)) oNil)))))
def K45b0r4:OpsF:=(oEnd [] (oVal (.tmp 25) (kMove (.tmp 5)) (oVal (.tmp 26) (kMove (.tmp 6)) (oVal (.tmp 27) (kUn (fadA 2) (.tmp 4)) (oVal (.tmp 28) (kLoad (some 2) (.tmp 27)) (oVal (.tmp 29) (kLoad none (.tmp 3)) (oVal (.tmp 30) (kUn (fadA 1) (.tmp 4)) (oVal (.tmp 31) (kLoad none (.tmp 30)) (oVal (.tmp 32) (kTwo (ixsA 1) (.tmp 29) (.tmp 31)) (oVal (.tmp 33) (kLoad none (.tmp 32)) (oVal (.tmp 34) (kMove (.tmp 6)) (oVal (.tmp 35) (kTwo (ixsA 2) (.tmp 33) (.tmp 34)) (oVal (.tmp 36) (kLoad (some 2) (.tmp 35)) (oCall (.tmp 37) (.con (.func 59 [] [])) [(.tmp 28),(.tmp 36)] (oVal (.tmp 38) (kTwo (ixsA 2) (.tmp 25) (.tmp 26)) (oVal .none (kStore 2 (.tmp 38) (.tmp 37)) oNil))))))))))))))))
def K45b0r5:OpsF:=(oEnd [(41,3)] (oVal (.tmp 39) (kLoad none (.tmp 3)) (oVal (.tmp 40) (kMove (.tmp 6)) (oVal (.tmp 41) (kMove (.tmp 7)) (oVal (.tmp 42) (kMove (.tmp 5)) (oVal (.tmp 43) (kMove (.tmp 6)) (oVal (.tmp 44) (kTwo (ixsA 2) (.tmp 42) (.tmp 43)) (oVal (.tmp 45) (kLoad (some 2) (.tmp 44)) (oCallT (some [3]) (.tmp 46) (.con (.func 60 [] [])) [(.tmp 45)] (oVal (.tmp 47) (kBuildSlice [(.int .i64 0),(.int .i64 0)] 1 [(0,2,(.tmp 46))]) (oVal (.tmp 48) (kTwo (appendA false 2 16 (tag 68)) (.tmp 41) (.tmp 47)) (oVal (.tmp 49) (kTwo (ixsA 1) (.tmp 39) (.tmp 40)) (oVal .none (kStore 1 (.tmp 49) (.tmp 48)) oNil)))))))))))))
def K45b0r6:OpsF:=(oVal (.tmp 50) (kInt aAdd (.tmp 20) (.con (.int .i64 1))) (oVal (.tmp 20) (kMove (.tmp 50)) oNil))
def K45b0l0:K:=(kSeq (kRegion K45b0r2 [21]) (kSeq (kCond (.tmp 21) kSkip (kExit 2)) (kSeq (kBlock 3 (kSeq (kRegion K45b0r3 [6,7]) (kSeq (kRegionD K45b0r4 []) (kRegionD K45b0r5 [])))) (kRegion K45b0r6 [20]))))
def K45b0r7:OpsF:=(oVal (.tmp 51) (kLoad none (.tmp 3)) (oVal (.tmp 52) (kMove (.tmp 5)) (oVal (.tmp 53) (kBuildSlice [.nilslice] 1 [(0,1,(.tmp 52))]) (oVal (.tmp 54) (kTwo (appendA false 1 24 (tag 69)) (.tmp 51) (.tmp 53)) (oVal .none (kStore 1 (.tmp 3) (.tmp 54)) oNil)))))
def K45b0:K:=(kBlock 1 (kSeq (kRegion K45b0r0 [5]) (kSeq (kSeq (kRegion K45b0r1 [18,19,20]) (kBlock 2 (kLoop K45b0l0))) (kRegion K45b0r7 []))))
theorem code45b0:codeK Try.prog (X 45) Try.f45.ntmps (rangeAt Try.f45 0).2=some K45b0:=by kernel_rfl
def K58r0:OpsF:=(oVal (.tmp 1) (kBox (tag 28) (.tmp 0)) (oVal (.tmp 2) (kMove (.con .nilfunc)) oNil))
def K58r1:OpsF:=(oVal (.tmp 3) (kFunc 71 [] [(.tmp 1)]) (oVal (.tmp 2) (kMove (.tmp 3)) oNil))
theorem res58:Try.f58.results.toList=[.tmp 2]:=by kernel_rfl
def K58:K:=(kSeq (kRegion K58r0 [1,2]) (kSeq (kRegion K58r1 [2]) kRet))
theorem enter58 (cl:CallF) (a0:AV) (s:St):enterA Try.prog X cl 58 [a0] s Try.f58=finA Try.prog Try.f58 (K58 cl ⟨58,none,Try.f58.ntmps,X 58⟩ (paramsEnv 0 [a0] .nil) [] s) :=
  enterA_eq (b:=Try.f58.body.getD .skip) (by kernel_rfl) (by kernel_rfl) (by kernel_rfl) (by kernel_rfl) (by kernel_rfl)
def K71r0:OpsF:=(oVal (.tmp 8) (kUn (fadA 0) (.tmp 1)) (oVal (.tmp 9) (kLoad none (.tmp 8)) (oVal (.tmp 10) (kUn lenSlA (.tmp 9)) (oVal (.tmp 11) (kMove (.con (.int .i64 0))) oNil))))
def K71r1:OpsF:=(oVal (.tmp 12) (kInt aLss (.tmp 11) (.tmp 10)) oNil)
def K71r2:OpsF:=(oVal (.tmp 13) (kMove (.tmp 11)) (oVal (.tmp 14) (kTwo (ixsA 3) (.tmp 9) (.tmp 11)) (oVal (.tmp 15) (kLoad (some 3) (.tmp 14)) (oVal (.tmp 4) (kAlloc [(.int .i64 0),(.int .i64 0),(.int .i64 0)] (tag 51)) (oVal (.tmp 3) (kMove (.tmp 13)) (oVal .none (kStore 3 (.tmp 4) (.tmp 15)) oNil))))))
def K71r3:OpsF:=(oEnd [] (oVal (.tmp 16) (kMove (.tmp 0)) (oVal (.tmp 17) (kMove (.tmp 3)) (oCallT (some [19]) (.tmp 18) (.con (.func 18 [] [])) [(.tmp 17)] (oVal (.tmp 19) (kUn (fadA 1) (.tmp 4)) (oVal (.tmp 20) (kLoad (some 2) (.tmp 19)) (oCall (.tmp 21) (.con (.func 62 [] [])) [(.tmp 20)] (oVal (.tmp 22) (kBuild [(.int .i64 0),(.int .i64 0),(.int .i64 0),(.int .i64 0)] [(0,1,(.tmp 18)),(1,1,(.con (.int .i64 0))),(2,2,(.tmp 21))]) (oCall (.tmp 23) (.tmp 16) [(.tmp 22)] (oVal (.tmp 24) (kUn notA (.tmp 23)) oNil))))))))))
def K71r4:OpsF:=(oVal (.tmp 25) (kInt aAdd (.tmp 11) (.con (.int .i64 1))) (oVal (.tmp 11) (kMove (.tmp 25)) oNil))
def K71l0:K:=(kSeq (kRegion K71r1 [12]) (kSeq (kCond (.tmp 12) kSkip (kExit 0)) (kSeq (kBlock 1 (kSeq (kRegion K71r2 [4,3]) (kSeq (kRegionD K71r3 [24]) (kCond (.tmp 24) kRet kSkip)))) (kRegion K71r4 [11]))))
def K71r5:OpsF:=(oVal (.tmp 26) (kUn (fadA 2) (.tmp 1)) (oVal (.tmp 27) (kLoad none (.tmp 26)) (oVal (.tmp 28) (kUn lenSlA (.tmp 27)) (oVal (.tmp 29) (kMove (.con (.int .i64 0))) oNil))))
def K71r6:OpsF:=(oVal (.tmp 30) (kInt aLss (.tmp 29) (.tmp 28)) oNil)
def K71r7:OpsF:=(oVal (.tmp 31) (kMove (.tmp 29)) (oVal (.tmp 32) (kTwo (ixsA 4) (.tmp 27) (.tmp 29)) (oVal (.tmp 33) (kLoad (some 4) (.tmp 32)) (oVal (.tmp 6) (kAlloc [(.int .i64 0),(.int .i64 0),(.int .i64 0),(.int .i64 0)] (tag 54)) (oVal (.tmp 5) (kMove (.tmp 31)) (oVal .none (kStore 4 (.tmp 6) (.tmp 33)) oNil))))))
def K71r8:OpsF:=(oEnd [] (oVal (.tmp 34) (kMove (.tmp 0)) (oVal (.tmp 35) (kLoad (some 5) (.tmp 1)) (oVal (.tmp 36) (kMove (.tmp 5)) (oCallT (some [38]) (.tmp 37) (.con (.func 22 [] [])) [(.tmp 35),(.tmp 36),(.con (.int .i64 0))] (oVal (.tmp 38) (kUn (fadA 0) (.tmp 6)) (oVal (.tmp 39) (kLoad (some 2) (.tmp 38)) (oCall (.tmp 40) (.con (.func 62 [] [])) [(.tmp 39)] (oCall (.tmp 41) (.con (.func 60 [] [])) [(.tmp 40)] (oVal (.tmp 42) (kBuild [(.int .i64 0),(.int .i64 0),(.int .i64 0),(.int .i64 0)] [(0,1,(.tmp 37)),(1,1,(.con (.int .i64 0))),(2,2,(.tmp 41))]) (oCall (.tmp 43) (.tmp 34) [(.tmp 42)] (oVal (.tmp 44) (kUn notA (.tmp 43)) oNil))))))))))))
def K71r9:OpsF:=(oVal (.tmp 45) (kUn (fadA 4) (.tmp 1)) (oVal (.tmp 46) (kLoad none (.tmp 45)) (oVal (.tmp 47) (kMove (.con (.int .i64 0))) oNil)))
def K71r10:OpsF:=(oVal (.tmp 48) (kInt aLss (.tmp 47) (.tmp 46)) oNil)
def K71r11:OpsF:=(oVal (.tmp 49) (kMove (.tmp 47)) (oVal (.tmp 7) (kMove (.tmp 49)) oNil))
def K71r12:OpsF:=(oEnd [] (oVal (.tmp 50) (kMove (.tmp 0)) (oVal (.tmp 51) (kLoad (some 5) (.tmp 1)) (oVal (.tmp 52) (kMove (.tmp 5)) (oVal (.tmp 53) (kMove (.tmp 7)) (oVal (.tmp 54) (kInt aAdd (.tmp 53) (.con (.int .i64 1))) (oCallT (some [1,60]) (.tmp 55) (.con (.func 22 [] [])) [(.tmp 51),(.tmp 52),(.tmp 54)] (oVal (.tmp 56) (kLoad (some 5) (.tmp 1)) (oVal (.tmp 57) (kMove (.tmp 5)) (oVal (.tmp 58) (kMove (.tmp 7)) (oCallT (some [60]) (.tmp 59) (.con (.func 22 [] [])) [(.tmp 56),(.tmp 57),(.tmp 58)] (oVal (.tmp 60) (kUn (fadA 2) (.tmp 6)) (oVal (.tmp 61) (kLoad (some 2) (.tmp 60)) (oCall (.tmp 62) (.con (.func 62 [] [])) [(.tmp 61)] (oCall (.tmp 63) (.con (.func 60 [] [])) [(.tmp 62)] (oVal (.tmp 64) (kBuild [(.int .i64 0),(.int .i64 0),(.int .i64 0),(.int .i64 0)] [(0,1,(.tmp 55)),(1,1,(.tmp 59)),(2,2,(.tmp 63))]) (oCall (.tmp 65) (.tmp 50) [(.tmp 64)] (oVal (.tmp 66) (kUn notA (.tmp 65)) oNil))))))))))))))))))
def K71r13:OpsF:=(oVal (.tmp 67) (kInt aAdd (.tmp 47) (.con (.int .i64 1))) (oVal (.tmp 47) (kMove (.tmp 67)) oNil))
def K71l1:K:=(kSeq (kRegion K71r10 [48]) (kSeq (kCond (.tmp 48) kSkip (kExit 4)) (kSeq (kBlock 5 (kSeq (kRegion K71r11 [7]) (kSeq (kRegionD K71r12 [66]) (kCond (.tmp 66) kRet kSkip)))) (kRegion K71r13 [47]))))
def K71r14:OpsF:=(oVal (.tmp 68) (kInt aAdd (.tmp 29) (.con (.int .i64 1))) (oVal (.tmp 29) (kMove (.tmp 68)) oNil))
def K71l2:K:=(kSeq (kRegion K71r6 [30]) (kSeq (kCond (.tmp 30) kSkip (kExit 2)) (kSeq (kBlock 3 (kSeq (kRegion K71r7 [6,5]) (kSeq (kSeq (kRegionD K71r8 [44]) (kCond (.tmp 44) kRet kSkip)) (kSeq (kRegion K71r9 [46,47]) (kBlock 4 (kLoop K71l1)))))) (kRegion K71r14 [29]))))
theorem res71:Try.f71.results.toList=[]:=by kernel_rfl
def K71:K:=(kSeq (kSeq (kRegion K71r0 [9,10,11]) (kBlock 0 (kLoop K71l0))) (kSeq (kRegion K71r5 [27,28,29]) (kBlock 2 (kLoop K71l2))))
theorem enter71 (cl:CallF) (a0 a1:AV) (s:St):enterA Try.prog X cl 71 [a0,a1] s Try.f71=finA Try.prog Try.f71 (K71 cl ⟨71,none,Try.f71.ntmps,X 71⟩ (paramsEnv 0 [a0,a1] .nil) [] s) :=
  enterA_eq (b:=Try.f71.body.getD .skip) (by kernel_rfl) (by kernel_rfl) (by kernel_rfl) (by kernel_rfl) (by kernel_rfl)
def K46r0:OpsF:=(oVal (.tmp 1) (kBox (tag 28) (.tmp 0)) (oVal (.tmp 2) (kMove (.con .nilfunc)) oNil))
def K46r1:OpsF:=(oVal (.tmp 3) (kFunc 61 [] [(.tmp 1)]) (oVal (.tmp 2) (kMove (.tmp 3)) oNil))
theorem res46:Try.f46.results.toList=[.tmp 2]:=by kernel_rfl
def K46:K:=(kSeq (kRegion K46r0 [1,2]) (kSeq (kRegion K46r1 [2]) kRet))
theorem enter46 (cl:CallF) (a0:AV) (s:St):enterA Try.prog X cl 46 [a0] s Try.f46=finA Try.prog Try.f46 (K46 cl ⟨46,none,Try.f46.ntmps,X 46⟩ (paramsEnv 0 [a0] .nil) [] s) :=
  enterA_eq (b:=Try.f46.body.getD .skip) (by kernel_rfl) (by kernel_rfl) (by kernel_rfl) (by kernel_rfl) (by kernel_rfl)
def K61r0:OpsF:=(oVal (.tmp 8) (kUn (fadA 1) (.tmp 1)) (oVal (.tmp 9) (kLoad none (.tmp 8)) (oVal (.tmp 10) (kUn lenSlA (.tmp 9)) (oVal (.tmp 11) (kMove (.con (.int .i64 0))) oNil))))
def K61r1:OpsF:=(oVal (.tmp 12) (kInt aLss (.tmp 11) (.tmp 10)) oNil)
def K61r2:OpsF:=(oVal (.tmp 13) (kTwo (ixsA 4) (.tmp 9) (.tmp 11)) (oVal (.tmp 14) (kLoad (some 4) (.tmp 13)) (oVal (.tmp 4) (kAlloc [(.int .i64 0),(.int .i64 0),(.int .i64 0),(.int .i64 0)] (tag 96)) (oVal .none (kStore 4 (.tmp 4) (.tmp 14)) oNil))))
def K61r3:OpsF:=(oEnd [] (oVal (.tmp 15) (kMove (.tmp 0)) (oVal (.tmp 16) (kUn (fadA 0) (.tmp 4)) (oVal (.tmp 17) (kLoad none (.tmp 16)) (oCallT (some [19,22]) (.tmp 18) (.con (.func 18 [] [])) [(.tmp 17)] (oVal (.tmp 19) (kUn (fadA 1) (.tmp 4)) (oVal (.tmp 20) (kLoad none (.tmp 19)) (oCallT (some [22]) (.tmp 21) (.con (.func 18 [] [])) [(.tmp 20)] (oVal (.tmp 22) (kUn (fadA 2) (.tmp 4)) (oVal (.tmp 23) (kLoad (some 2) (.tmp 22)) (oCall (.tmp 24) (.con (.func 62 [] [])) [(.tmp 23)] (oVal (.tmp 25) (kBuild [(.int .i64 0),(.int .i64 0),(.int .i64 0),(.int .i64 0)] [(0,1,(.tmp 18)),(1,1,(.tmp 21)),(2,2,(.tmp 24))]) (oCall (.tmp 26) (.tmp 15) [(.tmp 25)] (oVal (.tmp 27) (kUn notA (.tmp 26)) oNil))))))))))))))
def K61r4:OpsF:=(oVal (.tmp 28) (kInt aAdd (.tmp 11) (.con (.int .i64 1))) (oVal (.tmp 11) (kMove (.tmp 28)) oNil))
def K61l0:K:=(kSeq (kRegion K61r1 [12]) (kSeq (kCond (.tmp 12) kSkip (kExit 0)) (kSeq (kBlock 1 (kSeq (kRegion K61r2 [4]) (kSeq (kRegionD K61r3 [27]) (kCond (.tmp 27) kRet kSkip)))) (kRegion K61r4 [11]))))
def K61r5:OpsF:=(oVal (.tmp 29) (kUn (fadA 3) (.tmp 1)) (oVal (.tmp 30) (kLoad none (.tmp 29)) (oVal (.tmp 31) (kUn lenSlA (.tmp 30)) (oVal (.tmp 32) (kMove (.con (.int .i64 0))) oNil))))
def K61r6:OpsF:=(oVal (.tmp 33) (kInt aLss (.tmp 32) (.tmp 31)) oNil)
def K61r7:OpsF:=(oVal (.tmp 34) (kTwo (ixsA 4) (.tmp 30) (.tmp 32)) (oVal (.tmp 35) (kLoad (some 4) (.tmp 34)) (oVal (.tmp 6) (kAlloc [(.int .i64 0),(.int .i64 0),(.int .i64 0),(.int .i64 0)] (tag 98)) (oVal .none (kStore 4 (.tmp 6) (.tmp 35)) oNil))))
def K61r8:OpsF:=(oEnd [] (oVal (.tmp 36) (kUn (fadA 3) (.tmp 6)) (oVal (.tmp 37) (kLoad none (.tmp 36)) (oVal (.tmp 38) (kUn (fadA 0) (.tmp 1)) (oVal (.tmp 39) (kLoad none (.tmp 38)) (oVal (.tmp 40) (kUn (fadA 2) (.tmp 6)) (oVal (.tmp 41) (kLoad none (.tmp 40)) (oVal (.tmp 42) (kTwo (ixsA 3) (.tmp 39) (.tmp 41)) (oVal (.tmp 43) (kUn (fadA 0) (.tmp 42)) (oVal (.tmp 44) (kLoad none (.tmp 43)) (oVal (.tmp 45) (kInt aSub (.tmp 37) (.tmp 44)) (oVal (.tmp 7) (kMove (.tmp 45)) oNil))))))))))))
def K61r9:OpsF:=(oEnd [] (oVal (.tmp 46) (kMove (.tmp 0)) (oVal (.tmp 47) (kUn (fadA 2) (.tmp 6)) (oVal (.tmp 48) (kLoad none (.tmp 47)) (oCallT (some [1,51,53]) (.tmp 49) (.con (.func 18 [] [])) [(.tmp 48)] (oVal (.tmp 50) (kLoad (some 5) (.tmp 1)) (oVal (.tmp 51) (kUn (fadA 0) (.tmp 6)) (oVal (.tmp 52) (kLoad none (.tmp 51)) (oVal (.tmp 53) (kUn (fadA 1) (.tmp 6)) (oVal (.tmp 54) (kLoad none (.tmp 53)) (oCall (.tmp 55) (.con (.func 22 [] [])) [(.tmp 50),(.tmp 52),(.tmp 54)] (oVal (.tmp 56) (kMove (.tmp 7)) (oVal (.tmp 57) (kMove (.tmp 7)) (oVal (.tmp 58) (kBuild [(.int .i64 0),(.int .i64 0)] [(0,1,(.tmp 56)),(1,1,(.tmp 57))]) (oVal (.tmp 59) (kBuild [(.int .i64 0),(.int .i64 0),(.int .i64 0),(.int .i64 0)] [(0,1,(.tmp 49)),(1,1,(.tmp 55)),(2,2,(.tmp 58))]) (oCall (.tmp 60) (.tmp 46) [(.tmp 59)] (oVal (.tmp 61) (kUn notA (.tmp 60)) oNil)))))))))))))))))
def K61r10:OpsF:=(oVal (.tmp 62) (kInt aAdd (.tmp 32) (.con (.int .i64 1))) (oVal (.tmp 32) (kMove (.tmp 62)) oNil))
def K61l1:K:=(kSeq (kRegion K61r6 [33]) (kSeq (kCond (.tmp 33) kSkip (kExit 2)) (kSeq (kBlock 3 (kSeq (kRegion K61r7 [6]) (kSeq (kRegionD K61r8 [7]) (kSeq (kRegionD K61r9 [61]) (kCond (.tmp 61) kRet kSkip))))) (kRegion K61r10 [32]))))
theorem res61:Try.f61.results.toList=[]:=by kernel_rfl
def K61:K:=(kSeq (kSeq (kRegion K61r0 [9,10,11]) (kBlock 0 (kLoop K61l0))) (kSeq (kRegion K61r5 [30,31,32]) (kBlock 2 (kLoop K61l1))))
theorem enter61 (cl:CallF) (a0 a1:AV) (s:St):enterA Try.prog X cl 61 [a0,a1] s Try.f61=finA Try.prog Try.f61 (K61 cl ⟨61,none,Try.f61.ntmps,X 61⟩ (paramsEnv 0 [a0,a1] .nil) [] s) :=
  enterA_eq (b:=Try.f61.body.getD .skip) (by kernel_rfl) (by kernel_rfl) (by kernel_rfl) (by kernel_rfl) (by kernel_rfl)
def K47r0:OpsF:=(oVal (.tmp 3) (kBox (tag 108) (.tmp 1)) (oVal (.tmp 4) (kMove (.con (.bool false))) oNil))
def K47r1:OpsF:=(oEnd [] (oVal (.tmp 6) (kMove (.tmp 0)) (oVal (.tmp 7) (kUn (fadA 0) (.tmp 3)) (oVal (.tmp 8) (kLoad none (.tmp 7)) (oVal (.tmp 9) (kTwo (ixsA 1) (.tmp 6) (.tmp 8)) (oVal (.tmp 10) (kLoad none (.tmp 9)) (oVal (.tmp 11) (kUn (fadA 1) (.tmp 3)) (oVal (.tmp 12) (kLoad none (.tmp 11)) (oVal (.tmp 13) (kTwo (ixsA 2) (.tmp 10) (.tmp 12)) (oVal (.tmp 14) (kLoad (some 2) (.tmp 13)) (oVal (.tmp 15) (kUn (fadA 2) (.tmp 3)) (oVal (.tmp 16) (kLoad (some 2) (.tmp 15)) (oCall (.tmp 17) (.con (.func 63 [] [])) [(.tmp 14),(.tmp 16)] (oVal (.tmp 5) (kAlloc [(.int .i64 0),(.int .i64 0)] (tag 68)) (oVal .none (kStore 2 (.tmp 5) (.tmp 17)) oNil)))))))))))))))
def K47r2:OpsF:=(oVal (.tmp 18) (kTwo (ixaA 2 1) (.tmp 5) (.con (.int .i64 0))) (oVal (.tmp 19) (kLoad none (.tmp 18)) (oVal (.tmp 20) (kTwo (ixaA 2 1) (.tmp 5) (.con (.int .i64 1))) (oVal (.tmp 21) (kLoad none (.tmp 20)) (oVal (.tmp 22) (kGtr (.tmp 19) (.tmp 21)) (oVal (.tmp 4) (kMove (.tmp 22)) oNil))))))
theorem res47:Try.f47.results.toList=[.tmp 4]:=by kernel_rfl
def K47:K:=(kSeq (kRegion K47r0 [3,4]) (kSeq (kRegionD K47r1 [5]) (kSeq (kRegion K47r2 [4]) kRet)))
theorem enter47 (cl:CallF) (a0 a1:AV) (s:St):enterA Try.prog X cl 47 [a0,a1] s Try.f47=finA Try.prog Try.f47 (K47 cl ⟨47,none,Try.f47.ntmps,X 47⟩ (paramsEnv 0 [a0,a1] .nil) [] s) :=
  enterA_eq (b:=Try.f47.body.getD .skip) (by kernel_rfl) (by kernel_rfl) (by kernel_rfl) (by kernel_rfl) (by kernel_rfl)
def K48r0:OpsF:=(oVal (.tmp 3) (kBox (tag 108) (.tmp 1)) (oVal (.tmp 4) (kMove (.con .nilslice)) oNil))
def K48r1:OpsF:=(oEnd [] (oVal (.tmp 13) (kMove (.tmp 0)) (oVal (.tmp 14) (kUn (fadA 0) (.tmp 3)) (oVal (.tmp 15) (kLoad none (.tmp 14)) (oVal (.tmp 16) (kTwo (ixsA 1) (.tmp 13) (.tmp 15)) (oVal (.tmp 17) (kLoad none (.tmp 16)) (oVal (.tmp 18) (kUn (fadA 1) (.tmp 3)) (oVal (.tmp 19) (kLoad none (.tmp 18)) (oVal (.tmp 20) (kTwo (ixsA 2) (.tmp 17) (.tmp 19)) (oVal (.tmp 21) (kLoad (some 2) (.tmp 20)) (oVal (.tmp 22) (kUn (fadA 2) (.tmp 3)) (oVal (.tmp 23) (kLoad (some 2) (.tmp 22)) (oCall (.tmp 24) (.con (.func 63 [] [])) [(.tmp 21),(.tmp 23)] (oVal (.tmp 5) (kAlloc [(.int .i64 0),(.int .i64 0)] (tag 68)) (oVal .none (kStore 2 (.tmp 5) (.tmp 24)) oNil)))))))))))))))
def K48r2:OpsF:=(oVal (.tmp 25) (kMove (.tmp 0)) (oVal (.tmp 26) (kUn lenSlA (.tmp 25)) (oVal (.tmp 27) (kMake [.nilslice] 24 (.tmp 26) (.tmp 26)) (oVal (.tmp 6) (kMove (.tmp 27)) oNil))))
def K48r3:OpsF:=(oVal (.tmp 28) (kMove (.tmp 0)) (oVal (.tmp 29) (kUn lenSlA (.tmp 28)) (oVal (.tmp 30) (kMove (.con (.int .i64 0))) oNil)))
def K48r4:OpsF:=(oVal (.tmp 31) (kInt aLss (.tmp 30) (.tmp 29)) oNil)
def K48r5:OpsF:=(oVal (.tmp 32) (kMove (.tmp 30)) (oVal (.tmp 33) (kTwo (ixsA 1) (.tmp 28) (.tmp 30)) (oVal (.tmp 34) (kLoad none (.tmp 33)) (oVal (.tmp 7) (kMove (.tmp 32)) (oVal (.tmp 8) (kMove (.tmp 34)) oNil)))))
def K48r6:OpsF:=(oVal (.tmp 35) (kMove (.tmp 6)) (oVal (.tmp 36) (kMove (.tmp 7)) (oVal (.tmp 37) (kMove (.tmp 8)) (oVal (.tmp 38) (kUn lenSlA (.tmp 37)) (oVal (.tmp 39) (kMake [(.int .i64 0),(.int .i64 0)] 16 (.tmp 38) (.tmp 38)) (oVal (.tmp 40) (kTwo (ixsA 1) (.tmp 35) (.tmp 36)) (oVal .none (kStore 1 (.tmp 40) (.tmp 39)) oNil)))))))
def K48r7:OpsF:=(oEnd [] (oVal (.tmp 41) (kMove (.tmp 8)) (oVal (.tmp 42) (kUn (fadA 0) (.tmp 3)) (oVal (.tmp 43) (kLoad none (.tmp 42)) (oVal (.tmp 44) (kTwo (ixsA 2) (.tmp 41) (.tmp 43)) (oVal (.tmp 45) (kLoad (some 2) (.tmp 44)) (oVal (.tmp 46) (kLoad (some 2) (.tmp 5)) (oCallT (some [49,51,5]) (.tmp 47) (.con (.func 59 [] [])) [(.tmp 45),(.tmp 46)] (oVal (.tmp 48) (kMove (.tmp 8)) (oVal (.tmp 49) (kUn (fadA 1) (.tmp 3)) (oVal (.tmp 50) (kLoad none (.tmp 49)) (oVal (.tmp 51) (kTwo (ixsA 2) (.tmp 48) (.tmp 50)) (oVal (.tmp 52) (kLoad (some 2) (.tmp 51)) (oVal (.tmp 53) (kLoad (some 2) (.tmp 5)) (oCallT (some [49,51]) (.tmp 54) (.con (.func 60 [] [])) [(.tmp 53)] (oCall (.tmp 55) (.con (.func 59 [] [])) [(.tmp 52),(.tmp 54)] (oVal (.tmp 9) (kAlloc [(.int .i64 0),(.int .i64 0)] (tag 68)) (oVal (.tmp 10) (kAlloc [(.int .i64 0),(.int .i64 0)] (tag 68)) (oVal .none (kStore 2 (.tmp 9) (.tmp 47)) (oVal .none (kStore 2 (.tmp 10) (.tmp 55)) oNil))))))))))))))))))))
def K48r8:OpsF:=(oVal (.tmp 56) (kMove (.tmp 8)) (oVal (.tmp 57) (kUn lenSlA (.tmp 56)) (oVal (.tmp 58) (kMove (.con (.int .i64 0))) oNil)))
def K48r9:OpsF:=(oVal (.tmp 59) (kInt aLss (.tmp 58) (.tmp 57)) oNil)
def K48r10:OpsF:=(oVal (.tmp 60) (kMove (.tmp 58)) (oVal (.tmp 61) (kTwo (ixsA 2) (.tmp 56) (.tmp 58)) (oVal (.tmp 62) (kLoad (some 2) (.tmp 61)) (oVal (.tmp 12) (kAlloc [(.int .i64 0),(.int .i64 0)] (tag 68)) (oVal (.tmp 11) (kMove (.tmp 60)) (oVal .none (kStore 2 (.tmp 12) (.tmp 62)) oNil))))))
def K48r11:OpsF:=(oEnd [] (oVal (.tmp 63) (kMove (.tmp 6)) (oVal (.tmp 64) (kMove (.tmp 7)) (oVal (.tmp 65) (kTwo (ixsA 1) (.tmp 63) (.tmp 64)) (oVal (.tmp 66) (kLoad none (.tmp 65)) (oVal (.tmp 67) (kMove (.tmp 11)) (oVal (.tmp 68) (kLoad (some 2) (.tmp 12)) (oVal (.tmp 69) (kLoad (some 2) (.tmp 9)) (oVal (.tmp 70) (kMove (.tmp 0)) (oVal (.tmp 71) (kUn (fadA 1) (.tmp 3)) (oVal (.tmp 72) (kLoad none (.tmp 71)) (oVal (.tmp 73) (kTwo (ixsA 1) (.tmp 70) (.tmp 72)) (oVal (.tmp 74) (kLoad none (.tmp 73)) (oVal (.tmp 75) (kMove (.tmp 11)) (oVal (.tmp 76) (kTwo (ixsA 2) (.tmp 74) (.tmp 75)) (oVal (.tmp 77) (kLoad (some 2) (.tmp 76)) (oCallT (some [65,12,10,82,84,87]) (.tmp 78) (.con (.func 59 [] [])) [(.tmp 69),(.tmp 77)] (oCallT (some [65,10,82,84,87]) (.tmp 79) (.con (.func 63 [] [])) [(.tmp 68),(.tmp 78)] (oVal (.tmp 80) (kLoad (some 2) (.tmp 10)) (oVal (.tmp 81) (kMove (.tmp 0)) (oVal (.tmp 82) (kUn (fadA 0) (.tmp 3)) (oVal (.tmp 83) (kLoad none (.tmp 82)) (oVal (.tmp 84) (kTwo (ixsA 1) (.tmp 81) (.tmp 83)) (oVal (.tmp 85) (kLoad none (.tmp 84)) (oVal (.tmp 86) (kMove (.tmp 11)) (oVal (.tmp 87) (kTwo (ixsA 2) (.tmp 85) (.tmp 86)) (oVal (.tmp 88) (kLoad (some 2) (.tmp 87)) (oCallT (some [65]) (.tmp 89) (.con (.func 59 [] [])) [(.tmp 80),(.tmp 88)] (oCallT (some [65]) (.tmp 90) (.con (.func 63 [] [])) [(.tmp 79),(.tmp 89)] (oVal (.tmp 91) (kTwo (ixsA 2) (.tmp 66) (.tmp 67)) (oVal .none (kStore 2 (.tmp 91) (.tmp 90)) oNil)))))))))))))))))))))))))))))))
def K48r12:OpsF:=(oVal (.tmp 92) (kInt aAdd (.tmp 58) (.con (.int .i64 1))) (oVal (.tmp 58) (kMove (.tmp 92)) oNil))
def K48l0:K:=(kSeq (kRegion K48r9 [59]) (kSeq (kCond (.tmp 59) kSkip (kExit 2)) (kSeq (kBlock 3 (kSeq (kRegion K48r10 [12,11]) (kRegionD K48r11 []))) (kRegion K48r12 [58]))))
def K48r13:OpsF:=(oVal (.tmp 93) (kInt aAdd (.tmp 30) (.con (.int .i64 1))) (oVal (.tmp 30) (kMove (.tmp 93)) oNil))
def K48l1:K:=(kSeq (kRegion K48r4 [31]) (kSeq (kCond (.tmp 31) kSkip (kExit 0)) (kSeq (kBlock 1 (kSeq (kRegion K48r5 [7,8]) (kSeq (kRegion K48r6 []) (kSeq (kRegionD K48r7 [9,10]) (kSeq (kRegion K48r8 [56,57,58]) (kBlock 2 (kLoop K48l0))))))) (kRegion K48r13 [30]))))
def K48r14:OpsF:=(oVal (.tmp 94) (kMove (.tmp 6)) (oVal (.tmp 4) (kMove (.tmp 94)) oNil))
theorem res48:Try.f48.results.toList=[.tmp 4]:=by kernel_rfl
def K48:K:=(kSeq (kRegion K48r0 [3,4]) (kSeq (kRegionD K48r1 [5]) (kSeq (kRegion K48r2 [6]) (kSeq (kSeq (kRegion K48r3 [28,29,30]) (kBlock 0 (kLoop K48l1))) (kSeq (kRegion K48r14 [4]) kRet)))))
theorem enter48 (cl:CallF) (a0 a1:AV) (s:St):enterA Try.prog X cl 48 [a0,a1] s Try.f48=finA Try.prog Try.f48 (K48 cl ⟨48,none,Try.f48.ntmps,X 48⟩ (paramsEnv 0 [a0,a1] .nil) [] s) :=
  enterA_eq (b:=Try.f48.body.getD .skip) (by kernel_rfl) (by kernel_rfl) (by kernel_rfl) (by kernel_rfl) (by kernel_rfl)
def K59r0:OpsF:=(oVal (.tmp 2) (kBox (tag 68) (.tmp 0)) (oVal (.tmp 3) (kBox (tag 68) (.tmp 1)) (oVal (.tmp 4) (kAlloc [(.int .i64 0),(.int .i64 0)] (tag 68)) oNil)))
def K59r1:OpsF:=(oVal (.tmp 5) (kTwo (ixaA 2 1) (.tmp 2) (.con (.int .i64 0))) (oVal (.tmp 6) (kLoad none (.tmp 5)) (oVal (.tmp 7) (kTwo (ixaA 2 1) (.tmp 3) (.con (.int .i64 0))) (oVal (.tmp 8) (kLoad none (.tmp 7)) (oVal (.tmp 9) (kInt aAdd (.tmp 6) (.tmp 8)) (oVal (.tmp 10) (kTwo (ixaA 2 1) (.tmp 2) (.con (.int .i64 1))) (oVal (.tmp 11) (kLoad none (.tmp 10)) (oVal (.tmp 12) (kTwo (ixaA 2 1) (.tmp 3) (.con (.int .i64 1))) (oVal (.tmp 13) (kLoad none (.tmp 12)) (oVal (.tmp 14) (kInt aAdd (.tmp 11) (.tmp 13)) (oVal (.tmp 15) (kBuild [(.int .i64 0),(.int .i64 0)] [(0,1,(.tmp 9)),(1,1,(.tmp 14))]) (oVal .none (kStore 2 (.tmp 4) (.tmp 15)) oNil))))))))))))
theorem res59:Try.f59.results.toList=[.cell 4 68]:=by kernel_rfl
def K59:K:=(kSeq (kRegion K59r0 [2,3,4]) (kSeq (kRegion K59r1 []) kRet))
theorem enter59 (cl:CallF) (a0 a1:AV) (s:St):enterA Try.prog X cl 59 [a0,a1] s Try.f59=finA Try.prog Try.f59 (K59 cl ⟨59,none,Try.f59.ntmps,X 59⟩ (paramsEnv 0 [a0,a1] .nil) [] s) :=
  enterA_eq (b:=Try.f59.body.getD .skip) (by kernel_rfl) (by kernel_rfl) (by kernel_rfl) (by kernel_rfl) (by kernel_rfl)
def K60r0:OpsF:=(oVal (.tmp 1) (kBox (tag 68) (.tmp 0)) (oVal (.tmp 2) (kAlloc [(.int .i64 0),(.int .i64 0)] (tag 68)) oNil))
def K60r1:OpsF:=(oVal (.tmp 3) (kTwo (ixaA 2 1) (.tmp 1) (.con (.int .i64 1))) (oVal (.tmp 4) (kLoad none (.tmp 3)) (oVal (.tmp 5) (kUn negA (.tmp 4)) (oVal (.tmp 6) (kTwo (ixaA 2 1) (.tmp 1) (.con (.int .i64 0))) (oVal (.tmp 7) (kLoad none (.tmp 6)) (oVal (.tmp 8) (kUn negA (.tmp 7)) (oVal (.tmp 9) (kBuild [(.int .i64 0),(.int .i64 0)] [(0,1,(.tmp 5)),(1,1,(.tmp 8))]) (oVal .none (kStore 2 (.tmp 2) (.tmp 9)) oNil))))))))
theorem res60:Try.f60.results.toList=[.cell 2 68]:=by kernel_rfl
def K60:K:=(kSeq (kRegion K60r0 [1,2]) (kSeq (kRegion K60r1 []) kRet))
theorem enter60 (cl:CallF) (a0:AV) (s:St):enterA Try.prog X cl 60 [a0] s Try.f60=finA Try.prog Try.f60 (K60 cl ⟨60,none,Try.f60.ntmps,X 60⟩ (paramsEnv 0 [a0] .nil) [] s) :=
  enterA_eq (b:=Try.f60.body.getD .skip) (by kernel_rfl) (by kernel_rfl) (by kernel_rfl) (by kernel_rfl) (by kernel_rfl)
def K63r0:OpsF:=(oVal (.tmp 2) (kBox (tag 68) (.tmp 0)) (oVal (.tmp 3) (kBox (tag 68) (.tmp 1)) (oVal (.tmp 4) (kAlloc [(.int .i64 0),(.int .i64 0)] (tag 68)) oNil)))
def K63r1:OpsF:=(oVal (.tmp 5) (kTwo (ixaA 2 1) (.tmp 2) (.con (.int .i64 0))) (oVal (.tmp 6) (kLoad none (.tmp 5)) (oVal (.tmp 7) (kTwo (ixaA 2 1) (.tmp 3) (.con (.int .i64 0))) (oVal (.tmp 8) (kLoad none (.tmp 7)) (oVal (.tmp 9) (kFold maxA (.tmp 6) [(.tmp 8)]) (oVal (.tmp 10) (kTwo (ixaA 2 1) (.tmp 2) (.con (.int .i64 1))) (oVal (.tmp 11) (kLoad none (.tmp 10)) (oVal (.tmp 12) (kTwo (ixaA 2 1) (.tmp 3) (.con (.int .i64 1))) (oVal (.tmp 13) (kLoad none (.tmp 12)) (oVal (.tmp 14) (kFold minA (.tmp 11) [(.tmp 13)]) (oVal (.tmp 15) (kBuild [(.int .i64 0),(.int .i64 0)] [(0,1,(.tmp 9)),(1,1,(.tmp 14))]) (oVal .none (kStore 2 (.tmp 4) (.tmp 15)) oNil))))))))))))
theorem res63:Try.f63.results.toList=[.cell 4 68]:=by kernel_rfl
def K63:K:=(kSeq (kRegion K63r0 [2,3,4]) (kSeq (kRegion K63r1 []) kRet))
theorem enter63 (cl:CallF) (a0 a1:AV) (s:St):enterA Try.prog X cl 63 [a0,a1] s Try.f63=finA Try.prog Try.f63 (K63 cl ⟨63,none,Try.f63.ntmps,X 63⟩ (paramsEnv 0 [a0,a1] .nil) [] s) :=
  enterA_eq (b:=Try.f63.body.getD .skip) (by kernel_rfl) (by kernel_rfl) (by kernel_rfl) (by kernel_rfl) (by kernel_rfl)
def K62r0:OpsF:=(oVal (.tmp 1) (kBox (tag 44) (.tmp 0)) (oVal (.tmp 2) (kAlloc [(.int .i64 0),(.int .i64 0)] (tag 68)) oNil))
def K62r1:OpsF:=(oVal (.tmp 3) (kUn (fadA 0) (.tmp 1)) (oVal (.tmp 4) (kLoad none (.tmp 3)) (oVal (.tmp 5) (kUn (fadA 1) (.tmp 1)) (oVal (.tmp 6) (kLoad none (.tmp 5)) (oVal (.tmp 7) (kBuild [(.int .i64 0),(.int .i64 0)] [(0,1,(.tmp 4)),(1,1,(.tmp 6))]) (oVal .none (kStore 2 (.tmp 2) (.tmp 7)) oNil))))))
theorem res62:Try.f62.results.toList=[.cell 2 68]:=by kernel_rfl
def K62:K:=(kSeq (kRegion K62r0 [1,2]) (kSeq (kRegion K62r1 []) kRet))
theorem enter62 (cl:CallF) (a0:AV) (s:St):enterA Try.prog X cl 62 [a0] s Try.f62=finA Try.prog Try.f62 (K62 cl ⟨62,none,Try.f62.ntmps,X 62⟩ (paramsEnv 0 [a0] .nil) [] s) :=
  enterA_eq (b:=Try.f62.body.getD .skip) (by kernel_rfl) (by kernel_rfl) (by kernel_rfl) (by kernel_rfl) (by kernel_rfl)
def K19r0:OpsF:=(oVal (.tmp 1) (kBox (tag 68) (.tmp 0)) (oVal (.tmp 2) (kAlloc [(.int .i64 0),(.int .i64 0)] (tag 44)) oNil))
def K19r1:OpsF:=(oVal (.tmp 3) (kTwo (ixaA 2 1) (.tmp 1) (.con (.int .i64 0))) (oVal (.tmp 4) (kLoad none (.tmp 3)) (oVal (.tmp 5) (kTwo (ixaA 2 1) (.tmp 1) (.con (.int .i64 1))) (oVal (.tmp 6) (kLoad none (.tmp 5)) (oVal (.tmp 7) (kBuild [(.int .i64 0),(.int .i64 0)] [(0,1,(.tmp 4)),(1,1,(.tmp 6))]) (oVal .none (kStore 2 (.tmp 2) (.tmp 7)) oNil))))))
theorem res19:Try.f19.results.toList=[.cell 2 44]:=by kernel_rfl
def K19:K:=(kSeq (kRegion K19r0 [1,2]) (kSeq (kRegion K19r1 []) kRet))
theorem enter19 (cl:CallF) (a0:AV) (s:St):enterA Try.prog X cl 19 [a0] s Try.f19=finA Try.prog Try.f19 (K19 cl ⟨19,none,Try.f19.ntmps,X 19⟩ (paramsEnv 0 [a0] .nil) [] s) :=
  enterA_eq (b:=Try.f19.body.getD .skip) (by kernel_rfl) (by kernel_rfl) (by kernel_rfl) (by kernel_rfl) (by kernel_rfl)
def K18r0:OpsF:=(oVal (.tmp 2) (kMove (.con (.int .i64 0))) oNil)
def K18r1:OpsF:=(oVal (.tmp 3) (kMove (.tmp 0)) (oVal (.tmp 4) (kInt aAdd (.con (.int .i64 1)) (.tmp 3)) (oVal (.tmp 2) (kMove (.tmp 4)) oNil)))
theorem res18:Try.f18.results.toList=[.tmp 2]:=by kernel_rfl
def K18:K:=(kSeq (kRegion K18r0 [2]) (kSeq (kRegion K18r1 [2]) kRet))
theorem enter18 (cl:CallF) (a0:AV) (s:St):enterA Try.prog X cl 18 [a0] s Try.f18=finA Try.prog Try.f18 (K18 cl ⟨18,none,Try.f18.ntmps,X 18⟩ (paramsEnv 0 [a0] .nil) [] s) :=
  enterA_eq (b:=Try.f18.body.getD .skip) (by kernel_rfl) (by kernel_rfl) (by kernel_rfl) (by kernel_rfl) (by kernel_rfl)
def K22r0:OpsF:=(oVal (.tmp 3) (kBox (tag 28) (.tmp 0)) (oVal (.tmp 6) (kMove (.con (.int .i64 0))) oNil))
def K22r1:OpsF:=(oVal (.tmp 7) (kUn (fadA 0) (.tmp 3)) (oVal (.tmp 8) (kLoad none (.tmp 7)) (oVal (.tmp 9) (kUn lenSlA (.tmp 8)) (oVal (.tmp 10) (kInt aAdd (.con (.int .i64 1)) (.tmp 9)) (oVal (.tmp 11) (kMove (.tmp 1)) (oVal (.tmp 12) (kUn (fadA 4) (.tmp 3)) (oVal (.tmp 13) (kLoad none (.tmp 12)) (oVal (.tmp 14) (kInt aAdd (.tmp 13) (.con (.int .i64 1))) (oVal (.tmp 15) (kInt aMul (.tmp 11) (.tmp 14)) (oVal (.tmp 16) (kInt aAdd (.tmp 10) (.tmp 15)) (oVal (.tmp 17) (kMove (.tmp 2)) (oVal (.tmp 18) (kInt aAdd (.tmp 16) (.tmp 17)) (oVal (.tmp 6) (kMove (.tmp 18)) oNil)))))))))))))
theorem res22:Try.f22.results.toList=[.tmp 6]:=by kernel_rfl
def K22:K:=(kSeq (kRegion K22r0 [3,6]) (kSeq (kRegion K22r1 [6]) kRet))
theorem enter22 (cl:CallF) (a0 a1 a2:AV) (s:St):enterA Try.prog X cl 22 [a0,a1,a2] s Try.f22=finA Try.prog Try.f22 (K22 cl ⟨22,none,Try.f22.ntmps,X 22⟩ (paramsEnv 0 [a0,a1,a2] .nil) [] s) :=
  enterA_eq (b:=Try.f22.body.getD .skip) (by kernel_rfl) (by kernel_rfl) (by kernel_rfl) (by kernel_rfl) (by kernel_rfl)
end
end Go.Proofs.Ytkkdiibgjgnbhaa.code
set_option maxRecDepth 100000
namespace Go.Proofs.Ytkkdiibgjgnbhaa.code
open Go.Abs
noncomputable section
def K7r0:OpsF:=(oVal (.tmp 1) (kBox (tag 28) (.tmp 0)) (oVal (.tmp 2) (kMove (.con .nilslice)) (oVal (.tmp 3) (kMove (.con (.int .i64 0))) oNil)))
def K7r1:OpsF:=(oVal (.tmp 9) (kLoad (some 5) (.tmp 1)) (oCall (.tmp 10) (.con (.func 16 [] [])) [(.tmp 9)] (oVal (.tmp 4) (kMove (.tmp 10)) oNil)))
def K7r2:OpsF:=(oVal (.tmp 11) (kMove (.tmp 4)) (oVal (.tmp 12) (kInt aNeq (.tmp 11) (.con (.int .i64 0))) oNil))
def K7r3:OpsF:=(oVal (.tmp 13) (kMove (.tmp 4)) (oVal (.tmp 2) (kMove (.con .nilslice)) (oVal (.tmp 3) (kMove (.tmp 13)) oNil)))
def K7r4:OpsF:=(oVal (.tmp 15) (kLoad (some 5) (.tmp 1)) (oCall (.tmp 16) (.con (.func 17 [] [])) [(.tmp 15)] (oVal (.tmp 14) (kMove (.tmp 16)) (oVal (.tmp 17) (kUn (extA 0) (.tmp 14)) (oVal (.tmp 18) (kUn (extA 1) (.tmp 14)) (oVal (.tmp 5) (kMove (.tmp 17)) (oVal (.tmp 6) (kMove (.tmp 18)) oNil)))))))
def K7r5:OpsF:=(oVal (.tmp 19) (kMove (.tmp 6)) (oVal (.tmp 20) (kUn notA (.tmp 19)) oNil))
def K7r6:OpsF:=(oVal (.tmp 2) (kMove (.con .nilslice)) (oVal (.tmp 3) (kMove (.con (.int .i64 9))) oNil))
def K7r7:OpsF:=(oVal (.tmp 21) (kUn (fadA 0) (.tmp 1)) (oVal (.tmp 22) (kLoad none (.tmp 21)) (oVal (.tmp 23) (kUn lenSlA (.tmp 22)) (oVal (.tmp 24) (kMake [(.int .i64 0),(.int .i64 0)] 16 (.tmp 23) (.tmp 23)) (oVal (.tmp 7) (kMove (.tmp 24)) oNil)))))
def K7r8:OpsF:=(oVal (.tmp 25) (kMove (.tmp 7)) (oVal (.tmp 26) (kUn lenSlA (.tmp 25)) (oVal (.tmp 27) (kMove (.con (.int .i64 0))) oNil)))
def K7r9:OpsF:=(oVal (.tmp 28) (kInt aLss (.tmp 27) (.tmp 26)) oNil)
def K7r10:OpsF:=(oVal (.tmp 29) (kMove (.tmp 27)) (oVal (.tmp 8) (kMove (.tmp 29)) oNil))
def K7r11:OpsF:=(oVal (.tmp 30) (kMove (.tmp 7)) (oVal (.tmp 31) (kMove (.tmp 8)) (oVal (.tmp 32) (kMove (.tmp 5)) (oVal (.tmp 33) (kMove (.tmp 8)) (oCall (.tmp 34) (.con (.func 18 [] [])) [(.tmp 33)] (oVal (.tmp 35) (kTwo (ixsA 1) (.tmp 32) (.tmp 34)) (oVal (.tmp 36) (kLoad none (.tmp 35)) (oVal (.tmp 37) (kTwo (ixsA 2) (.tmp 36) (.con (.int .i64 0))) (oVal (.tmp 38) (kLoad (some 2) (.tmp 37)) (oCall (.tmp 39) (.con (.func 19 [] [])) [(.tmp 38)] (oVal (.tmp 40) (kTwo (ixsA 2) (.tmp 30) (.tmp 31)) (oVal .none (kStore 2 (.tmp 40) (.tmp 39)) oNil))))))))))))
def K7r12:OpsF:=(oVal (.tmp 41) (kInt aAdd (.tmp 27) (.con (.int .i64 1))) (oVal (.tmp 27) (kMove (.tmp 41)) oNil))
def K7l0:K:=(kSeq (kRegion K7r9 [28]) (kSeq (kCond (.tmp 28) kSkip (kExit 0)) (kSeq (kBlock 1 (kSeq (kRegion K7r10 [8]) (kRegion K7r11 []))) (kRegion K7r12 [27]))))
def K7r13:OpsF:=(oVal (.tmp 42) (kMove (.tmp 7)) (oVal (.tmp 2) (kMove (.tmp 42)) (oVal (.tmp 3) (kMove (.con (.int .i64 0))) oNil)))
theorem res7:Try.f7.results.toList=[.tmp 2,.tmp 3]:=by kernel_rfl
def K7:K:=(kSeq (kRegion K7r0 [1,2,3]) (kSeq (kSeq (kRegion K7r1 [4]) (kSeq (kRegion K7r2 [12]) (kCond (.tmp 12) (kSeq (kRegion K7r3 [2,3]) kRet) kSkip))) (kSeq (kRegion K7r4 [5,6]) (kSeq (kSeq (kRegion K7r5 [20]) (kCond (.tmp 20) (kSeq (kRegion K7r6 [2,3]) kRet) kSkip)) (kSeq (kRegion K7r7 [7]) (kSeq (kSeq (kRegion K7r8 [26,27]) (kBlock 0 (kLoop K7l0))) (kSeq (kRegion K7r13 [2,3]) kRet)))))))
theorem enter7 (cl:CallF) (a0:AV) (s:St):enterA Try.prog X cl 7 [a0] s Try.f7=finA Try.prog Try.f7 (K7 cl ⟨7,none,Try.f7.ntmps,X 7⟩ (paramsEnv 0 [a0] .nil) [] s) :=
  enterA_eq (b:=Try.f7.body.getD .skip) (by kernel_rfl) (by kernel_rfl) (by kernel_rfl) (by kernel_rfl) (by kernel_rfl)
def K8r0:OpsF:=(oVal (.tmp 2) (kBox (tag 28) (.tmp 0)) (oVal (.tmp 4) (kMove (.con .nilslice)) (oVal (.tmp 5) (kMove (.con (.int .i64 0))) oNil)))
def K8r1:OpsF:=(oEnd [] (oVal (.tmp 11) (kLoad (some 5) (.tmp 2)) (oCallT (some [14,15]) (.tmp 12) (.con (.func 16 [] [])) [(.tmp 11)] (oVal (.tmp 13) (kMove (.tmp 1)) (oVal (.tmp 14) (kUn (fadA 2) (.tmp 2)) (oVal (.tmp 15) (kLoad none (.tmp 14)) (oVal (.tmp 16) (kUn lenSlA (.tmp 15)) (oCall (.tmp 17) (.con (.func 21 [] [])) [(.tmp 13),(.tmp 16)] (oVal (.tmp 18) (kBuildSlice [(.int .i64 0),(.int .i64 0)] 2 [(0,1,(.tmp 12)),(1,1,(.tmp 17))]) (oCall (.tmp 19) (.con (.func 20 [] [])) [(.tmp 18)] (oVal (.tmp 6) (kMove (.tmp 19)) oNil)))))))))))
def K8r2:OpsF:=(oVal (.tmp 20) (kMove (.tmp 6)) (oVal (.tmp 21) (kInt aNeq (.tmp 20) (.con (.int .i64 0))) oNil))
def K8r3:OpsF:=(oVal (.tmp 22) (kMove (.tmp 6)) (oVal (.tmp 4) (kMove (.con .nilslice)) (oVal (.tmp 5) (kMove (.tmp 22)) oNil)))
def K8r4:OpsF:=(oVal (.tmp 24) (kLoad (some 5) (.tmp 2)) (oCall (.tmp 25) (.con (.func 17 [] [])) [(.tmp 24)] (oVal (.tmp 23) (kMove (.tmp 25)) (oVal (.tmp 26) (kUn (extA 0) (.tmp 23)) (oVal (.tmp 27) (kUn (extA 1) (.tmp 23)) (oVal (.tmp 7) (kMove (.tmp 26)) (oVal (.tmp 8) (kMove (.tmp 27)) oNil)))))))
def K8r5:OpsF:=(oVal (.tmp 28) (kMove (.tmp 8)) (oVal (.tmp 29) (kUn notA (.tmp 28)) oNil))
def K8r6:OpsF:=(oVal (.tmp 4) (kMove (.con .nilslice)) (oVal (.tmp 5) (kMove (.con (.int .i64 9))) oNil))
def K8r7:OpsF:=(oVal (.tmp 30) (kUn (fadA 4) (.tmp 2)) (oVal (.tmp 31) (kLoad none (.tmp 30)) (oVal (.tmp 32) (kInt aAdd (.tmp 31) (.con (.int .i64 1))) (oVal (.tmp 33) (kMake [(.int .i64 0),(.int .i64 0)] 16 (.tmp 32) (.tmp 32)) (oVal (.tmp 9) (kMove (.tmp 33)) oNil)))))
def K8r8:OpsF:=(oVal (.tmp 34) (kMove (.tmp 9)) (oVal (.tmp 35) (kUn lenSlA (.tmp 34)) (oVal (.tmp 36) (kMove (.con (.int .i64 0))) oNil)))
def K8r9:OpsF:=(oVal (.tmp 37) (kInt aLss (.tmp 36) (.tmp 35)) oNil)
def K8r10:OpsF:=(oVal (.tmp 38) (kMove (.tmp 36)) (oVal (.tmp 10) (kMove (.tmp 38)) oNil))
def K8r11:OpsF:=(oEnd [] (oVal (.tmp 39) (kMove (.tmp 9)) (oVal (.tmp 40) (kMove (.tmp 10)) (oVal (.tmp 41) (kMove (.tmp 7)) (oVal (.tmp 42) (kTwo (ixsA 1) (.tmp 41) (.con (.int .i64 0))) (oVal (.tmp 43) (kLoad none (.tmp 42)) (oVal (.tmp 44) (kLoad (some 5) (.tmp 2)) (oVal (.tmp 45) (kMove (.tmp 1)) (oVal (.tmp 46) (kMove (.tmp 10)) (oCallT (some [42]) (.tmp 47) (.con (.func 22 [] [])) [(.tmp 44),(.tmp 45),(.tmp 46)] (oVal (.tmp 48) (kTwo (ixsA 2) (.tmp 43) (.tmp 47)) (oVal (.tmp 49) (kLoad (some 2) (.tmp 48)) (oCall (.tmp 50) (.con (.func 19 [] [])) [(.tmp 49)] (oVal (.tmp 51) (kTwo (ixsA 2) (.tmp 39) (.tmp 40)) (oVal .none (kStore 2 (.tmp 51) (.tmp 50)) oNil)))))))))))))))
def K8r12:OpsF:=(oVal (.tmp 52) (kInt aAdd (.tmp 36) (.con (.int .i64 1))) (oVal (.tmp 36) (kMove (.tmp 52)) oNil))
def K8l0:K:=(kSeq (kRegion K8r9 [37]) (kSeq (kCond (.tmp 37) kSkip (kExit 0)) (kSeq (kBlock 1 (kSeq (kRegion K8r10 [10]) (kRegionD K8r11 []))) (kRegion K8r12 [36]))))
def K8r13:OpsF:=(oVal (.tmp 53) (kMove (.tmp 9)) (oVal (.tmp 4) (kMove (.tmp 53)) (oVal (.tmp 5) (kMove (.con (.int .i64 0))) oNil)))
theorem res8:Try.f8.results.toList=[.tmp 4,.tmp 5]:=by kernel_rfl
def K8:K:=(kSeq (kRegion K8r0 [2,4,5]) (kSeq (kSeq (kRegionD K8r1 [6]) (kSeq (kRegion K8r2 [21]) (kCond (.tmp 21) (kSeq (kRegion K8r3 [4,5]) kRet) kSkip))) (kSeq (kRegion K8r4 [7,8]) (kSeq (kSeq (kRegion K8r5 [29]) (kCond (.tmp 29) (kSeq (kRegion K8r6 [4,5]) kRet) kSkip)) (kSeq (kRegion K8r7 [9]) (kSeq (kSeq (kRegion K8r8 [35,36]) (kBlock 0 (kLoop K8l0))) (kSeq (kRegion K8r13 [4,5]) kRet)))))))
theorem enter8 (cl:CallF) (a0 a1:AV) (s:St):enterA Try.prog X cl 8 [a0,a1] s Try.f8=finA Try.prog Try.f8 (K8 cl ⟨8,none,Try.f8.ntmps,X 8⟩ (paramsEnv 0 [a0,a1] .nil) [] s) :=
  enterA_eq (b:=Try.f8.body.getD .skip) (by kernel_rfl) (by kernel_rfl) (by kernel_rfl) (by kernel_rfl) (by kernel_rfl)
end
end Go.Proofs.Ytkkdiibgjgnbhaa.code
set_option maxRecDepth 100000
namespace Go.Proofs.Ytkkdiibgjgnbhaa.code
open Go.Abs
noncomputable section
def K12r0:OpsF:=(oVal (.tmp 2) (kMove (.con (.int .u64 0))) oNil)
def K12r1:OpsF:=(oVal (.tmp 4) (kMove (.tmp 0)) (oVal (.tmp 5) (kMove (.tmp 0)) (oVal (.tmp 6) (kUn nilA (.tmp 5)) (oVal (.tmp 7) (kUn (fadA 0) (.tmp 6)) (oVal (.tmp 8) (kLoad none (.tmp 7)) (oVal (.tmp 9) (kInt aAdd (.tmp 8) (.con (.int .u64 11562461410679940143))) (oVal (.tmp 10) (kUn nilA (.tmp 4)) (oVal (.tmp 11) (kUn (fadA 0) (.tmp 10)) (oVal .none (kStore 1 (.tmp 11) (.tmp 9)) oNil)))))))))
def K12r2:OpsF:=(oVal (.tmp 12) (kMove (.tmp 0)) (oVal (.tmp 13) (kUn nilA (.tmp 12)) (oVal (.tmp 14) (kUn (fadA 0) (.tmp 13)) (oVal (.tmp 15) (kLoad none (.tmp 14)) (oVal (.tmp 3) (kMove (.tmp 15)) oNil)))))
def K12r3:OpsF:=(oVal (.tmp 16) (kMove (.tmp 3)) (oVal (.tmp 17) (kMove (.tmp 3)) (oVal (.tmp 18) (kShr (.tmp 17) (.con (.int .u64 30))) (oVal (.tmp 19) (kInt aXor (.tmp 16) (.tmp 18)) (oVal (.tmp 20) (kInt aMul (.tmp 19) (.con (.int .u64 13787848793156543929))) (oVal (.tmp 3) (kMove (.tmp 20)) oNil))))))
def K12r4:OpsF:=(oVal (.tmp 21) (kMove (.tmp 3)) (oVal (.tmp 22) (kMove (.tmp 3)) (oVal (.tmp 23) (kShr (.tmp 22) (.con (.int .u64 27))) (oVal (.tmp 24) (kInt aXor (.tmp 21) (.tmp 23)) (oVal (.tmp 25) (kInt aMul (.tmp 24) (.con (.int .u64 10723151780598845931))) (oVal (.tmp 3) (kMove (.tmp 25)) oNil))))))
def K12r5:OpsF:=(oVal (.tmp 26) (kMove (.tmp 3)) (oVal (.tmp 27) (kMove (.tmp 3)) (oVal (.tmp 28) (kShr (.tmp 27) (.con (.int .u64 31))) (oVal (.tmp 29) (kInt aXor (.tmp 26) (.tmp 28)) (oVal (.tmp 2) (kMove (.tmp 29)) oNil)))))
theorem res12:Try.f12.results.toList=[.tmp 2]:=by kernel_rfl
def K12:K:=(kSeq (kRegion K12r0 [2]) (kSeq (kRegion K12r1 []) (kSeq (kRegion K12r2 [3]) (kSeq (kRegion K12r3 [3]) (kSeq (kRegion K12r4 [3]) (kSeq (kRegion K12r5 [2]) kRet))))))
theorem enter12 (cl:CallF) (a0:AV) (s:St):enterA Try.prog X cl 12 [a0] s Try.f12=finA Try.prog Try.f12 (K12 cl ⟨12,none,Try.f12.ntmps,X 12⟩ (paramsEnv 0 [a0] .nil) [] s) :=
  enterA_eq (b:=Try.f12.body.getD .skip) (by kernel_rfl) (by kernel_rfl) (by kernel_rfl) (by kernel_rfl) (by kernel_rfl)
def K32r0:OpsF:=(oVal (.tmp 4) (kMove (.con (.int .i64 0))) oNil)
def K32r1:OpsF:=(oVal (.tmp 5) (kMove (.tmp 1)) (oVal (.tmp 6) (kInt aLss (.tmp 5) (.con (.int .i64 2))) oNil))
def K32r2:OpsF:=(oVal (.tmp 4) (kMove (.con (.int .i64 0))) oNil)
def K32r3:OpsF:=(oVal (.tmp 7) (kMove (.tmp 0)) (oCall (.tmp 8) (.con (.func 12 [] [])) [(.tmp 7)] (oVal (.tmp 9) (kShr (.tmp 8) (.con (.int .u64 2))) (oVal (.tmp 10) (kMove (.tmp 1)) (oVal (.tmp 11) (kUn (cviA .u64) (.tmp 10)) (oVal (.tmp 12) (kInt aRem (.tmp 9) (.tmp 11)) (oVal (.tmp 13) (kUn (cviA .i64) (.tmp 12)) (oVal (.tmp 4) (kMove (.tmp 13)) oNil))))))))
theorem res32:Try.f32.results.toList=[.tmp 4]:=by kernel_rfl
def K32:K:=(kSeq (kRegion K32r0 [4]) (kSeq (kSeq (kRegion K32r1 [6]) (kCond (.tmp 6) (kSeq (kRegion K32r2 [4]) kRet) kSkip)) (kSeq (kRegion K32r3 [4]) kRet)))
theorem enter32 (cl:CallF) (a0 a1:AV) (s:St):enterA Try.prog X cl 32 [a0,a1] s Try.f32=finA Try.prog Try.f32 (K32 cl ⟨32,none,Try.f32.ntmps,X 32⟩ (paramsEnv 0 [a0,a1] .nil) [] s) :=
  enterA_eq (b:=Try.f32.body.getD .skip) (by kernel_rfl) (by kernel_rfl) (by kernel_rfl) (by kernel_rfl) (by kernel_rfl)
def K33r0:OpsF:=(oVal (.tmp 6) (kMove (.con (.int .i64 0))) oNil)
def K33r1:OpsF:=(oVal (.tmp 7) (kMove (.tmp 1)) (oVal (.tmp 8) (kMove (.tmp 0)) (oVal (.tmp 9) (kMove (.tmp 2)) (oVal (.tmp 10) (kMove (.tmp 1)) (oVal (.tmp 11) (kInt aSub (.tmp 9) (.tmp 10)) (oVal (.tmp 12) (kInt aAdd (.tmp 11) (.con (.int .i64 1))) (oCall (.tmp 13) (.con (.func 32 [] [])) [(.tmp 8),(.tmp 12)] (oVal (.tmp 14) (kInt aAdd (.tmp 7) (.tmp 13)) (oVal (.tmp 6) (kMove (.tmp 14)) oNil)))))))))
theorem res33:Try.f33.results.toList=[.tmp 6]:=by kernel_rfl
def K33:K:=(kSeq (kRegion K33r0 [6]) (kSeq (kRegion K33r1 [6]) kRet))
theorem enter33 (cl:CallF) (a0 a1 a2:AV) (s:St):enterA Try.prog X cl 33 [a0,a1,a2] s Try.f33=finA Try.prog Try.f33 (K33 cl ⟨33,none,Try.f33.ntmps,X 33⟩ (paramsEnv 0 [a0,a1,a2] .nil) [] s) :=
  enterA_eq (b:=Try.f33.body.getD .skip) (by kernel_rfl) (by kernel_rfl) (by kernel_rfl) (by kernel_rfl) (by kernel_rfl)
def K36r0:OpsF:=(oVal (.tmp 4) (kMove (.con (.bool false))) oNil)
def K36r1:OpsF:=(oVal (.tmp 5) (kMove (.tmp 0)) (oVal (.tmp 6) (kMove (.tmp 1)) (oCall (.tmp 7) (.con (.func 32 [] [])) [(.tmp 5),(.tmp 6)] (oVal (.tmp 8) (kInt aEql (.tmp 7) (.con (.int .i64 0))) (oVal (.tmp 4) (kMove (.tmp 8)) oNil)))))
theorem res36:Try.f36.results.toList=[.tmp 4]:=by kernel_rfl
def K36:K:=(kSeq (kRegion K36r0 [4]) (kSeq (kRegion K36r1 [4]) kRet))
theorem enter36 (cl:CallF) (a0 a1:AV) (s:St):enterA Try.prog X cl 36 [a0,a1] s Try.f36=finA Try.prog Try.f36 (K36 cl ⟨36,none,Try.f36.ntmps,X 36⟩ (paramsEnv 0 [a0,a1] .nil) [] s) :=
  enterA_eq (b:=Try.f36.body.getD .skip) (by kernel_rfl) (by kernel_rfl) (by kernel_rfl) (by kernel_rfl) (by kernel_rfl)
def K35r0:OpsF:=(oVal (.tmp 4) (kMove (.con (.int .i64 0))) oNil)
def K35r1:OpsF:=(oVal (.tmp 5) (kMove (.tmp 1)) (oVal (.tmp 6) (kUn lenSlA (.tmp 5)) (oVal (.tmp 7) (kInt aEql (.tmp 6) (.con (.int .i64 0))) oNil)))
def K35r2:OpsF:=(oVal (.tmp 4) (kMove (.con (.int .i64 0))) oNil)
def K35r3:OpsF:=(oVal (.tmp 8) (kMove (.tmp 1)) (oVal (.tmp 9) (kMove (.tmp 0)) (oVal (.tmp 10) (kMove (.tmp 1)) (oVal (.tmp 11) (kUn lenSlA (.tmp 10)) (oCall (.tmp 12) (.con (.func 32 [] [])) [(.tmp 9),(.tmp 11)] (oVal (.tmp 13) (kTwo (ixsA 1) (.tmp 8) (.tmp 12)) (oVal (.tmp 14) (kLoad none (.tmp 13)) (oVal (.tmp 4) (kMove (.tmp 14)) oNil))))))))
theorem res35:Try.f35.results.toList=[.tmp 4]:=by kernel_rfl
def K35:K:=(kSeq (kRegion K35r0 [4]) (kSeq (kSeq (kRegion K35r1 [7]) (kCond (.tmp 7) (kSeq (kRegion K35r2 [4]) kRet) kSkip)) (kSeq (kRegion K35r3 [4]) kRet)))
theorem enter35 (cl:CallF) (a0 a1:AV) (s:St):enterA Try.prog X cl 35 [a0,a1] s Try.f35=finA Try.prog Try.f35 (K35 cl ⟨35,none,Try.f35.ntmps,X 35⟩ (paramsEnv 0 [a0,a1] .nil) [] s) :=
  enterA_eq (b:=Try.f35.body.getD .skip) (by kernel_rfl) (by kernel_rfl) (by kernel_rfl) (by kernel_rfl) (by kernel_rfl)
def K34r0:OpsF:=(oVal (.tmp 6) (kAlloc [(.int .i64 0),(.int .i64 0)] (tag 44)) oNil)
def K34r1:OpsF:=(oVal (.tmp 9) (kMove (.tmp 0)) (oVal (.tmp 10) (kMove (.tmp 1)) (oVal (.tmp 11) (kMove (.tmp 2)) (oCall (.tmp 12) (.con (.func 33 [] [])) [(.tmp 9),(.tmp 10),(.tmp 11)] (oVal (.tmp 7) (kMove (.tmp 12)) oNil)))))
def K34r2:OpsF:=(oVal (.tmp 13) (kMove (.tmp 0)) (oVal (.tmp 14) (kMove (.tmp 7)) (oVal (.tmp 15) (kMove (.tmp 2)) (oVal (.tmp 16) (kMove (.tmp 7)) (oVal (.tmp 17) (kInt aAdd (.tmp 16) (.con (.int .i64 4))) (oVal (.tmp 18) (kFold minA (.tmp 15) [(.tmp 17)]) (oVal (.tmp 19) (kMove (.tmp 2)) (oVal (.tmp 20) (kBuildSlice [(.int .i64 0),(.int .i64 0),(.int .i64 0)] 3 [(0,1,(.tmp 14)),(1,1,(.tmp 18)),(2,1,(.tmp 19))]) (oCall (.tmp 21) (.con (.func 35 [] [])) [(.tmp 13),(.tmp 20)] (oVal (.tmp 8) (kMove (.tmp 21)) oNil))))))))))
def K34r3:OpsF:=(oVal (.tmp 22) (kMove (.tmp 7)) (oVal (.tmp 23) (kMove (.tmp 0)) (oVal (.tmp 24) (kMove (.tmp 7)) (oVal (.tmp 25) (kMove (.tmp 8)) (oCall (.tmp 26) (.con (.func 33 [] [])) [(.tmp 23),(.tmp 24),(.tmp 25)] (oVal (.tmp 27) (kBuild [(.int .i64 0),(.int .i64 0)] [(0,1,(.tmp 22)),(1,1,(.tmp 26))]) (oVal .none (kStore 2 (.tmp 6) (.tmp 27)) oNil)))))))
theorem res34:Try.f34.results.toList=[.cell 6 44]:=by kernel_rfl
def K34:K:=(kSeq (kRegion K34r0 [6]) (kSeq (kRegion K34r1 [7]) (kSeq (kRegion K34r2 [8]) (kSeq (kRegion K34r3 []) kRet))))
theorem enter34 (cl:CallF) (a0 a1 a2:AV) (s:St):enterA Try.prog X cl 34 [a0,a1,a2] s Try.f34=finA Try.prog Try.f34 (K34 cl ⟨34,none,Try.f34.ntmps,X 34⟩ (paramsEnv 0 [a0,a1,a2] .nil) [] s) :=
  enterA_eq (b:=Try.f34.body.getD .skip) (by kernel_rfl) (by kernel_rfl) (by kernel_rfl) (by kernel_rfl) (by kernel_rfl)
def K37r0:OpsF:=(oVal (.tmp 3) (kBox (tag 44) (.tmp 1)) (oVal (.tmp 4) (kMove (.con (.int .i64 0))) oNil))
def K37r1:OpsF:=(oEnd [] (oVal (.tmp 5) (kMove (.tmp 0)) (oVal (.tmp 6) (kUn (fadA 0) (.tmp 3)) (oVal (.tmp 7) (kLoad none (.tmp 6)) (oVal (.tmp 8) (kUn (fadA 1) (.tmp 3)) (oVal (.tmp 9) (kLoad none (.tmp 8)) (oVal (.tmp 10) (kMove (.tmp 0)) (oVal (.tmp 11) (kUn (fadA 0) (.tmp 3)) (oVal (.tmp 12) (kLoad none (.tmp 11)) (oVal (.tmp 13) (kUn (fadA 1) (.tmp 3)) (oVal (.tmp 14) (kLoad none (.tmp 13)) (oCallT (some [6,8,17,19]) (.tmp 15) (.con (.func 33 [] [])) [(.tmp 10),(.tmp 12),(.tmp 14)] (oVal (.tmp 16) (kMove (.tmp 0)) (oVal (.tmp 17) (kUn (fadA 0) (.tmp 3)) (oVal (.tmp 18) (kLoad none (.tmp 17)) (oVal (.tmp 19) (kUn (fadA 1) (.tmp 3)) (oVal (.tmp 20) (kLoad none (.tmp 19)) (oCallT (some [6,8]) (.tmp 21) (.con (.func 33 [] [])) [(.tmp 16),(.tmp 18),(.tmp 20)] (oVal (.tmp 22) (kBuildSlice [(.int .i64 0),(.int .i64 0),(.int .i64 0),(.int .i64 0)] 4 [(0,1,(.tmp 7)),(1,1,(.tmp 9)),(2,1,(.tmp 15)),(3,1,(.tmp 21))]) (oCall (.tmp 23) (.con (.func 35 [] [])) [(.tmp 5),(.tmp 22)] (oVal (.tmp 4) (kMove (.tmp 23)) oNil)))))))))))))))))))))
theorem res37:Try.f37.results.toList=[.tmp 4]:=by kernel_rfl
def K37:K:=(kSeq (kRegion K37r0 [3,4]) (kSeq (kRegionD K37r1 [4]) kRet))
theorem enter37 (cl:CallF) (a0 a1:AV) (s:St):enterA Try.prog X cl 37 [a0,a1] s Try.f37=finA Try.prog Try.f37 (K37 cl ⟨37,none,Try.f37.ntmps,X 37⟩ (paramsEnv 0 [a0,a1] .nil) [] s) :=
  enterA_eq (b:=Try.f37.body.getD .skip) (by kernel_rfl) (by kernel_rfl) (by kernel_rfl) (by kernel_rfl) (by kernel_rfl)
end
end Go.Proofs.Ytkkdiibgjgnbhaa.code
set_option maxRecDepth 100000
namespace Go.Proofs.Ytkkdiibgjgnbhaa.code
open Go.Abs
noncomputable section
def K11r0:OpsF:=(oVal (.tmp 10) (kAlloc [.nilslice,.nilslice,.nilslice,.nilslice,(.int .i64 0)] (tag 28)) (oVal (.tmp 11) (kAlloc [.nilslice,.nilslice] (tag 36)) (oVal (.tmp 12) (kMove (.con (.bool false))) oNil)))
def K11r1:OpsF:=(oVal (.tmp 29) (kMove (.tmp 0)) (oVal (.tmp 30) (kMove (.tmp 4)) (oVal (.tmp 31) (kInt aAdd (.tmp 30) (.con (.int .i64 1))) (oCall (.tmp 32) (.con (.func 32 [] [])) [(.tmp 29),(.tmp 31)] (oVal (.tmp 33) (kBuild [.nilslice,.nilslice,.nilslice,.nilslice,(.int .i64 0)] [(4,1,(.tmp 32))]) (oVal (.tmp 13) (kAlloc [.nilslice,.nilslice,.nilslice,.nilslice,(.int .i64 0)] (tag 28)) (oVal .none (kStore 5 (.tmp 13) (.tmp 33)) oNil)))))))
def K11r2:OpsF:=(oVal (.tmp 14) (kAlloc [.nilslice,.nilslice] (tag 36)) oNil)
def K11r3:OpsF:=(oVal (.tmp 34) (kMove (.tmp 0)) (oVal (.tmp 35) (kMove (.tmp 1)) (oCall (.tmp 36) (.con (.func 33 [] [])) [(.tmp 34),(.con (.int .i64 1)),(.tmp 35)] (oVal (.tmp 15) (kMove (.tmp 36)) oNil))))
def K11r4:OpsF:=(oVal (.tmp 37) (kMove (.tmp 15)) (oVal (.tmp 38) (kGtr (.tmp 37) (.con (.int .i64 0))) oNil))
def K11r5:OpsF:=(oVal (.tmp 41) (kMove (.tmp 0)) (oVal (.tmp 42) (kMove (.tmp 0)) (oVal (.tmp 43) (kBuildSlice [(.int .i64 0),(.int .i64 0)] 2 [(0,1,(.con (.int .i64 3))),(1,1,(.con (.int .i64 20)))]) (oCall (.tmp 44) (.con (.func 35 [] [])) [(.tmp 42),(.tmp 43)] (oVal (.tmp 45) (kUn negA (.tmp 44)) (oVal (.tmp 46) (kMove (.tmp 0)) (oVal (.tmp 47) (kBuildSlice [(.int .i64 0),(.int .i64 0)] 2 [(0,1,(.con (.int .i64 3))),(1,1,(.con (.int .i64 20)))]) (oCall (.tmp 48) (.con (.func 35 [] [])) [(.tmp 46),(.tmp 47)] (oCall (.tmp 49) (.con (.func 34 [] [])) [(.tmp 41),(.tmp 45),(.tmp 48)] (oVal (.tmp 16) (kAlloc [(.int .i64 0),(.int .i64 0)] (tag 44)) (oVal .none (kStore 2 (.tmp 16) (.tmp 49)) oNil)))))))))))
def K11r6:OpsF:=(oVal (.tmp 50) (kMove (.tmp 0)) (oCall (.tmp 51) (.con (.func 36 [] [])) [(.tmp 50),(.con (.int .i64 4))] oNil))
def K11r7:OpsF:=(oVal (.tmp 52) (kBuild [(.int .i64 0),(.int .i64 0)] []) (oVal .none (kStore 2 (.tmp 16) (.tmp 52)) oNil))
def K11r8:OpsF:=(oEnd [(54,62),(54,16)] (oVal (.tmp 53) (kUn (fadA 0) (.tmp 13)) (oVal (.tmp 54) (kLoad none (.tmp 53)) (oVal (.tmp 55) (kMove (.tmp 0)) (oVal (.tmp 56) (kBuildSlice [(.int .i64 0),(.int .i64 0),(.int .i64 0)] 3 [(0,1,(.con (.int .i64 5))),(1,1,(.con (.int .i64 500))),(2,1,(.con (.int .i64 1000)))]) (oCallT (some [53,16,62,16]) (.tmp 57) (.con (.func 35 [] [])) [(.tmp 55),(.tmp 56)] (oVal (.tmp 58) (kLoad (some 2) (.tmp 16)) (oVal (.tmp 59) (kBuild [(.int .i64 0),(.int .i64 0),(.int .i64 0)] [(0,1,(.tmp 57)),(1,2,(.tmp 58))]) (oVal (.tmp 60) (kBuildSlice [(.int .i64 0),(.int .i64 0),(.int .i64 0)] 1 [(0,3,(.tmp 59))]) (oVal (.tmp 61) (kTwo (appendA false 3 24 (tag 51)) (.tmp 54) (.tmp 60)) (oVal (.tmp 62) (kUn (fadA 0) (.tmp 14)) (oVal (.tmp 63) (kLoad none (.tmp 62)) (oVal (.tmp 64) (kMove (.tmp 0)) (oVal (.tmp 65) (kLoad (some 2) (.tmp 16)) (oCallT (some [62]) (.tmp 66) (.con (.func 37 [] [])) [(.tmp 64),(.tmp 65)] (oVal (.tmp 67) (kBuildSlice [(.int .i64 0)] 1 [(0,1,(.tmp 66))]) (oVal (.tmp 68) (kTwo (appendA false 1 8 (tag 3)) (.tmp 63) (.tmp 67)) (oVal (.tmp 69) (kUn (fadA 0) (.tmp 13)) (oVal .none (kStore 1 (.tmp 69) (.tmp 61)) (oVal (.tmp 70) (kUn (fadA 0) (.tmp 14)) (oVal .none (kStore 1 (.tmp 70) (.tmp 68)) oNil)))))))))))))))))))))
def K11r9:OpsF:=(oVal (.tmp 39) (kMove (.tmp 15)) (oVal (.tmp 40) (kInt aSub (.tmp 39) (.con (.int .i64 1))) (oVal (.tmp 15) (kMove (.tmp 40)) oNil)))
def K11l0:K:=(kSeq (kSeq (kRegion K11r4 [38]) (kCond (.tmp 38) kSkip (kExit 0))) (kSeq (kBlock 1 (kSeq (kRegion K11r5 [16]) (kSeq (kSeq (kRegion K11r6 [51]) (kCond (.tmp 51) (kRegion K11r7 []) kSkip)) (kRegionD K11r8 [])))) (kRegion K11r9 [15])))
def K11r10:OpsF:=(oVal (.tmp 71) (kMove (.tmp 0)) (oVal (.tmp 72) (kMove (.tmp 2)) (oCall (.tmp 73) (.con (.func 33 [] [])) [(.tmp 71),(.con (.int .i64 1)),(.tmp 72)] (oVal (.tmp 17) (kMove (.tmp 73)) oNil))))
def K11r11:OpsF:=(oVal (.tmp 74) (kMove (.tmp 17)) (oVal (.tmp 75) (kGtr (.tmp 74) (.con (.int .i64 0))) oNil))
def K11r12:OpsF:=(oVal (.tmp 78) (kMove (.tmp 0)) (oVal (.tmp 79) (kMove (.tmp 0)) (oVal (.tmp 80) (kBuildSlice [(.int .i64 0),(.int .i64 0)] 2 [(0,1,(.con (.int .i64 2))),(1,1,(.con (.int .i64 9)))]) (oCall (.tmp 81) (.con (.func 35 [] [])) [(.tmp 79),(.tmp 80)] (oVal (.tmp 82) (kUn negA (.tmp 81)) (oVal (.tmp 83) (kMove (.tmp 0)) (oVal (.tmp 84) (kBuildSlice [(.int .i64 0),(.int .i64 0)] 2 [(0,1,(.con (.int .i64 2))),(1,1,(.con (.int .i64 9)))]) (oCall (.tmp 85) (.con (.func 35 [] [])) [(.tmp 83),(.tmp 84)] (oCall (.tmp 86) (.con (.func 34 [] [])) [(.tmp 78),(.tmp 82),(.tmp 85)] (oVal (.tmp 87) (kMove (.tmp 0)) (oVal (.tmp 88) (kMove (.tmp 0)) (oVal (.tmp 89) (kBuildSlice [(.int .i64 0),(.int .i64 0)] 2 [(0,1,(.con (.int .i64 0))),(1,1,(.con (.int .i64 3)))]) (oCall (.tmp 90) (.con (.func 35 [] [])) [(.tmp 88),(.tmp 89)] (oCall (.tmp 91) (.con (.func 34 [] [])) [(.tmp 87),(.con (.int .i64 (-2))),(.tmp 90)] (oVal (.tmp 92) (kBuild [(.int .i64 0),(.int .i64 0),(.int .i64 0),(.int .i64 0)] [(0,2,(.tmp 86)),(2,2,(.tmp 91))]) (oVal (.tmp 18) (kAlloc [(.int .i64 0),(.int .i64 0),(.int .i64 0),(.int .i64 0)] (tag 54)) (oVal .none (kStore 4 (.tmp 18) (.tmp 92)) oNil)))))))))))))))))
def K11r13:OpsF:=(oVal (.tmp 93) (kMove (.tmp 0)) (oVal (.tmp 94) (kUn (fadA 0) (.tmp 18)) (oVal (.tmp 95) (kLoad (some 2) (.tmp 94)) (oCall (.tmp 96) (.con (.func 37 [] [])) [(.tmp 93),(.tmp 95)] (oVal (.tmp 97) (kBuildSlice [(.int .i64 0)] 1 [(0,1,(.tmp 96))]) (oVal (.tmp 19) (kMove (.tmp 97)) oNil))))))
def K11r14:OpsF:=(oVal (.tmp 20) (kMove (.con (.int .i64 0))) oNil)
def K11r15:OpsF:=(oVal (.tmp 98) (kMove (.tmp 20)) (oVal (.tmp 99) (kUn (fadA 4) (.tmp 13)) (oVal (.tmp 100) (kLoad none (.tmp 99)) (oVal (.tmp 101) (kInt aLss (.tmp 98) (.tmp 100)) oNil))))
def K11r16:OpsF:=(oEnd [] (oVal (.tmp 104) (kMove (.tmp 19)) (oVal (.tmp 105) (kMove (.tmp 19)) (oVal (.tmp 106) (kMove (.tmp 20)) (oVal (.tmp 107) (kTwo (ixsA 1) (.tmp 105) (.tmp 106)) (oVal (.tmp 108) (kLoad none (.tmp 107)) (oVal (.tmp 109) (kMove (.tmp 0)) (oVal (.tmp 110) (kUn (fadA 2) (.tmp 18)) (oVal (.tmp 111) (kLoad (some 2) (.tmp 110)) (oCallT (some [107]) (.tmp 112) (.con (.func 37 [] [])) [(.tmp 109),(.tmp 111)] (oVal (.tmp 113) (kInt aAdd (.tmp 108) (.tmp 112)) (oVal (.tmp 114) (kBuildSlice [(.int .i64 0)] 1 [(0,1,(.tmp 113))]) (oVal (.tmp 115) (kTwo (appendA false 1 8 (tag 3)) (.tmp 104) (.tmp 114)) (oVal (.tmp 19) (kMove (.tmp 115)) oNil))))))))))))))
def K11r17:OpsF:=(oVal (.tmp 102) (kMove (.tmp 20)) (oVal (.tmp 103) (kInt aAdd (.tmp 102) (.con (.int .i64 1))) (oVal (.tmp 20) (kMove (.tmp 103)) oNil)))
def K11l1:K:=(kSeq (kSeq (kRegion K11r15 [101]) (kCond (.tmp 101) kSkip (kExit 4))) (kSeq (kBlock 5 (kRegionD K11r16 [19])) (kRegion K11r17 [20])))
def K11r18:OpsF:=(oEnd [(117,121)] (oVal (.tmp 116) (kUn (fadA 2) (.tmp 13)) (oVal (.tmp 117) (kLoad none (.tmp 116)) (oVal (.tmp 118) (kLoad (some 4) (.tmp 18)) (oVal (.tmp 119) (kBuildSlice [(.int .i64 0),(.int .i64 0),(.int .i64 0),(.int .i64 0)] 1 [(0,4,(.tmp 118))]) (oVal (.tmp 120) (kTwo (appendA false 4 32 (tag 54)) (.tmp 117) (.tmp 119)) (oVal (.tmp 121) (kUn (fadA 1) (.tmp 14)) (oVal (.tmp 122) (kLoad none (.tmp 121)) (oVal (.tmp 123) (kMove (.tmp 19)) (oVal (.tmp 124) (kBuildSlice [.nilslice] 1 [(0,1,(.tmp 123))]) (oVal (.tmp 125) (kTwo (appendA false 1 24 (tag 22)) (.tmp 122) (.tmp 124)) (oVal (.tmp 126) (kUn (fadA 2) (.tmp 13)) (oVal .none (kStore 1 (.tmp 126) (.tmp 120)) (oVal (.tmp 127) (kUn (fadA 1) (.tmp 14)) (oVal .none (kStore 1 (.tmp 127) (.tmp 125)) oNil)))))))))))))))
def K11r19:OpsF:=(oVal (.tmp 76) (kMove (.tmp 17)) (oVal (.tmp 77) (kInt aSub (.tmp 76) (.con (.int .i64 1))) (oVal (.tmp 17) (kMove (.tmp 77)) oNil)))
def K11l2:K:=(kSeq (kSeq (kRegion K11r11 [75]) (kCond (.tmp 75) kSkip (kExit 2))) (kSeq (kBlock 3 (kSeq (kRegion K11r12 [18]) (kSeq (kRegion K11r13 [19]) (kSeq (kSeq (kRegion K11r14 [20]) (kBlock 4 (kLoop K11l1))) (kRegionD K11r18 []))))) (kRegion K11r19 [17])))
def K11r20:OpsF:=(oVal (.tmp 128) (kMove (.tmp 0)) (oVal (.tmp 129) (kMove (.tmp 3)) (oVal (.tmp 130) (kInt aAdd (.tmp 129) (.con (.int .i64 1))) (oCall (.tmp 131) (.con (.func 32 [] [])) [(.tmp 128),(.tmp 130)] (oVal (.tmp 21) (kMove (.tmp 131)) oNil)))))
def K11r21s7:OpsF:=(oVal (.tmp 139) (kPick (.tmp 134) (.tmp 138) (.con (.bool false))) oNil)
def K11r21s6:OpsF:=(oIf 134 true (oVal (.tmp 138) (kGtr (.tmp 137) (.con (.int .i64 1))) K11r21s7) (oSkip (.tmp 138) K11r21s7))
def K11r21s5:OpsF:=(oIf 134 true (oVal (.tmp 137) (kUn lenSlA (.tmp 136)) K11r21s6) (oSkip (.tmp 137) K11r21s6))
def K11r21s4:OpsF:=(oIf 134 true (oVal (.tmp 136) (kLoad none (.tmp 135)) K11r21s5) (oSkip (.tmp 136) K11r21s5))
def K11r21:OpsF:=(oVal (.tmp 132) (kMove (.tmp 21)) (oVal (.tmp 133) (kGtr (.tmp 132) (.con (.int .i64 0))) (oVal (.tmp 134) (kMove (.tmp 133)) (oIf 134 true (oVal (.tmp 135) (kUn (fadA 0) (.tmp 13)) K11r21s4) (oSkip (.tmp 135) K11r21s4)))))
def K11r22:OpsF:=(oVal (.tmp 142) (kMove (.tmp 0)) (oVal (.tmp 143) (kUn (fadA 0) (.tmp 13)) (oVal (.tmp 144) (kLoad none (.tmp 143)) (oVal (.tmp 145) (kUn lenSlA (.tmp 144)) (oCall (.tmp 146) (.con (.func 32 [] [])) [(.tmp 142),(.tmp 145)] (oVal (.tmp 22) (kMove (.tmp 146)) oNil))))))
def K11r23:OpsF:=(oEnd [] (oVal (.tmp 147) (kMove (.tmp 22)) (oVal (.tmp 148) (kMove (.tmp 0)) (oVal (.tmp 149) (kUn (fadA 0) (.tmp 13)) (oVal (.tmp 150) (kLoad none (.tmp 149)) (oVal (.tmp 151) (kUn lenSlA (.tmp 150)) (oVal (.tmp 152) (kInt aSub (.tmp 151) (.con (.int .i64 1))) (oCallT (some [155,156]) (.tmp 153) (.con (.func 33 [] [])) [(.tmp 148),(.con (.int .i64 1)),(.tmp 152)] (oVal (.tmp 154) (kInt aAdd (.tmp 147) (.tmp 153)) (oVal (.tmp 155) (kUn (fadA 0) (.tmp 13)) (oVal (.tmp 156) (kLoad none (.tmp 155)) (oVal (.tmp 157) (kUn lenSlA (.tmp 156)) (oCall (.tmp 158) (.con (.func 38 [] [])) [(.tmp 154),(.tmp 157)] (oVal (.tmp 23) (kMove (.tmp 158)) oNil))))))))))))))
def K11r24:OpsF:=(oEnd [] (oVal (.tmp 159) (kUn (fadA 0) (.tmp 14)) (oVal (.tmp 160) (kLoad none (.tmp 159)) (oVal (.tmp 161) (kMove (.tmp 22)) (oVal (.tmp 162) (kTwo (ixsA 1) (.tmp 160) (.tmp 161)) (oVal (.tmp 163) (kLoad none (.tmp 162)) (oVal (.tmp 164) (kUn (fadA 0) (.tmp 14)) (oVal (.tmp 165) (kLoad none (.tmp 164)) (oVal (.tmp 166) (kMove (.tmp 23)) (oVal (.tmp 167) (kTwo (ixsA 1) (.tmp 165) (.tmp 166)) (oVal (.tmp 168) (kLoad none (.tmp 167)) (oVal (.tmp 169) (kInt aSub (.tmp 163) (.tmp 168)) (oVal (.tmp 24) (kMove (.tmp 169)) oNil)))))))))))))
def K11r25:OpsF:=(oEnd [] (oVal (.tmp 170) (kUn (fadA 1) (.tmp 13)) (oVal (.tmp 171) (kLoad none (.tmp 170)) (oVal (.tmp 172) (kMove (.tmp 22)) (oVal (.tmp 173) (kMove (.tmp 23)) (oVal (.tmp 174) (kMove (.tmp 24)) (oVal (.tmp 175) (kMove (.tmp 0)) (oCallT (some [170]) (.tmp 176) (.con (.func 32 [] [])) [(.tmp 175),(.con (.int .i64 4))] (oVal (.tmp 177) (kInt aSub (.tmp 174) (.tmp 176)) (oVal (.tmp 178) (kMove (.tmp 24)) (oVal (.tmp 179) (kMove (.tmp 0)) (oCallT (some [170]) (.tmp 180) (.con (.func 32 [] [])) [(.tmp 179),(.con (.int .i64 4))] (oVal (.tmp 181) (kInt aAdd (.tmp 178) (.tmp 180)) (oVal (.tmp 182) (kBuild [(.int .i64 0),(.int .i64 0)] [(0,1,(.tmp 177)),(1,1,(.tmp 181))]) (oVal (.tmp 183) (kBuild [(.int .i64 0),(.int .i64 0),(.int .i64 0),(.int .i64 0)] [(0,1,(.tmp 172)),(1,1,(.tmp 173)),(2,2,(.tmp 182))]) (oVal (.tmp 184) (kBuildSlice [(.int .i64 0),(.int .i64 0),(.int .i64 0),(.int .i64 0)] 1 [(0,4,(.tmp 183))]) (oVal (.tmp 185) (kTwo (appendA false 4 32 (tag 96)) (.tmp 171) (.tmp 184)) (oVal (.tmp 186) (kUn (fadA 1) (.tmp 13)) (oVal .none (kStore 1 (.tmp 186) (.tmp 185)) oNil)))))))))))))))))))
def K11r26:OpsF:=(oVal (.tmp 140) (kMove (.tmp 21)) (oVal (.tmp 141) (kInt aSub (.tmp 140) (.con (.int .i64 1))) (oVal (.tmp 21) (kMove (.tmp 141)) oNil)))
def K11l3:K:=(kSeq (kSeq (kRegion K11r21 [139]) (kCond (.tmp 139) kSkip (kExit 6))) (kSeq (kBlock 7 (kSeq (kRegion K11r22 [22]) (kSeq (kRegionD K11r23 [23]) (kSeq (kRegionD K11r24 [24]) (kRegionD K11r25 []))))) (kRegion K11r26 [21])))
def K11r27:OpsF:=(oVal (.tmp 187) (kMove (.tmp 0)) (oVal (.tmp 188) (kMove (.tmp 3)) (oVal (.tmp 189) (kInt aAdd (.tmp 188) (.con (.int .i64 1))) (oCall (.tmp 190) (.con (.func 32 [] [])) [(.tmp 187),(.tmp 189)] (oVal (.tmp 25) (kMove (.tmp 190)) oNil)))))
def K11r28:OpsF:=(oVal (.tmp 191) (kMove (.tmp 25)) (oVal (.tmp 192) (kGtr (.tmp 191) (.con (.int .i64 0))) oNil))
def K11r29:OpsF:=(oEnd [] (oVal (.tmp 195) (kMove (.tmp 0)) (oVal (.tmp 196) (kUn (fadA 2) (.tmp 13)) (oVal (.tmp 197) (kLoad none (.tmp 196)) (oVal (.tmp 198) (kUn lenSlA (.tmp 197)) (oCallT (some [201,206,207]) (.tmp 199) (.con (.func 32 [] [])) [(.tmp 195),(.tmp 198)] (oVal (.tmp 200) (kMove (.tmp 0)) (oVal (.tmp 201) (kUn (fadA 4) (.tmp 13)) (oVal (.tmp 202) (kLoad none (.tmp 201)) (oVal (.tmp 203) (kInt aAdd (.tmp 202) (.con (.int .i64 1))) (oCallT (some [206,207]) (.tmp 204) (.con (.func 32 [] [])) [(.tmp 200),(.tmp 203)] (oVal (.tmp 205) (kMove (.tmp 0)) (oVal (.tmp 206) (kUn (fadA 0) (.tmp 13)) (oVal (.tmp 207) (kLoad none (.tmp 206)) (oVal (.tmp 208) (kUn lenSlA (.tmp 207)) (oCall (.tmp 209) (.con (.func 32 [] [])) [(.tmp 205),(.tmp 208)] (oVal (.tmp 210) (kBuild [(.int .i64 0),(.int .i64 0),(.int .i64 0),(.int .i64 0)] [(0,1,(.tmp 199)),(1,1,(.tmp 204)),(2,1,(.tmp 209))]) (oVal (.tmp 26) (kAlloc [(.int .i64 0),(.int .i64 0),(.int .i64 0),(.int .i64 0)] (tag 98)) (oVal .none (kStore 4 (.tmp 26) (.tmp 210)) oNil)))))))))))))))))))
def K11r30:OpsF:=(oEnd [] (oVal (.tmp 211) (kUn (fadA 0) (.tmp 13)) (oVal (.tmp 212) (kLoad none (.tmp 211)) (oVal (.tmp 213) (kUn (fadA 2) (.tmp 26)) (oVal (.tmp 214) (kLoad none (.tmp 213)) (oVal (.tmp 215) (kTwo (ixsA 3) (.tmp 212) (.tmp 214)) (oVal (.tmp 216) (kUn (fadA 0) (.tmp 215)) (oVal (.tmp 217) (kLoad none (.tmp 216)) (oVal (.tmp 218) (kUn (fadA 0) (.tmp 14)) (oVal (.tmp 219) (kLoad none (.tmp 218)) (oVal (.tmp 220) (kUn (fadA 2) (.tmp 26)) (oVal (.tmp 221) (kLoad none (.tmp 220)) (oVal (.tmp 222) (kTwo (ixsA 1) (.tmp 219) (.tmp 221)) (oVal (.tmp 223) (kLoad none (.tmp 222)) (oVal (.tmp 224) (kInt aAdd (.tmp 217) (.tmp 223)) (oVal (.tmp 225) (kUn (fadA 1) (.tmp 14)) (oVal (.tmp 226) (kLoad none (.tmp 225)) (oVal (.tmp 227) (kUn (fadA 0) (.tmp 26)) (oVal (.tmp 228) (kLoad none (.tmp 227)) (oVal (.tmp 229) (kTwo (ixsA 1) (.tmp 226) (.tmp 228)) (oVal (.tmp 230) (kLoad none (.tmp 229)) (oVal (.tmp 231) (kUn (fadA 1) (.tmp 26)) (oVal (.tmp 232) (kLoad none (.tmp 231)) (oVal (.tmp 233) (kTwo (ixsA 1) (.tmp 230) (.tmp 232)) (oVal (.tmp 234) (kLoad none (.tmp 233)) (oVal (.tmp 235) (kInt aAdd (.tmp 224) (.tmp 234)) (oVal (.tmp 236) (kFold maxA (.con (.int .i64 0)) [(.tmp 235)]) (oVal (.tmp 237) (kUn (fadA 3) (.tmp 26)) (oVal .none (kStore 1 (.tmp 237) (.tmp 236)) oNil)))))))))))))))))))))))))))))
def K11r31:OpsF:=(oVal (.tmp 238) (kUn (fadA 3) (.tmp 13)) (oVal (.tmp 239) (kLoad none (.tmp 238)) (oVal (.tmp 240) (kLoad (some 4) (.tmp 26)) (oVal (.tmp 241) (kBuildSlice [(.int .i64 0),(.int .i64 0),(.int .i64 0),(.int .i64 0)] 1 [(0,4,(.tmp 240))]) (oVal (.tmp 242) (kTwo (appendA false 4 32 (tag 98)) (.tmp 239) (.tmp 241)) (oVal (.tmp 243) (kUn (fadA 3) (.tmp 13)) (oVal .none (kStore 1 (.tmp 243) (.tmp 242)) oNil)))))))
def K11r32:OpsF:=(oVal (.tmp 193) (kMove (.tmp 25)) (oVal (.tmp 194) (kInt aSub (.tmp 193) (.con (.int .i64 1))) (oVal (.tmp 25) (kMove (.tmp 194)) oNil)))
def K11l4:K:=(kSeq (kSeq (kRegion K11r28 [192]) (kCond (.tmp 192) kSkip (kExit 8))) (kSeq (kBlock 9 (kSeq (kRegionD K11r29 [26]) (kSeq (kRegionD K11r30 []) (kRegion K11r31 [])))) (kRegion K11r32 [25])))
def K11r33:OpsF:=(oVal (.tmp 244) (kLoad (some 5) (.tmp 13)) (oVal (.tmp 245) (kLoad (some 2) (.tmp 14)) (oCall (.tmp 246) (.con (.func 15 [] [])) [(.tmp 244),(.tmp 245)] (oVal (.tmp 27) (kMove (.tmp 246)) oNil))))
def K11r34s7:OpsF:=(oVal (.tmp 254) (kPick (.tmp 251) (.tmp 253) (.con (.bool false))) oNil)
def K11r34s6:OpsF:=(oIf 251 true (oCall (.tmp 253) (.con (.func 36 [] [])) [(.tmp 252),(.con (.int .i64 4))] K11r34s7) (oSkip (.tmp 253) K11r34s7))
def K11r34:OpsF:=(oVal (.tmp 247) (kUn (fadA 3) (.tmp 13)) (oVal (.tmp 248) (kLoad none (.tmp 247)) (oVal (.tmp 249) (kUn lenSlA (.tmp 248)) (oVal (.tmp 250) (kGtr (.tmp 249) (.con (.int .i64 0))) (oVal (.tmp 251) (kMove (.tmp 250)) (oIf 251 true (oVal (.tmp 252) (kMove (.tmp 0)) K11r34s6) (oSkip (.tmp 252) K11r34s6)))))))
def K11r35:OpsF:=(oEnd [] (oVal (.tmp 255) (kUn (fadA 3) (.tmp 13)) (oVal (.tmp 256) (kLoad none (.tmp 255)) (oVal (.tmp 257) (kMove (.tmp 0)) (oVal (.tmp 258) (kUn (fadA 3) (.tmp 13)) (oVal (.tmp 259) (kLoad none (.tmp 258)) (oVal (.tmp 260) (kUn lenSlA (.tmp 259)) (oCallT (some [255]) (.tmp 261) (.con (.func 32 [] [])) [(.tmp 257),(.tmp 260)] (oVal (.tmp 262) (kTwo (ixsA 4) (.tmp 256) (.tmp 261)) (oVal (.tmp 28) (kMove (.tmp 262)) oNil))))))))))
def K11r36:OpsF:=(oEnd [] (oVal (.tmp 263) (kMove (.tmp 28)) (oVal (.tmp 264) (kMove (.tmp 28)) (oVal (.tmp 265) (kUn nilA (.tmp 264)) (oVal (.tmp 266) (kUn (fadA 3) (.tmp 265)) (oVal (.tmp 267) (kLoad none (.tmp 266)) (oVal (.tmp 268) (kMove (.tmp 0)) (oCallT (some [266]) (.tmp 269) (.con (.func 33 [] [])) [(.tmp 268),(.con (.int .i64 (-9))),(.con (.int .i64 9))] (oVal (.tmp 270) (kInt aAdd (.tmp 267) (.tmp 269)) (oVal (.tmp 271) (kFold maxA (.con (.int .i64 0)) [(.tmp 270)]) (oVal (.tmp 272) (kUn nilA (.tmp 263)) (oVal (.tmp 273) (kUn (fadA 3) (.tmp 272)) (oVal .none (kStore 1 (.tmp 273) (.tmp 271)) oNil)))))))))))))
def K11r37:OpsF:=(oVal (.tmp 274) (kLoad (some 5) (.tmp 13)) (oVal (.tmp 275) (kLoad (some 2) (.tmp 14)) (oCall (.tmp 276) (.con (.func 15 [] [])) [(.tmp 274),(.tmp 275)] (oVal (.tmp 27) (kMove (.tmp 276)) oNil))))
def K11r38:OpsF:=(oEnd [(10,14)] (oVal (.tmp 277) (kLoad (some 5) (.tmp 13)) (oVal (.tmp 278) (kLoad (some 2) (.tmp 14)) (oVal (.tmp 279) (kMove (.tmp 27)) (oVal .none (kStore 5 (.tmp 10) (.tmp 277)) (oVal .none (kStore 2 (.tmp 11) (.tmp 278)) (oVal (.tmp 12) (kMove (.tmp 279)) oNil)))))))
theorem res11:Try.f11.results.toList=[.cell 10 28,.cell 11 36,.tmp 12]:=by kernel_rfl
def K11:K:=(kSeq (kRegion K11r0 [10,11,12]) (kSeq (kRegion K11r1 [13]) (kSeq (kRegion K11r2 [14]) (kSeq (kSeq (kRegion K11r3 [15]) (kBlock 0 (kLoop K11l0))) (kSeq (kSeq (kRegion K11r10 [17]) (kBlock 2 (kLoop K11l2))) (kSeq (kSeq (kRegion K11r20 [21]) (kBlock 6 (kLoop K11l3))) (kSeq (kSeq (kRegion K11r27 [25]) (kBlock 8 (kLoop K11l4))) (kSeq (kRegion K11r33 [27]) (kSeq (kSeq (kRegion K11r34 [254]) (kCond (.tmp 254) (kSeq (kRegionD K11r35 [28]) (kSeq (kRegionD K11r36 []) (kRegion K11r37 [27]))) kSkip)) (kSeq (kRegionD K11r38 [12]) kRet))))))))))
theorem enter11 (cl:CallF) (a0 a1 a2 a3 a4:AV) (s:St):enterA Try.prog X cl 11 [a0,a1,a2,a3,a4] s Try.f11=finA Try.prog Try.f11 (K11 cl ⟨11,none,Try.f11.ntmps,X 11⟩ (paramsEnv 0 [a0,a1,a2,a3,a4] .nil) [] s) :=
  enterA_eq (b:=Try.f11.body.getD .skip) (by kernel_rfl) (by kernel_rfl) (by kernel_rfl) (by kernel_rfl) (by kernel_rfl)
def K38r0:OpsF:=(oVal (.tmp 4) (kMove (.con (.int .i64 0))) oNil)
def K38r1:OpsF:=(oVal (.tmp 5) (kMove (.tmp 1)) (oVal (.tmp 6) (kInt aLss (.tmp 5) (.con (.int .i64 2))) oNil))
def K38r2:OpsF:=(oVal (.tmp 4) (kMove (.con (.int .i64 0))) oNil)
def K38r3:OpsF:=(oVal (.tmp 7) (kMove (.tmp 0)) (oVal (.tmp 8) (kMove (.tmp 1)) (oVal (.tmp 9) (kInt aRem (.tmp 7) (.tmp 8)) (oVal (.tmp 0) (kMove (.tmp 9)) oNil))))
def K38r4:OpsF:=(oVal (.tmp 10) (kMove (.tmp 0)) (oVal (.tmp 11) (kInt aLss (.tmp 10) (.con (.int .i64 0))) oNil))
def K38r5:OpsF:=(oVal (.tmp 12) (kMove (.tmp 0)) (oVal (.tmp 13) (kMove (.tmp 1)) (oVal (.tmp 14) (kInt aAdd (.tmp 12) (.tmp 13)) (oVal (.tmp 4) (kMove (.tmp 14)) oNil))))
def K38r6:OpsF:=(oVal (.tmp 15) (kMove (.tmp 0)) (oVal (.tmp 4) (kMove (.tmp 15)) oNil))
theorem res38:Try.f38.results.toList=[.tmp 4]:=by kernel_rfl
def K38:K:=(kSeq (kRegion K38r0 [4]) (kSeq (kSeq (kRegion K38r1 [6]) (kCond (.tmp 6) (kSeq (kRegion K38r2 [4]) kRet) kSkip)) (kSeq (kRegion K38r3 [0]) (kSeq (kSeq (kRegion K38r4 [11]) (kCond (.tmp 11) (kSeq (kRegion K38r5 [4]) kRet) kSkip)) (kSeq (kRegion K38r6 [4]) kRet)))))
theorem enter38 (cl:CallF) (a0 a1:AV) (s:St):enterA Try.prog X cl 38 [a0,a1] s Try.f38=finA Try.prog Try.f38 (K38 cl ⟨38,none,Try.f38.ntmps,X 38⟩ (paramsEnv 0 [a0,a1] .nil) [] s) :=
  enterA_eq (b:=Try.f38.body.getD .skip) (by kernel_rfl) (by kernel_rfl) (by kernel_rfl) (by kernel_rfl) (by kernel_rfl)
def K15r0:OpsF:=(oVal (.tmp 2) (kBox (tag 28) (.tmp 0)) (oVal (.tmp 3) (kBox (tag 36) (.tmp 1)) (oVal (.tmp 4) (kMove (.con (.bool false))) oNil)))
def K15r1:OpsF:=(oVal (.tmp 5) (kMove (.con (.int .i64 0))) oNil)
def K15r2:OpsF:=(oVal (.tmp 9) (kMove (.tmp 5)) (oVal (.tmp 10) (kUn (fadA 1) (.tmp 2)) (oVal (.tmp 11) (kLoad none (.tmp 10)) (oVal (.tmp 12) (kUn lenSlA (.tmp 11)) (oVal (.tmp 13) (kInt aLss (.tmp 9) (.tmp 12)) oNil)))))
def K15r3:OpsF:=(oVal (.tmp 16) (kUn (fadA 1) (.tmp 2)) (oVal (.tmp 17) (kLoad none (.tmp 16)) (oVal (.tmp 18) (kMove (.tmp 5)) (oVal (.tmp 19) (kTwo (ixsA 4) (.tmp 17) (.tmp 18)) (oVal (.tmp 20) (kLoad (some 4) (.tmp 19)) (oVal (.tmp 6) (kAlloc [(.int .i64 0),(.int .i64 0),(.int .i64 0),(.int .i64 0)] (tag 96)) (oVal .none (kStore 4 (.tmp 6) (.tmp 20)) oNil)))))))
def K15r4:OpsF:=(oEnd [] (oVal (.tmp 21) (kUn (fadA 2) (.tmp 6)) (oVal (.tmp 22) (kLoad (some 2) (.tmp 21)) (oVal (.tmp 23) (kUn (fadA 0) (.tmp 3)) (oVal (.tmp 24) (kLoad none (.tmp 23)) (oVal (.tmp 25) (kUn (fadA 0) (.tmp 6)) (oVal (.tmp 26) (kLoad none (.tmp 25)) (oVal (.tmp 27) (kTwo (ixsA 1) (.tmp 24) (.tmp 26)) (oVal (.tmp 28) (kLoad none (.tmp 27)) (oVal (.tmp 29) (kUn (fadA 0) (.tmp 3)) (oVal (.tmp 30) (kLoad none (.tmp 29)) (oVal (.tmp 31) (kUn (fadA 1) (.tmp 6)) (oVal (.tmp 32) (kLoad none (.tmp 31)) (oVal (.tmp 33) (kTwo (ixsA 1) (.tmp 30) (.tmp 32)) (oVal (.tmp 34) (kLoad none (.tmp 33)) (oVal (.tmp 35) (kInt aSub (.tmp 28) (.tmp 34)) (oCall (.tmp 36) (.con (.func 39 [] [])) [(.tmp 22),(.tmp 35)] (oVal (.tmp 37) (kUn notA (.tmp 36)) oNil))))))))))))))))))
def K15r5:OpsF:=(oVal (.tmp 4) (kMove (.con (.bool false))) oNil)
def K15r6:OpsF:=(oVal (.tmp 14) (kMove (.tmp 5)) (oVal (.tmp 15) (kInt aAdd (.tmp 14) (.con (.int .i64 1))) (oVal (.tmp 5) (kMove (.tmp 15)) oNil)))
def K15l0:K:=(kSeq (kSeq (kRegion K15r2 [13]) (kCond (.tmp 13) kSkip (kExit 0))) (kSeq (kBlock 1 (kSeq (kRegion K15r3 [6]) (kSeq (kRegionD K15r4 [37]) (kCond (.tmp 37) (kSeq (kRegion K15r5 [4]) kRet) kSkip)))) (kRegion K15r6 [5])))
def K15r7:OpsF:=(oVal (.tmp 7) (kMove (.con (.int .i64 0))) oNil)
def K15r8:OpsF:=(oVal (.tmp 38) (kMove (.tmp 7)) (oVal (.tmp 39) (kUn (fadA 3) (.tmp 2)) (oVal (.tmp 40) (kLoad none (.tmp 39)) (oVal (.tmp 41) (kUn lenSlA (.tmp 40)) (oVal (.tmp 42) (kInt aLss (.tmp 38) (.tmp 41)) oNil)))))
def K15r9:OpsF:=(oVal (.tmp 45) (kUn (fadA 3) (.tmp 2)) (oVal (.tmp 46) (kLoad none (.tmp 45)) (oVal (.tmp 47) (kMove (.tmp 7)) (oVal (.tmp 48) (kTwo (ixsA 4) (.tmp 46) (.tmp 47)) (oVal (.tmp 49) (kLoad (some 4) (.tmp 48)) (oVal (.tmp 8) (kAlloc [(.int .i64 0),(.int .i64 0),(.int .i64 0),(.int .i64 0)] (tag 98)) (oVal .none (kStore 4 (.tmp 8) (.tmp 49)) oNil)))))))
def K15r10:OpsF:=(oEnd [] (oVal (.tmp 50) (kUn (fadA 3) (.tmp 8)) (oVal (.tmp 51) (kLoad none (.tmp 50)) (oVal (.tmp 52) (kUn (fadA 0) (.tmp 2)) (oVal (.tmp 53) (kLoad none (.tmp 52)) (oVal (.tmp 54) (kUn (fadA 2) (.tmp 8)) (oVal (.tmp 55) (kLoad none (.tmp 54)) (oVal (.tmp 56) (kTwo (ixsA 3) (.tmp 53) (.tmp 55)) (oVal (.tmp 57) (kUn (fadA 0) (.tmp 56)) (oVal (.tmp 58) (kLoad none (.tmp 57)) (oVal (.tmp 59) (kUn (fadA 0) (.tmp 3)) (oVal (.tmp 60) (kLoad none (.tmp 59)) (oVal (.tmp 61) (kUn (fadA 2) (.tmp 8)) (oVal (.tmp 62) (kLoad none (.tmp 61)) (oVal (.tmp 63) (kTwo (ixsA 1) (.tmp 60) (.tmp 62)) (oVal (.tmp 64) (kLoad none (.tmp 63)) (oVal (.tmp 65) (kInt aAdd (.tmp 58) (.tmp 64)) (oVal (.tmp 66) (kUn (fadA 1) (.tmp 3)) (oVal (.tmp 67) (kLoad none (.tmp 66)) (oVal (.tmp 68) (kUn (fadA 0) (.tmp 8)) (oVal (.tmp 69) (kLoad none (.tmp 68)) (oVal (.tmp 70) (kTwo (ixsA 1) (.tmp 67) (.tmp 69)) (oVal (.tmp 71) (kLoad none (.tmp 70)) (oVal (.tmp 72) (kUn (fadA 1) (.tmp 8)) (oVal (.tmp 73) (kLoad none (.tmp 72)) (oVal (.tmp 74) (kTwo (ixsA 1) (.tmp 71) (.tmp 73)) (oVal (.tmp 75) (kLoad none (.tmp 74)) (oVal (.tmp 76) (kInt aAdd (.tmp 65) (.tmp 75)) (oVal (.tmp 77) (kInt aNeq (.tmp 51) (.tmp 76)) oNil)))))))))))))))))))))))))))))
def K15r11:OpsF:=(oVal (.tmp 4) (kMove (.con (.bool false))) oNil)
def K15r12:OpsF:=(oVal (.tmp 43) (kMove (.tmp 7)) (oVal (.tmp 44) (kInt aAdd (.tmp 43) (.con (.int .i64 1))) (oVal (.tmp 7) (kMove (.tmp 44)) oNil)))
def K15l1:K:=(kSeq (kSeq (kRegion K15r8 [42]) (kCond (.tmp 42) kSkip (kExit 2))) (kSeq (kBlock 3 (kSeq (kRegion K15r9 [8]) (kSeq (kRegionD K15r10 [77]) (kCond (.tmp 77) (kSeq (kRegion K15r11 [4]) kRet) kSkip)))) (kRegion K15r12 [7])))
def K15r13:OpsF:=(oVal (.tmp 4) (kMove (.con (.bool true))) oNil)
theorem res15:Try.f15.results.toList=[.tmp 4]:=by kernel_rfl
def K15:K:=(kSeq (kRegion K15r0 [2,3,4]) (kSeq (kSeq (kRegion K15r1 [5]) (kBlock 0 (kLoop K15l0))) (kSeq (kSeq (kRegion K15r7 [7]) (kBlock 2 (kLoop K15l1))) (kSeq (kRegion K15r13 [4]) kRet))))
theorem enter15 (cl:CallF) (a0 a1:AV) (s:St):enterA Try.prog X cl 15 [a0,a1] s Try.f15=finA Try.prog Try.f15 (K15 cl ⟨15,none,Try.f15.ntmps,X 15⟩ (paramsEnv 0 [a0,a1] .nil) [] s) :=
  enterA_eq (b:=Try.f15.body.getD .skip) (by kernel_rfl) (by kernel_rfl) (by kernel_rfl) (by kernel_rfl) (by kernel_rfl)
def K39r0:OpsF:=(oVal (.tmp 2) (kBox (tag 44) (.tmp 0)) (oVal (.tmp 4) (kMove (.con (.bool false))) oNil))
def K39r1s9:OpsF:=(oVal (.tmp 14) (kPick (.tmp 9) (.tmp 13) (.con (.bool false))) (oVal (.tmp 4) (kMove (.tmp 14)) oNil))
def K39r1s8:OpsF:=(oIf 9 true (oVal (.tmp 13) (kInt aLeq (.tmp 10) (.tmp 12)) K39r1s9) (oSkip (.tmp 13) K39r1s9))
def K39r1s7:OpsF:=(oIf 9 true (oVal (.tmp 12) (kLoad none (.tmp 11)) K39r1s8) (oSkip (.tmp 12) K39r1s8))
def K39r1s6:OpsF:=(oIf 9 true (oVal (.tmp 11) (kUn (fadA 1) (.tmp 2)) K39r1s7) (oSkip (.tmp 11) K39r1s7))
def K39r1:OpsF:=(oVal (.tmp 5) (kUn (fadA 0) (.tmp 2)) (oVal (.tmp 6) (kLoad none (.tmp 5)) (oVal (.tmp 7) (kMove (.tmp 1)) (oVal (.tmp 8) (kInt aLeq (.tmp 6) (.tmp 7)) (oVal (.tmp 9) (kMove (.tmp 8)) (oIf 9 true (oVal (.tmp 10) (kMove (.tmp 1)) K39r1s6) (oSkip (.tmp 10) K39r1s6)))))))
theorem res39:Try.f39.results.toList=[.tmp 4]:=by kernel_rfl
def K39:K:=(kSeq (kRegion K39r0 [2,4]) (kSeq (kRegion K39r1 [4]) kRet))
theorem enter39 (cl:CallF) (a0 a1:AV) (s:St):enterA Try.prog X cl 39 [a0,a1] s Try.f39=finA Try.prog Try.f39 (K39 cl ⟨39,none,Try.f39.ntmps,X 39⟩ (paramsEnv 0 [a0,a1] .nil) [] s) :=
  enterA_eq (b:=Try.f39.body.getD .skip) (by kernel_rfl) (by kernel_rfl) (by kernel_rfl) (by kernel_rfl) (by kernel_rfl)
end
end Go.Proofs.Ytkkdiibgjgnbhaa.code
set_option maxRecDepth 100000
namespace Go.Proofs.Ytkkdiibgjgnbhaa.code
open Go.Abs
noncomputable section
def K3r0:OpsF:=(oVal (.tmp 2) (kMove (.con (.bool false))) oNil)
def K3r1:OpsF:=(oVal (.tmp 15) (kMove (.tmp 0)) (oCall (.tmp 16) (.con (.func 5 [] [])) [(.tmp 15)] (oCall (.tmp 17) (.con (.func 4 [] [])) [(.tmp 16)] (oVal (.tmp 3) (kAlloc [.nilslice,.nilslice,.nilslice,.nilslice,(.int .i64 0)] (tag 28)) (oVal .none (kStore 5 (.tmp 3) (.tmp 17)) oNil)))))
def K3r2:OpsF:=(oVal (.tmp 18) (kLoad (some 5) (.tmp 3)) (oVal (.tmp 19) (kBuild [.nilslice,.nilslice] []) (oCall (.tmp 20) (.con (.func 6 [] [])) [(.tmp 18),(.tmp 19),(.con .nilslice)] (oVal (.tmp 4) (kMove (.tmp 20)) oNil))))
def K3r3:OpsF:=(oVal (.tmp 22) (kLoad (some 5) (.tmp 3)) (oCall (.tmp 23) (.con (.func 7 [] [])) [(.tmp 22)] (oVal (.tmp 21) (kMove (.tmp 23)) (oVal (.tmp 24) (kUn (extA 0) (.tmp 21)) (oVal (.tmp 25) (kUn (extA 1) (.tmp 21)) (oVal (.tmp 5) (kMove (.tmp 24)) (oVal (.tmp 6) (kMove (.tmp 25)) oNil)))))))
def K3r4:OpsF:=(oVal (.tmp 27) (kLoad (some 5) (.tmp 3)) (oCall (.tmp 28) (.con (.func 8 [] [])) [(.tmp 27),(.con (.int .i64 0))] (oVal (.tmp 26) (kMove (.tmp 28)) (oVal (.tmp 29) (kUn (extA 0) (.tmp 26)) (oVal (.tmp 30) (kUn (extA 1) (.tmp 26)) (oVal (.tmp 7) (kMove (.tmp 29)) (oVal (.tmp 8) (kMove (.tmp 30)) oNil)))))))
def K3r5:OpsF:=(oVal (.tmp 31) (kMove (.tmp 4)) (oVal (.tmp 32) (kUn lenSlA (.tmp 31)) (oVal (.tmp 33) (kInt aEql (.tmp 32) (.con (.int .i64 0))) oNil)))
def K3r6s8:OpsF:=(oVal (.tmp 42) (kPick (.tmp 40) (.tmp 41) (.con (.bool false))) (oVal (.tmp 2) (kMove (.tmp 42)) oNil))
def K3r6s5:OpsF:=(oVal (.tmp 39) (kPick (.tmp 36) (.tmp 38) (.con (.bool false))) (oVal (.tmp 40) (kMove (.tmp 39)) (oIf 40 true (oCall (.tmp 41) (.con (.func 9 [] [])) [] K3r6s8) (oSkip (.tmp 41) K3r6s8))))
def K3r6s4:OpsF:=(oIf 36 true (oVal (.tmp 38) (kInt aEql (.tmp 37) (.con (.int .i64 9))) K3r6s5) (oSkip (.tmp 38) K3r6s5))
def K3r6:OpsF:=(oVal (.tmp 34) (kMove (.tmp 6)) (oVal (.tmp 35) (kInt aEql (.tmp 34) (.con (.int .i64 9))) (oVal (.tmp 36) (kMove (.tmp 35)) (oIf 36 true (oVal (.tmp 37) (kMove (.tmp 8)) K3r6s4) (oSkip (.tmp 37) K3r6s4)))))
def K3r7s21:OpsF:=(oVal (.tmp 64) (kPick (.tmp 57) (.con (.bool true)) (.tmp 63)) oNil)
def K3r7s20:OpsF:=(oIf 57 false (oVal (.tmp 63) (kInt aNeq (.tmp 59) (.tmp 62)) K3r7s21) (oSkip (.tmp 63) K3r7s21))
def K3r7s19:OpsF:=(oIf 57 false (oVal (.tmp 62) (kInt aAdd (.tmp 61) (.con (.int .i64 1))) K3r7s20) (oSkip (.tmp 62) K3r7s20))
def K3r7s18:OpsF:=(oIf 57 false (oVal (.tmp 61) (kLoad none (.tmp 60)) K3r7s19) (oSkip (.tmp 61) K3r7s19))
def K3r7s17:OpsF:=(oIf 57 false (oVal (.tmp 60) (kUn (fadA 4) (.tmp 3)) K3r7s18) (oSkip (.tmp 60) K3r7s18))
def K3r7s16:OpsF:=(oIf 57 false (oVal (.tmp 59) (kUn lenSlA (.tmp 58)) K3r7s17) (oSkip (.tmp 59) K3r7s17))
def K3r7s13:OpsF:=(oVal (.tmp 56) (kPick (.tmp 49) (.con (.bool true)) (.tmp 55)) (oVal (.tmp 57) (kMove (.tmp 56)) (oIf 57 false (oVal (.tmp 58) (kMove (.tmp 7)) K3r7s16) (oSkip (.tmp 58) K3r7s16))))
def K3r7s12:OpsF:=(oIf 49 false (oVal (.tmp 55) (kInt aNeq (.tmp 51) (.tmp 54)) K3r7s13) (oSkip (.tmp 55) K3r7s13))
def K3r7s11:OpsF:=(oIf 49 false (oVal (.tmp 54) (kUn lenSlA (.tmp 53)) K3r7s12) (oSkip (.tmp 54) K3r7s12))
def K3r7s10:OpsF:=(oIf 49 false (oVal (.tmp 53) (kLoad none (.tmp 52)) K3r7s11) (oSkip (.tmp 53) K3r7s11))
def K3r7s9:OpsF:=(oIf 49 false (oVal (.tmp 52) (kUn (fadA 0) (.tmp 3)) K3r7s10) (oSkip (.tmp 52) K3r7s10))
def K3r7s8:OpsF:=(oIf 49 false (oVal (.tmp 51) (kUn lenSlA (.tmp 50)) K3r7s9) (oSkip (.tmp 51) K3r7s9))
def K3r7s5:OpsF:=(oVal (.tmp 48) (kPick (.tmp 45) (.con (.bool true)) (.tmp 47)) (oVal (.tmp 49) (kMove (.tmp 48)) (oIf 49 false (oVal (.tmp 50) (kMove (.tmp 5)) K3r7s8) (oSkip (.tmp 50) K3r7s8))))
def K3r7s4:OpsF:=(oIf 45 false (oVal (.tmp 47) (kInt aNeq (.tmp 46) (.con (.int .i64 0))) K3r7s5) (oSkip (.tmp 47) K3r7s5))
def K3r7:OpsF:=(oVal (.tmp 43) (kMove (.tmp 6)) (oVal (.tmp 44) (kInt aNeq (.tmp 43) (.con (.int .i64 0))) (oVal (.tmp 45) (kMove (.tmp 44)) (oIf 45 false (oVal (.tmp 46) (kMove (.tmp 8)) K3r7s4) (oSkip (.tmp 46) K3r7s4)))))
def K3r8:OpsF:=(oVal (.tmp 2) (kMove (.con (.bool false))) oNil)
def K3r9:OpsF:=(oVal (.tmp 9) (kMove (.con (.int .i64 0))) oNil)
def K3r10:OpsF:=(oVal (.tmp 65) (kMove (.tmp 9)) (oVal (.tmp 66) (kMove (.tmp 5)) (oVal (.tmp 67) (kUn lenSlA (.tmp 66)) (oVal (.tmp 68) (kInt aLss (.tmp 65) (.tmp 67)) oNil))))
def K3r11:OpsF:=(oEnd [] (oVal (.tmp 71) (kMove (.tmp 4)) (oVal (.tmp 72) (kTwo (ixsA 2) (.tmp 71) (.con (.int .i64 0))) (oVal (.tmp 73) (kUn (fadA 0) (.tmp 72)) (oVal (.tmp 74) (kLoad none (.tmp 73)) (oVal (.tmp 75) (kMove (.tmp 9)) (oVal (.tmp 76) (kTwo (ixsA 1) (.tmp 74) (.tmp 75)) (oVal (.tmp 77) (kLoad none (.tmp 76)) (oVal (.tmp 78) (kMove (.tmp 4)) (oVal (.tmp 79) (kTwo (ixsA 2) (.tmp 78) (.con (.int .i64 0))) (oVal (.tmp 80) (kUn (fadA 0) (.tmp 79)) (oVal (.tmp 81) (kLoad none (.tmp 80)) (oVal (.tmp 82) (kMove (.tmp 9)) (oVal (.tmp 83) (kTwo (ixsA 1) (.tmp 81) (.tmp 82)) (oVal (.tmp 84) (kLoad none (.tmp 83)) (oCall (.tmp 85) (.con (.func 10 [] [])) [(.tmp 77),(.tmp 84)] (oVal (.tmp 10) (kAlloc [(.int .i64 0),(.int .i64 0)] (tag 44)) (oVal .none (kStore 2 (.tmp 10) (.tmp 85)) oNil))))))))))))))))))
def K3r12:OpsF:=(oVal (.tmp 11) (kMove (.con (.int .i64 0))) oNil)
def K3r13:OpsF:=(oVal (.tmp 86) (kMove (.tmp 11)) (oVal (.tmp 87) (kMove (.tmp 4)) (oVal (.tmp 88) (kUn lenSlA (.tmp 87)) (oVal (.tmp 89) (kInt aLss (.tmp 86) (.tmp 88)) oNil))))
def K3r14:OpsF:=(oEnd [] (oVal (.tmp 92) (kUn (fadA 0) (.tmp 10)) (oVal (.tmp 93) (kLoad none (.tmp 92)) (oVal (.tmp 94) (kMove (.tmp 4)) (oVal (.tmp 95) (kMove (.tmp 11)) (oVal (.tmp 96) (kTwo (ixsA 2) (.tmp 94) (.tmp 95)) (oVal (.tmp 97) (kUn (fadA 0) (.tmp 96)) (oVal (.tmp 98) (kLoad none (.tmp 97)) (oVal (.tmp 99) (kMove (.tmp 9)) (oVal (.tmp 100) (kTwo (ixsA 1) (.tmp 98) (.tmp 99)) (oVal (.tmp 101) (kLoad none (.tmp 100)) (oVal (.tmp 102) (kFold minA (.tmp 93) [(.tmp 101)]) (oVal (.tmp 103) (kUn (fadA 1) (.tmp 10)) (oVal (.tmp 104) (kLoad none (.tmp 103)) (oVal (.tmp 105) (kMove (.tmp 4)) (oVal (.tmp 106) (kMove (.tmp 11)) (oVal (.tmp 107) (kTwo (ixsA 2) (.tmp 105) (.tmp 106)) (oVal (.tmp 108) (kUn (fadA 0) (.tmp 107)) (oVal (.tmp 109) (kLoad none (.tmp 108)) (oVal (.tmp 110) (kMove (.tmp 9)) (oVal (.tmp 111) (kTwo (ixsA 1) (.tmp 109) (.tmp 110)) (oVal (.tmp 112) (kLoad none (.tmp 111)) (oVal (.tmp 113) (kFold maxA (.tmp 104) [(.tmp 112)]) (oCall (.tmp 114) (.con (.func 10 [] [])) [(.tmp 102),(.tmp 113)] (oVal .none (kStore 2 (.tmp 10) (.tmp 114)) oNil)))))))))))))))))))))))))
def K3r15:OpsF:=(oVal (.tmp 90) (kMove (.tmp 11)) (oVal (.tmp 91) (kInt aAdd (.tmp 90) (.con (.int .i64 1))) (oVal (.tmp 11) (kMove (.tmp 91)) oNil)))
def K3l0:K:=(kSeq (kSeq (kRegion K3r13 [89]) (kCond (.tmp 89) kSkip (kExit 2))) (kSeq (kBlock 3 (kRegionD K3r14 [])) (kRegion K3r15 [11])))
def K3r16:OpsF:=(oEnd [] (oVal (.tmp 115) (kMove (.tmp 5)) (oVal (.tmp 116) (kMove (.tmp 9)) (oVal (.tmp 117) (kTwo (ixsA 2) (.tmp 115) (.tmp 116)) (oVal (.tmp 118) (kLoad (some 2) (.tmp 117)) (oVal (.tmp 119) (kLoad (some 2) (.tmp 10)) (oVal (.tmp 120) (kEql (.row [(0,none,.int),(1,none,.int)]) true (.tmp 118) (.tmp 119)) oNil)))))))
def K3r17:OpsF:=(oVal (.tmp 2) (kMove (.con (.bool false))) oNil)
def K3r18:OpsF:=(oVal (.tmp 69) (kMove (.tmp 9)) (oVal (.tmp 70) (kInt aAdd (.tmp 69) (.con (.int .i64 1))) (oVal (.tmp 9) (kMove (.tmp 70)) oNil)))
def K3l1:K:=(kSeq (kSeq (kRegion K3r10 [68]) (kCond (.tmp 68) kSkip (kExit 0))) (kSeq (kBlock 1 (kSeq (kRegionD K3r11 [10]) (kSeq (kSeq (kRegion K3r12 [11]) (kBlock 2 (kLoop K3l0))) (kSeq (kRegionD K3r16 [120]) (kCond (.tmp 120) (kSeq (kRegion K3r17 [2]) kRet) kSkip))))) (kRegion K3r18 [9])))
def K3r19:OpsF:=(oVal (.tmp 12) (kMove (.con (.int .i64 0))) oNil)
def K3r20:OpsF:=(oVal (.tmp 121) (kMove (.tmp 12)) (oVal (.tmp 122) (kMove (.tmp 7)) (oVal (.tmp 123) (kUn lenSlA (.tmp 122)) (oVal (.tmp 124) (kInt aLss (.tmp 121) (.tmp 123)) oNil))))
def K3r21:OpsF:=(oEnd [] (oVal (.tmp 127) (kMove (.tmp 4)) (oVal (.tmp 128) (kTwo (ixsA 2) (.tmp 127) (.con (.int .i64 0))) (oVal (.tmp 129) (kUn (fadA 1) (.tmp 128)) (oVal (.tmp 130) (kLoad none (.tmp 129)) (oVal (.tmp 131) (kTwo (ixsA 1) (.tmp 130) (.con (.int .i64 0))) (oVal (.tmp 132) (kLoad none (.tmp 131)) (oVal (.tmp 133) (kMove (.tmp 12)) (oVal (.tmp 134) (kTwo (ixsA 1) (.tmp 132) (.tmp 133)) (oVal (.tmp 135) (kLoad none (.tmp 134)) (oVal (.tmp 136) (kMove (.tmp 4)) (oVal (.tmp 137) (kTwo (ixsA 2) (.tmp 136) (.con (.int .i64 0))) (oVal (.tmp 138) (kUn (fadA 1) (.tmp 137)) (oVal (.tmp 139) (kLoad none (.tmp 138)) (oVal (.tmp 140) (kTwo (ixsA 1) (.tmp 139) (.con (.int .i64 0))) (oVal (.tmp 141) (kLoad none (.tmp 140)) (oVal (.tmp 142) (kMove (.tmp 12)) (oVal (.tmp 143) (kTwo (ixsA 1) (.tmp 141) (.tmp 142)) (oVal (.tmp 144) (kLoad none (.tmp 143)) (oCall (.tmp 145) (.con (.func 10 [] [])) [(.tmp 135),(.tmp 144)] (oVal (.tmp 13) (kAlloc [(.int .i64 0),(.int .i64 0)] (tag 44)) (oVal .none (kStore 2 (.tmp 13) (.tmp 145)) oNil))))))))))))))))))))))
def K3r22:OpsF:=(oVal (.tmp 14) (kMove (.con (.int .i64 0))) oNil)
def K3r23:OpsF:=(oVal (.tmp 146) (kMove (.tmp 14)) (oVal (.tmp 147) (kMove (.tmp 4)) (oVal (.tmp 148) (kUn lenSlA (.tmp 147)) (oVal (.tmp 149) (kInt aLss (.tmp 146) (.tmp 148)) oNil))))
def K3r24:OpsF:=(oEnd [] (oVal (.tmp 152) (kUn (fadA 0) (.tmp 13)) (oVal (.tmp 153) (kLoad none (.tmp 152)) (oVal (.tmp 154) (kMove (.tmp 4)) (oVal (.tmp 155) (kMove (.tmp 14)) (oVal (.tmp 156) (kTwo (ixsA 2) (.tmp 154) (.tmp 155)) (oVal (.tmp 157) (kUn (fadA 1) (.tmp 156)) (oVal (.tmp 158) (kLoad none (.tmp 157)) (oVal (.tmp 159) (kTwo (ixsA 1) (.tmp 158) (.con (.int .i64 0))) (oVal (.tmp 160) (kLoad none (.tmp 159)) (oVal (.tmp 161) (kMove (.tmp 12)) (oVal (.tmp 162) (kTwo (ixsA 1) (.tmp 160) (.tmp 161)) (oVal (.tmp 163) (kLoad none (.tmp 162)) (oVal (.tmp 164) (kFold minA (.tmp 153) [(.tmp 163)]) (oVal (.tmp 165) (kUn (fadA 1) (.tmp 13)) (oVal (.tmp 166) (kLoad none (.tmp 165)) (oVal (.tmp 167) (kMove (.tmp 4)) (oVal (.tmp 168) (kMove (.tmp 14)) (oVal (.tmp 169) (kTwo (ixsA 2) (.tmp 167) (.tmp 168)) (oVal (.tmp 170) (kUn (fadA 1) (.tmp 169)) (oVal (.tmp 171) (kLoad none (.tmp 170)) (oVal (.tmp 172) (kTwo (ixsA 1) (.tmp 171) (.con (.int .i64 0))) (oVal (.tmp 173) (kLoad none (.tmp 172)) (oVal (.tmp 174) (kMove (.tmp 12)) (oVal (.tmp 175) (kTwo (ixsA 1) (.tmp 173) (.tmp 174)) (oVal (.tmp 176) (kLoad none (.tmp 175)) (oVal (.tmp 177) (kFold maxA (.tmp 166) [(.tmp 176)]) (oCall (.tmp 178) (.con (.func 10 [] [])) [(.tmp 164),(.tmp 177)] (oVal .none (kStore 2 (.tmp 13) (.tmp 178)) oNil)))))))))))))))))))))))))))))
def K3r25:OpsF:=(oVal (.tmp 150) (kMove (.tmp 14)) (oVal (.tmp 151) (kInt aAdd (.tmp 150) (.con (.int .i64 1))) (oVal (.tmp 14) (kMove (.tmp 151)) oNil)))
def K3l2:K:=(kSeq (kSeq (kRegion K3r23 [149]) (kCond (.tmp 149) kSkip (kExit 6))) (kSeq (kBlock 7 (kRegionD K3r24 [])) (kRegion K3r25 [14])))
def K3r26:OpsF:=(oEnd [] (oVal (.tmp 179) (kMove (.tmp 7)) (oVal (.tmp 180) (kMove (.tmp 12)) (oVal (.tmp 181) (kTwo (ixsA 2) (.tmp 179) (.tmp 180)) (oVal (.tmp 182) (kLoad (some 2) (.tmp 181)) (oVal (.tmp 183) (kLoad (some 2) (.tmp 13)) (oVal (.tmp 184) (kEql (.row [(0,none,.int),(1,none,.int)]) true (.tmp 182) (.tmp 183)) oNil)))))))
def K3r27:OpsF:=(oVal (.tmp 2) (kMove (.con (.bool false))) oNil)
def K3r28:OpsF:=(oVal (.tmp 125) (kMove (.tmp 12)) (oVal (.tmp 126) (kInt aAdd (.tmp 125) (.con (.int .i64 1))) (oVal (.tmp 12) (kMove (.tmp 126)) oNil)))
def K3l3:K:=(kSeq (kSeq (kRegion K3r20 [124]) (kCond (.tmp 124) kSkip (kExit 4))) (kSeq (kBlock 5 (kSeq (kRegionD K3r21 [13]) (kSeq (kSeq (kRegion K3r22 [14]) (kBlock 6 (kLoop K3l2))) (kSeq (kRegionD K3r26 [184]) (kCond (.tmp 184) (kSeq (kRegion K3r27 [2]) kRet) kSkip))))) (kRegion K3r28 [12])))
def K3r29:OpsF:=(oCall (.tmp 185) (.con (.func 9 [] [])) [] (oVal (.tmp 2) (kMove (.tmp 185)) oNil))
theorem res3:Try.f3.results.toList=[.tmp 2]:=by kernel_rfl
def K3:K:=(kSeq (kRegion K3r0 [2]) (kSeq (kRegion K3r1 [3]) (kSeq (kRegion K3r2 [4]) (kSeq (kRegion K3r3 [5,6]) (kSeq (kRegion K3r4 [7,8]) (kSeq (kSeq (kRegion K3r5 [33]) (kCond (.tmp 33) (kSeq (kRegion K3r6 [2]) kRet) kSkip)) (kSeq (kSeq (kRegion K3r7 [64]) (kCond (.tmp 64) (kSeq (kRegion K3r8 [2]) kRet) kSkip)) (kSeq (kSeq (kRegion K3r9 [9]) (kBlock 0 (kLoop K3l1))) (kSeq (kSeq (kRegion K3r19 [12]) (kBlock 4 (kLoop K3l3))) (kSeq (kRegion K3r29 [2]) kRet))))))))))
def K4r0:OpsF:=(oVal (.tmp 2) (kAlloc [.nilslice,.nilslice,.nilslice,.nilslice,(.int .i64 0)] (tag 28)) oNil)
def K4r1:OpsF:=(oVal (.tmp 10) (kMove (.tmp 0)) (oCall (.tmp 11) (.con (.func 11 [] [])) [(.tmp 10),(.con (.int .i64 2)),(.con (.int .i64 1)),(.con (.int .i64 2)),(.con (.int .i64 2))] (oVal (.tmp 9) (kMove (.tmp 11)) (oVal (.tmp 12) (kUn (extA 0) (.tmp 9)) (oVal (.tmp 13) (kUn (extA 1) (.tmp 9)) (oVal (.tmp 14) (kUn (extA 2) (.tmp 9)) (oVal (.tmp 3) (kAlloc [.nilslice,.nilslice,.nilslice,.nilslice,(.int .i64 0)] (tag 28)) (oVal (.tmp 4) (kAlloc [.nilslice,.nilslice] (tag 36)) (oVal .none (kStore 5 (.tmp 3) (.tmp 12)) (oVal .none (kStore 2 (.tmp 4) (.tmp 13)) (oVal (.tmp 5) (kMove (.tmp 14)) oNil)))))))))))
def K4r2:OpsF:=(oVal (.tmp 6) (kMove (.con (.int .i64 0))) oNil)
def K4r3:OpsF:=(oVal (.tmp 15) (kMove (.tmp 6)) (oVal (.tmp 16) (kUn (fadA 0) (.tmp 3)) (oVal (.tmp 17) (kLoad none (.tmp 16)) (oVal (.tmp 18) (kUn lenSlA (.tmp 17)) (oVal (.tmp 19) (kInt aLss (.tmp 15) (.tmp 18)) oNil)))))
def K4r4:OpsF:=(oVal (.tmp 22) (kUn (fadA 0) (.tmp 3)) (oVal (.tmp 23) (kLoad none (.tmp 22)) (oVal (.tmp 24) (kMove (.tmp 6)) (oVal (.tmp 25) (kTwo (ixsA 3) (.tmp 23) (.tmp 24)) (oVal (.tmp 26) (kUn (fadA 1) (.tmp 25)) (oVal (.tmp 7) (kMove (.tmp 26)) oNil))))))
def K4r5:OpsF:=(oEnd [] (oVal (.tmp 27) (kMove (.tmp 7)) (oVal (.tmp 28) (kMove (.tmp 7)) (oVal (.tmp 29) (kUn nilA (.tmp 28)) (oVal (.tmp 30) (kUn (fadA 1) (.tmp 29)) (oVal (.tmp 31) (kLoad none (.tmp 30)) (oVal (.tmp 32) (kMove (.tmp 7)) (oVal (.tmp 33) (kUn nilA (.tmp 32)) (oVal (.tmp 34) (kUn (fadA 0) (.tmp 33)) (oVal (.tmp 35) (kLoad none (.tmp 34)) (oVal (.tmp 36) (kInt aAdd (.tmp 35) (.con (.int .i64 4))) (oVal (.tmp 37) (kFold minA (.tmp 31) [(.tmp 36)]) (oVal (.tmp 38) (kUn nilA (.tmp 27)) (oVal (.tmp 39) (kUn (fadA 1) (.tmp 38)) (oVal .none (kStore 1 (.tmp 39) (.tmp 37)) oNil)))))))))))))))
def K4r6:OpsF:=(oVal (.tmp 20) (kMove (.tmp 6)) (oVal (.tmp 21) (kInt aAdd (.tmp 20) (.con (.int .i64 1))) (oVal (.tmp 6) (kMove (.tmp 21)) oNil)))
def K4l0:K:=(kSeq (kSeq (kRegion K4r3 [19]) (kCond (.tmp 19) kSkip (kExit 0))) (kSeq (kBlock 1 (kSeq (kRegion K4r4 [7]) (kRegionD K4r5 []))) (kRegion K4r6 [6])))
def K4r7:OpsF:=(oVal (.tmp 40) (kUn (fadA 2) (.tmp 3)) (oVal (.tmp 41) (kLoad none (.tmp 40)) (oVal (.tmp 42) (kTwo (ixsA 4) (.tmp 41) (.con (.int .i64 0))) (oVal (.tmp 8) (kMove (.tmp 42)) oNil))))
def K4r8:OpsF:=(oEnd [] (oVal (.tmp 43) (kMove (.tmp 8)) (oVal (.tmp 44) (kMove (.tmp 8)) (oVal (.tmp 45) (kMove (.tmp 8)) (oVal (.tmp 46) (kUn nilA (.tmp 45)) (oVal (.tmp 47) (kUn (fadA 0) (.tmp 46)) (oVal (.tmp 48) (kUn (fadA 1) (.tmp 47)) (oVal (.tmp 49) (kLoad none (.tmp 48)) (oVal (.tmp 50) (kMove (.tmp 8)) (oVal (.tmp 51) (kUn nilA (.tmp 50)) (oVal (.tmp 52) (kUn (fadA 0) (.tmp 51)) (oVal (.tmp 53) (kUn (fadA 0) (.tmp 52)) (oVal (.tmp 54) (kLoad none (.tmp 53)) (oVal (.tmp 55) (kInt aAdd (.tmp 54) (.con (.int .i64 4))) (oVal (.tmp 56) (kFold minA (.tmp 49) [(.tmp 55)]) (oVal (.tmp 57) (kMove (.tmp 8)) (oVal (.tmp 58) (kUn nilA (.tmp 57)) (oVal (.tmp 59) (kUn (fadA 2) (.tmp 58)) (oVal (.tmp 60) (kUn (fadA 1) (.tmp 59)) (oVal (.tmp 61) (kLoad none (.tmp 60)) (oVal (.tmp 62) (kMove (.tmp 8)) (oVal (.tmp 63) (kUn nilA (.tmp 62)) (oVal (.tmp 64) (kUn (fadA 2) (.tmp 63)) (oVal (.tmp 65) (kUn (fadA 0) (.tmp 64)) (oVal (.tmp 66) (kLoad none (.tmp 65)) (oVal (.tmp 67) (kInt aAdd (.tmp 66) (.con (.int .i64 2))) (oVal (.tmp 68) (kFold minA (.tmp 61) [(.tmp 67)]) (oVal (.tmp 69) (kUn nilA (.tmp 43)) (oVal (.tmp 70) (kUn (fadA 0) (.tmp 69)) (oVal (.tmp 71) (kUn (fadA 1) (.tmp 70)) (oVal .none (kStore 1 (.tmp 71) (.tmp 56)) (oVal (.tmp 72) (kUn nilA (.tmp 44)) (oVal (.tmp 73) (kUn (fadA 2) (.tmp 72)) (oVal (.tmp 74) (kUn (fadA 1) (.tmp 73)) (oVal .none (kStore 1 (.tmp 74) (.tmp 68)) oNil)))))))))))))))))))))))))))))))))))
def K4r9:OpsF:=(oVal (.tmp 75) (kLoad (some 5) (.tmp 3)) (oVal .none (kStore 5 (.tmp 2) (.tmp 75)) oNil))
theorem res4:Try.f4.results.toList=[.cell 2 28]:=by kernel_rfl
def K4:K:=(kSeq (kRegion K4r0 [2]) (kSeq (kRegion K4r1 [3]) (kSeq (kSeq (kRegion K4r2 [6]) (kBlock 0 (kLoop K4l0))) (kSeq (kRegion K4r7 [8]) (kSeq (kRegionD K4r8 []) (kSeq (kRegion K4r9 []) kRet))))))
theorem enter4 (cl:CallF) (a0:AV) (s:St):enterA Try.prog X cl 4 [a0] s Try.f4=finA Try.prog Try.f4 (K4 cl ⟨4,none,Try.f4.ntmps,X 4⟩ (paramsEnv 0 [a0] .nil) [] s) :=
  enterA_eq (b:=Try.f4.body.getD .skip) (by kernel_rfl) (by kernel_rfl) (by kernel_rfl) (by kernel_rfl) (by kernel_rfl)
def K6r0:OpsF:=(oVal (.tmp 3) (kBox (tag 28) (.tmp 0)) (oVal (.tmp 4) (kBox (tag 36) (.tmp 1)) (oVal (.tmp 6) (kMove (.con .nilslice)) oNil)))
def K6r1:OpsF:=(oVal (.tmp 14) (kUn (fadA 0) (.tmp 4)) (oVal (.tmp 15) (kLoad none (.tmp 14)) (oVal (.tmp 16) (kUn lenSlA (.tmp 15)) (oVal (.tmp 7) (kMove (.tmp 16)) oNil))))
def K6r2:OpsF:=(oVal (.tmp 17) (kMove (.tmp 7)) (oVal (.tmp 18) (kUn (fadA 0) (.tmp 3)) (oVal (.tmp 19) (kLoad none (.tmp 18)) (oVal (.tmp 20) (kUn lenSlA (.tmp 19)) (oVal (.tmp 21) (kInt aLss (.tmp 17) (.tmp 20)) oNil)))))
def K6r3:OpsF:=(oVal (.tmp 22) (kUn (fadA 0) (.tmp 3)) (oVal (.tmp 23) (kLoad none (.tmp 22)) (oVal (.tmp 24) (kMove (.tmp 7)) (oVal (.tmp 25) (kTwo (ixsA 3) (.tmp 23) (.tmp 24)) (oVal (.tmp 26) (kUn (fadA 1) (.tmp 25)) (oVal (.tmp 27) (kUn (fadA 0) (.tmp 26)) (oVal (.tmp 28) (kLoad none (.tmp 27)) (oVal (.tmp 8) (kMove (.tmp 28)) oNil))))))))
def K6r4:OpsF:=(oVal (.tmp 29) (kMove (.tmp 8)) (oVal (.tmp 30) (kUn (fadA 0) (.tmp 3)) (oVal (.tmp 31) (kLoad none (.tmp 30)) (oVal (.tmp 32) (kMove (.tmp 7)) (oVal (.tmp 33) (kTwo (ixsA 3) (.tmp 31) (.tmp 32)) (oVal (.tmp 34) (kUn (fadA 1) (.tmp 33)) (oVal (.tmp 35) (kUn (fadA 1) (.tmp 34)) (oVal (.tmp 36) (kLoad none (.tmp 35)) (oVal (.tmp 37) (kInt aLeq (.tmp 29) (.tmp 36)) oNil)))))))))
def K6r5:OpsF:=(oEnd [(43,3)] (oVal (.tmp 40) (kLoad (some 5) (.tmp 3)) (oVal (.tmp 41) (kUn (fadA 0) (.tmp 4)) (oVal (.tmp 42) (kLoad none (.tmp 41)) (oCallT (some [3]) (.tmp 43) (.con (.func 13 [] [])) [(.tmp 42)] (oVal (.tmp 44) (kMove (.tmp 8)) (oVal (.tmp 45) (kBuildSlice [(.int .i64 0)] 1 [(0,1,(.tmp 44))]) (oVal (.tmp 46) (kTwo (appendA false 1 8 (tag 3)) (.tmp 43) (.tmp 45)) (oVal (.tmp 47) (kBuild [.nilslice,.nilslice] [(0,1,(.tmp 46))]) (oVal (.tmp 48) (kMove (.tmp 2)) (oCall (.tmp 49) (.con (.func 6 [] [])) [(.tmp 40),(.tmp 47),(.tmp 48)] (oVal (.tmp 2) (kMove (.tmp 49)) oNil))))))))))))
def K6r6:OpsF:=(oVal (.tmp 38) (kMove (.tmp 8)) (oVal (.tmp 39) (kInt aAdd (.tmp 38) (.con (.int .i64 1))) (oVal (.tmp 8) (kMove (.tmp 39)) oNil)))
def K6l0:K:=(kSeq (kSeq (kRegion K6r4 [37]) (kCond (.tmp 37) kSkip (kExit 0))) (kSeq (kBlock 1 (kRegionD K6r5 [2])) (kRegion K6r6 [8])))
def K6r7:OpsF:=(oVal (.tmp 50) (kMove (.tmp 2)) (oVal (.tmp 6) (kMove (.tmp 50)) oNil))
def K6r8:OpsF:=(oVal (.tmp 51) (kUn (fadA 1) (.tmp 4)) (oVal (.tmp 52) (kLoad none (.tmp 51)) (oVal (.tmp 53) (kUn lenSlA (.tmp 52)) (oVal (.tmp 54) (kInt aSub (.tmp 53) (.con (.int .i64 1))) (oVal (.tmp 9) (kMove (.tmp 54)) oNil)))))
def K6r9s12:OpsF:=(oVal (.tmp 67) (kPick (.tmp 57) (.tmp 66) (.con (.bool false))) oNil)
def K6r9s11:OpsF:=(oIf 57 true (oVal (.tmp 66) (kInt aLeq (.tmp 63) (.tmp 65)) K6r9s12) (oSkip (.tmp 66) K6r9s12))
def K6r9s10:OpsF:=(oIf 57 true (oVal (.tmp 65) (kLoad none (.tmp 64)) K6r9s11) (oSkip (.tmp 65) K6r9s11))
def K6r9s9:OpsF:=(oIf 57 true (oVal (.tmp 64) (kUn (fadA 4) (.tmp 3)) K6r9s10) (oSkip (.tmp 64) K6r9s10))
def K6r9s8:OpsF:=(oIf 57 true (oVal (.tmp 63) (kUn lenSlA (.tmp 62)) K6r9s9) (oSkip (.tmp 63) K6r9s9))
def K6r9s7:OpsF:=(oIf 57 true (oVal (.tmp 62) (kLoad none (.tmp 61)) K6r9s8) (oSkip (.tmp 62) K6r9s8))
def K6r9s6:OpsF:=(oIf 57 true (oVal (.tmp 61) (kTwo (ixsA 1) (.tmp 59) (.tmp 60)) K6r9s7) (oSkip (.tmp 61) K6r9s7))
def K6r9s5:OpsF:=(oIf 57 true (oVal (.tmp 60) (kMove (.tmp 9)) K6r9s6) (oSkip (.tmp 60) K6r9s6))
def K6r9s4:OpsF:=(oIf 57 true (oVal (.tmp 59) (kLoad none (.tmp 58)) K6r9s5) (oSkip (.tmp 59) K6r9s5))
def K6r9:OpsF:=(oEnd [] (oVal (.tmp 55) (kMove (.tmp 9)) (oVal (.tmp 56) (kInt aGeq (.tmp 55) (.con (.int .i64 0))) (oVal (.tmp 57) (kMove (.tmp 56)) (oIf 57 true (oVal (.tmp 58) (kUn (fadA 1) (.tmp 4)) K6r9s4) (oSkip (.tmp 58) K6r9s4))))))
def K6r10:OpsF:=(oVal (.tmp 68) (kUn (fadA 1) (.tmp 4)) (oVal (.tmp 69) (kLoad none (.tmp 68)) (oVal (.tmp 70) (kMove (.tmp 9)) (oVal (.tmp 71) (kTwo (ixsA 1) (.tmp 69) (.tmp 70)) (oVal (.tmp 72) (kLoad none (.tmp 71)) (oVal (.tmp 10) (kMove (.tmp 72)) oNil))))))
def K6r11:OpsF:=(oVal (.tmp 73) (kUn (fadA 2) (.tmp 3)) (oVal (.tmp 74) (kLoad none (.tmp 73)) (oVal (.tmp 75) (kMove (.tmp 9)) (oVal (.tmp 76) (kTwo (ixsA 4) (.tmp 74) (.tmp 75)) (oVal (.tmp 77) (kUn (fadA 2) (.tmp 76)) (oVal (.tmp 78) (kUn (fadA 0) (.tmp 77)) (oVal (.tmp 79) (kLoad none (.tmp 78)) (oVal (.tmp 11) (kMove (.tmp 79)) oNil))))))))
def K6r12:OpsF:=(oVal (.tmp 80) (kMove (.tmp 11)) (oVal (.tmp 81) (kUn (fadA 2) (.tmp 3)) (oVal (.tmp 82) (kLoad none (.tmp 81)) (oVal (.tmp 83) (kMove (.tmp 9)) (oVal (.tmp 84) (kTwo (ixsA 4) (.tmp 82) (.tmp 83)) (oVal (.tmp 85) (kUn (fadA 2) (.tmp 84)) (oVal (.tmp 86) (kUn (fadA 1) (.tmp 85)) (oVal (.tmp 87) (kLoad none (.tmp 86)) (oVal (.tmp 88) (kInt aLeq (.tmp 80) (.tmp 87)) oNil)))))))))
def K6r13:OpsF:=(oEnd [] (oVal (.tmp 91) (kUn (fadA 0) (.tmp 4)) (oVal (.tmp 92) (kLoad none (.tmp 91)) (oVal (.tmp 93) (kUn (fadA 1) (.tmp 4)) (oVal (.tmp 94) (kLoad none (.tmp 93)) (oCallT (some [91]) (.tmp 95) (.con (.func 14 [] [])) [(.tmp 94)] (oVal (.tmp 96) (kBuild [.nilslice,.nilslice] [(0,1,(.tmp 92)),(1,1,(.tmp 95))]) (oVal (.tmp 12) (kAlloc [.nilslice,.nilslice] (tag 36)) (oVal .none (kStore 2 (.tmp 12) (.tmp 96)) oNil)))))))))
def K6r14:OpsF:=(oEnd [(104,97)] (oVal (.tmp 97) (kUn (fadA 1) (.tmp 12)) (oVal (.tmp 98) (kLoad none (.tmp 97)) (oVal (.tmp 99) (kMove (.tmp 9)) (oVal (.tmp 100) (kUn (fadA 1) (.tmp 12)) (oVal (.tmp 101) (kLoad none (.tmp 100)) (oVal (.tmp 102) (kMove (.tmp 9)) (oVal (.tmp 103) (kTwo (ixsA 1) (.tmp 101) (.tmp 102)) (oVal (.tmp 104) (kLoad none (.tmp 103)) (oVal (.tmp 105) (kMove (.tmp 10)) (oVal (.tmp 106) (kMove (.tmp 10)) (oVal (.tmp 107) (kUn lenSlA (.tmp 106)) (oVal (.tmp 108) (kInt aSub (.tmp 107) (.con (.int .i64 1))) (oVal (.tmp 109) (kTwo (ixsA 1) (.tmp 105) (.tmp 108)) (oVal (.tmp 110) (kLoad none (.tmp 109)) (oVal (.tmp 111) (kMove (.tmp 11)) (oVal (.tmp 112) (kInt aAdd (.tmp 110) (.tmp 111)) (oVal (.tmp 113) (kBuildSlice [(.int .i64 0)] 1 [(0,1,(.tmp 112))]) (oVal (.tmp 114) (kTwo (appendA false 1 8 (tag 3)) (.tmp 104) (.tmp 113)) (oVal (.tmp 115) (kTwo (ixsA 1) (.tmp 98) (.tmp 99)) (oVal .none (kStore 1 (.tmp 115) (.tmp 114)) oNil)))))))))))))))))))))
def K6r15:OpsF:=(oVal (.tmp 116) (kLoad (some 5) (.tmp 3)) (oVal (.tmp 117) (kLoad (some 2) (.tmp 12)) (oVal (.tmp 118) (kMove (.tmp 2)) (oCall (.tmp 119) (.con (.func 6 [] [])) [(.tmp 116),(.tmp 117),(.tmp 118)] (oVal (.tmp 2) (kMove (.tmp 119)) oNil)))))
def K6r16:OpsF:=(oVal (.tmp 89) (kMove (.tmp 11)) (oVal (.tmp 90) (kInt aAdd (.tmp 89) (.con (.int .i64 1))) (oVal (.tmp 11) (kMove (.tmp 90)) oNil)))
def K6l1:K:=(kSeq (kSeq (kRegion K6r12 [88]) (kCond (.tmp 88) kSkip (kExit 2))) (kSeq (kBlock 3 (kSeq (kRegionD K6r13 [12]) (kSeq (kRegionD K6r14 []) (kRegion K6r15 [2])))) (kRegion K6r16 [11])))
def K6r17:OpsF:=(oVal (.tmp 120) (kMove (.tmp 2)) (oVal (.tmp 6) (kMove (.tmp 120)) oNil))
def K6r18:OpsF:=(oVal (.tmp 121) (kMove (.tmp 9)) (oVal (.tmp 122) (kInt aAdd (.tmp 121) (.con (.int .i64 1))) (oVal (.tmp 123) (kUn (fadA 2) (.tmp 3)) (oVal (.tmp 124) (kLoad none (.tmp 123)) (oVal (.tmp 125) (kUn lenSlA (.tmp 124)) (oVal (.tmp 126) (kInt aLss (.tmp 122) (.tmp 125)) oNil))))))
def K6r19:OpsF:=(oVal (.tmp 127) (kUn (fadA 2) (.tmp 3)) (oVal (.tmp 128) (kLoad none (.tmp 127)) (oVal (.tmp 129) (kMove (.tmp 9)) (oVal (.tmp 130) (kInt aAdd (.tmp 129) (.con (.int .i64 1))) (oVal (.tmp 131) (kTwo (ixsA 4) (.tmp 128) (.tmp 130)) (oVal (.tmp 132) (kUn (fadA 0) (.tmp 131)) (oVal (.tmp 133) (kUn (fadA 0) (.tmp 132)) (oVal (.tmp 134) (kLoad none (.tmp 133)) (oVal (.tmp 13) (kMove (.tmp 134)) oNil)))))))))
def K6r20:OpsF:=(oVal (.tmp 135) (kMove (.tmp 13)) (oVal (.tmp 136) (kUn (fadA 2) (.tmp 3)) (oVal (.tmp 137) (kLoad none (.tmp 136)) (oVal (.tmp 138) (kMove (.tmp 9)) (oVal (.tmp 139) (kInt aAdd (.tmp 138) (.con (.int .i64 1))) (oVal (.tmp 140) (kTwo (ixsA 4) (.tmp 137) (.tmp 139)) (oVal (.tmp 141) (kUn (fadA 0) (.tmp 140)) (oVal (.tmp 142) (kUn (fadA 1) (.tmp 141)) (oVal (.tmp 143) (kLoad none (.tmp 142)) (oVal (.tmp 144) (kInt aLeq (.tmp 135) (.tmp 143)) oNil))))))))))
def K6r21:OpsF:=(oEnd [(152,3),(152,148)] (oVal (.tmp 147) (kLoad (some 5) (.tmp 3)) (oVal (.tmp 148) (kUn (fadA 0) (.tmp 4)) (oVal (.tmp 149) (kLoad none (.tmp 148)) (oVal (.tmp 150) (kUn (fadA 1) (.tmp 4)) (oVal (.tmp 151) (kLoad none (.tmp 150)) (oCallT (some [3,148]) (.tmp 152) (.con (.func 14 [] [])) [(.tmp 151)] (oVal (.tmp 153) (kMove (.tmp 13)) (oVal (.tmp 154) (kBuildSlice [(.int .i64 0)] 1 [(0,1,(.tmp 153))]) (oVal (.tmp 155) (kBuildSlice [.nilslice] 1 [(0,1,(.tmp 154))]) (oVal (.tmp 156) (kTwo (appendA false 1 24 (tag 22)) (.tmp 152) (.tmp 155)) (oVal (.tmp 157) (kBuild [.nilslice,.nilslice] [(0,1,(.tmp 149)),(1,1,(.tmp 156))]) (oVal (.tmp 158) (kMove (.tmp 2)) (oCall (.tmp 159) (.con (.func 6 [] [])) [(.tmp 147),(.tmp 157),(.tmp 158)] (oVal (.tmp 2) (kMove (.tmp 159)) oNil)))))))))))))))
def K6r22:OpsF:=(oVal (.tmp 145) (kMove (.tmp 13)) (oVal (.tmp 146) (kInt aAdd (.tmp 145) (.con (.int .i64 1))) (oVal (.tmp 13) (kMove (.tmp 146)) oNil)))
def K6l2:K:=(kSeq (kSeq (kRegion K6r20 [144]) (kCond (.tmp 144) kSkip (kExit 4))) (kSeq (kBlock 5 (kRegionD K6r21 [2])) (kRegion K6r22 [13])))
def K6r23:OpsF:=(oVal (.tmp 160) (kMove (.tmp 2)) (oVal (.tmp 6) (kMove (.tmp 160)) oNil))
def K6r24:OpsF:=(oVal (.tmp 161) (kLoad (some 5) (.tmp 3)) (oVal (.tmp 162) (kLoad (some 2) (.tmp 4)) (oCall (.tmp 163) (.con (.func 15 [] [])) [(.tmp 161),(.tmp 162)] oNil)))
def K6r25:OpsF:=(oVal (.tmp 164) (kMove (.tmp 2)) (oVal (.tmp 165) (kLoad (some 2) (.tmp 4)) (oVal (.tmp 166) (kBuildSlice [.nilslice,.nilslice] 1 [(0,2,(.tmp 165))]) (oVal (.tmp 167) (kTwo (appendA false 2 48 (tag 36)) (.tmp 164) (.tmp 166)) (oVal (.tmp 2) (kMove (.tmp 167)) oNil)))))
def K6r26:OpsF:=(oVal (.tmp 168) (kMove (.tmp 2)) (oVal (.tmp 6) (kMove (.tmp 168)) oNil))
theorem res6:Try.f6.results.toList=[.tmp 6]:=by kernel_rfl
def K6:K:=(kSeq (kRegion K6r0 [3,4,6]) (kSeq (kSeq (kRegion K6r1 [7]) (kSeq (kRegion K6r2 [21]) (kCond (.tmp 21) (kSeq (kSeq (kRegion K6r3 [8]) (kBlock 0 (kLoop K6l0))) (kSeq (kRegion K6r7 [6]) kRet)) kSkip))) (kSeq (kRegion K6r8 [9]) (kSeq (kSeq (kRegionD K6r9 [67]) (kCond (.tmp 67) (kSeq (kRegion K6r10 [10]) (kSeq (kSeq (kRegion K6r11 [11]) (kBlock 2 (kLoop K6l1))) (kSeq (kRegion K6r17 [6]) kRet))) kSkip)) (kSeq (kSeq (kRegion K6r18 [126]) (kCond (.tmp 126) (kSeq (kSeq (kRegion K6r19 [13]) (kBlock 4 (kLoop K6l2))) (kSeq (kRegion K6r23 [6]) kRet)) kSkip)) (kSeq (kSeq (kRegion K6r24 [163]) (kCond (.tmp 163) (kRegion K6r25 [2]) kSkip)) (kSeq (kRegion K6r26 [6]) kRet)))))))
theorem enter6 (cl:CallF) (a0 a1 a2:AV) (s:St):enterA Try.prog X cl 6 [a0,a1,a2] s Try.f6=finA Try.prog Try.f6 (K6 cl ⟨6,none,Try.f6.ntmps,X 6⟩ (paramsEnv 0 [a0,a1,a2] .nil) [] s) :=
  enterA_eq (b:=Try.f6.body.getD .skip) (by kernel_rfl) (by kernel_rfl) (by kernel_rfl) (by kernel_rfl) (by kernel_rfl)
def K10r0:OpsF:=(oVal (.tmp 4) (kAlloc [(.int .i64 0),(.int .i64 0)] (tag 44)) oNil)
def K10r1:OpsF:=(oVal (.tmp 5) (kMove (.tmp 0)) (oVal (.tmp 6) (kMove (.tmp 1)) (oVal (.tmp 7) (kBuild [(.int .i64 0),(.int .i64 0)] [(0,1,(.tmp 5)),(1,1,(.tmp 6))]) (oVal .none (kStore 2 (.tmp 4) (.tmp 7)) oNil))))
theorem res10:Try.f10.results.toList=[.cell 4 44]:=by kernel_rfl
def K10:K:=(kSeq (kRegion K10r0 [4]) (kSeq (kRegion K10r1 []) kRet))
theorem enter10 (cl:CallF) (a0 a1:AV) (s:St):enterA Try.prog X cl 10 [a0,a1] s Try.f10=finA Try.prog Try.f10 (K10 cl ⟨10,none,Try.f10.ntmps,X 10⟩ (paramsEnv 0 [a0,a1] .nil) [] s) :=
  enterA_eq (b:=Try.f10.body.getD .skip) (by kernel_rfl) (by kernel_rfl) (by kernel_rfl) (by kernel_rfl) (by kernel_rfl)
def K13r0:OpsF:=(oVal (.tmp 2) (kMove (.con .nilslice)) oNil)
def K13r1:OpsF:=(oVal (.tmp 3) (kBuildSlice [] 0 []) (oVal (.tmp 4) (kMove (.tmp 0)) (oVal (.tmp 5) (kTwo (appendA false 1 8 (tag 3)) (.tmp 3) (.tmp 4)) (oVal (.tmp 2) (kMove (.tmp 5)) oNil))))
theorem res13:Try.f13.results.toList=[.tmp 2]:=by kernel_rfl
def K13:K:=(kSeq (kRegion K13r0 [2]) (kSeq (kRegion K13r1 [2]) kRet))
theorem enter13 (cl:CallF) (a0:AV) (s:St):enterA Try.prog X cl 13 [a0] s Try.f13=finA Try.prog Try.f13 (K13 cl ⟨13,none,Try.f13.ntmps,X 13⟩ (paramsEnv 0 [a0] .nil) [] s) :=
  enterA_eq (b:=Try.f13.body.getD .skip) (by kernel_rfl) (by kernel_rfl) (by kernel_rfl) (by kernel_rfl) (by kernel_rfl)
def K14r0:OpsF:=(oVal (.tmp 2) (kMove (.con .nilslice)) oNil)
def K14r1:OpsF:=(oVal (.tmp 3) (kMove (.con .nilslice)) oNil)
def K14r2:OpsF:=(oVal (.tmp 4) (kMove (.con (.int .i64 0))) oNil)
def K14r3:OpsF:=(oVal (.tmp 5) (kMove (.tmp 4)) (oVal (.tmp 6) (kMove (.tmp 0)) (oVal (.tmp 7) (kUn lenSlA (.tmp 6)) (oVal (.tmp 8) (kInt aLss (.tmp 5) (.tmp 7)) oNil))))
def K14r4:OpsF:=(oVal (.tmp 11) (kMove (.tmp 3)) (oVal (.tmp 12) (kMove (.tmp 0)) (oVal (.tmp 13) (kMove (.tmp 4)) (oVal (.tmp 14) (kTwo (ixsA 1) (.tmp 12) (.tmp 13)) (oVal (.tmp 15) (kLoad none (.tmp 14)) (oCall (.tmp 16) (.con (.func 13 [] [])) [(.tmp 15)] (oVal (.tmp 17) (kBuildSlice [.nilslice] 1 [(0,1,(.tmp 16))]) (oVal (.tmp 18) (kTwo (appendA false 1 24 (tag 22)) (.tmp 11) (.tmp 17)) (oVal (.tmp 3) (kMove (.tmp 18)) oNil)))))))))
def K14r5:OpsF:=(oVal (.tmp 9) (kMove (.tmp 4)) (oVal (.tmp 10) (kInt aAdd (.tmp 9) (.con (.int .i64 1))) (oVal (.tmp 4) (kMove (.tmp 10)) oNil)))
def K14l0:K:=(kSeq (kSeq (kRegion K14r3 [8]) (kCond (.tmp 8) kSkip (kExit 0))) (kSeq (kBlock 1 (kRegion K14r4 [3])) (kRegion K14r5 [4])))
def K14r6:OpsF:=(oVal (.tmp 19) (kMove (.tmp 3)) (oVal (.tmp 2) (kMove (.tmp 19)) oNil))
theorem res14:Try.f14.results.toList=[.tmp 2]:=by kernel_rfl
def K14:K:=(kSeq (kRegion K14r0 [2]) (kSeq (kRegion K14r1 [3]) (kSeq (kSeq (kRegion K14r2 [4]) (kBlock 0 (kLoop K14l0))) (kSeq (kRegion K14r6 [2]) kRet))))
theorem enter14 (cl:CallF) (a0:AV) (s:St):enterA Try.prog X cl 14 [a0] s Try.f14=finA Try.prog Try.f14 (K14 cl ⟨14,none,Try.f14.ntmps,X 14⟩ (paramsEnv 0 [a0] .nil) [] s) :=
  enterA_eq (b:=Try.f14.body.getD .skip) (by kernel_rfl) (by kernel_rfl) (by kernel_rfl) (by kernel_rfl) (by kernel_rfl)
end
end Go.Proofs.Ytkkdiibgjgnbhaa.code
