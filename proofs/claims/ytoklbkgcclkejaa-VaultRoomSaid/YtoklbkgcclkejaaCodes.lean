/- The code of functions as the interpreter has it, region by region. -/
import Derived.Test.YtoklbkgcclkejaaAbsTab
import Derived.Test.YtoklbkgcclkejaaAbsWalk
import Derived.KernelRfl
set_option maxRecDepth 100000
namespace Go.Proofs.Ytoklbkgcclkejaa.code
open Go.Abs
noncomputable section
def K51r0:OpsF:=(oVal (.tmp 2) (kMove (.con (.int .i64 0))) oNil)
def K51r1:OpsF:=(oVal (.tmp 3) (kMove (.con (.int .i64 0))) oNil)
def K51r2:OpsF:=(oVal (.tmp 6) (kMove (.tmp 0)) (oVal (.tmp 7) (kUn lenSlA (.tmp 6)) (oVal (.tmp 8) (kMove (.con (.int .i64 0))) oNil)))
def K51r3:OpsF:=(oVal (.tmp 9) (kInt aLss (.tmp 8) (.tmp 7)) oNil)
def K51r4:OpsF:=(oVal (.tmp 10) (kTwo (ixsA 1) (.tmp 6) (.tmp 8)) (oVal (.tmp 11) (kLoad none (.tmp 10)) (oVal (.tmp 5) (kMove (.tmp 11)) oNil)))
def K51r5:OpsF:=(oVal (.tmp 12) (kMove (.tmp 5)) (oVal (.tmp 13) (kMove (.tmp 3)) (oVal (.tmp 14) (kInt aNeq (.tmp 12) (.tmp 13)) oNil)))
def K51r6:OpsF:=(oVal (.tmp 15) (kMove (.tmp 5)) (oVal (.tmp 2) (kMove (.tmp 15)) oNil))
def K51r7:OpsF:=(oVal (.tmp 16) (kInt aAdd (.tmp 8) (.con (.int .i64 1))) (oVal (.tmp 8) (kMove (.tmp 16)) oNil))
def K51l0:K:=(kSeq (kRegion K51r3 [9]) (kSeq (kCond (.tmp 9) kSkip (kExit 0)) (kSeq (kBlock 1 (kSeq (kRegion K51r4 [5]) (kSeq (kRegion K51r5 [14]) (kCond (.tmp 14) (kSeq (kRegion K51r6 [2]) kRet) kSkip)))) (kRegion K51r7 [8]))))
def K51r8:OpsF:=(oVal (.tmp 17) (kMove (.tmp 3)) (oVal (.tmp 2) (kMove (.tmp 17)) oNil))
theorem res51:Try.f51.results.toList=[.tmp 2]:=by kernel_rfl
def K51:K:=(kSeq (kRegion K51r0 [2]) (kSeq (kRegion K51r1 [3]) (kSeq (kSeq (kRegion K51r2 [6,7,8]) (kBlock 0 (kLoop K51l0))) (kSeq (kRegion K51r8 [2]) kRet))))
theorem enter51 (cl:CallF) (a0:AV) (s:St):enterA Try.prog X cl 51 [a0] s Try.f51=finA Try.prog Try.f51 (K51 cl ⟨51,none,Try.f51.ntmps,X 51⟩ (paramsEnv 0 [a0] .nil) [] s) :=
  enterA_eq (b:=Try.f51.body.getD .skip) (by kernel_rfl) (by kernel_rfl) (by kernel_rfl) (by kernel_rfl) (by kernel_rfl)
def K62r0:OpsF:=(oVal (.tmp 6) (kMove (.con (.int .i64 0))) oNil)
def K62r1:OpsF:=(oVal (.tmp 8) (kMove (.tmp 0)) (oVal (.tmp 9) (kMove (.tmp 1)) (oVal (.tmp 10) (kInt aLss (.tmp 8) (.tmp 9)) (oVal (.tmp 7) (kMove (.tmp 10)) oNil))))
def K62r2:OpsF:=(oVal (.tmp 6) (kMove (.con (.int .i64 7))) oNil)
def K62r3:OpsF:=(oVal (.tmp 12) (kMove (.tmp 0)) (oVal (.tmp 13) (kMove (.tmp 2)) (oVal (.tmp 14) (kGtr (.tmp 12) (.tmp 13)) (oVal (.tmp 11) (kMove (.tmp 14)) oNil))))
def K62r4:OpsF:=(oVal (.tmp 6) (kMove (.con (.int .i64 6))) oNil)
def K62r5:OpsF:=(oVal (.tmp 6) (kMove (.con (.int .i64 0))) oNil)
theorem res62:Try.f62.results.toList=[.tmp 6]:=by kernel_rfl
def K62:K:=(kSeq (kRegion K62r0 [6]) (kSeq (kBlock 0 (kSeq (kRegion K62r1 [7]) (kCond (.tmp 7) (kSeq (kRegion K62r2 [6]) kRet) (kSeq (kRegion K62r3 [11]) (kCond (.tmp 11) (kSeq (kRegion K62r4 [6]) kRet) kSkip))))) (kSeq (kRegion K62r5 [6]) kRet)))
theorem enter62 (cl:CallF) (a0 a1 a2:AV) (s:St):enterA Try.prog X cl 62 [a0,a1,a2] s Try.f62=finA Try.prog Try.f62 (K62 cl ⟨62,none,Try.f62.ntmps,X 62⟩ (paramsEnv 0 [a0,a1,a2] .nil) [] s) :=
  enterA_eq (b:=Try.f62.body.getD .skip) (by kernel_rfl) (by kernel_rfl) (by kernel_rfl) (by kernel_rfl) (by kernel_rfl)
def K102r0:OpsF:=(oVal (.tmp 4) (kMove (.con (.int .i64 0))) oNil)
def K102r1s6:OpsF:=(oVal (.tmp 11) (kPick (.tmp 7) (.con (.bool true)) (.tmp 10)) oNil)
def K102r1s5:OpsF:=(oIf 7 false (oVal (.tmp 10) (kInt aGeq (.tmp 8) (.tmp 9)) K102r1s6) (oSkip (.tmp 10) K102r1s6))
def K102r1s4:OpsF:=(oIf 7 false (oVal (.tmp 9) (kMove (.tmp 1)) K102r1s5) (oSkip (.tmp 9) K102r1s5))
def K102r1:OpsF:=(oVal (.tmp 5) (kMove (.tmp 0)) (oVal (.tmp 6) (kInt aLss (.tmp 5) (.con (.int .i64 0))) (oVal (.tmp 7) (kMove (.tmp 6)) (oIf 7 false (oVal (.tmp 8) (kMove (.tmp 0)) K102r1s4) (oSkip (.tmp 8) K102r1s4)))))
def K102r2:OpsF:=(oVal (.tmp 4) (kMove (.con (.int .i64 3))) oNil)
def K102r3:OpsF:=(oVal (.tmp 4) (kMove (.con (.int .i64 0))) oNil)
theorem res102:Try.f102.results.toList=[.tmp 4]:=by kernel_rfl
def K102:K:=(kSeq (kRegion K102r0 [4]) (kSeq (kSeq (kRegion K102r1 [11]) (kCond (.tmp 11) (kSeq (kRegion K102r2 [4]) kRet) kSkip)) (kSeq (kRegion K102r3 [4]) kRet)))
theorem enter102 (cl:CallF) (a0 a1:AV) (s:St):enterA Try.prog X cl 102 [a0,a1] s Try.f102=finA Try.prog Try.f102 (K102 cl ⟨102,none,Try.f102.ntmps,X 102⟩ (paramsEnv 0 [a0,a1] .nil) [] s) :=
  enterA_eq (b:=Try.f102.body.getD .skip) (by kernel_rfl) (by kernel_rfl) (by kernel_rfl) (by kernel_rfl) (by kernel_rfl)
def K95r0:OpsF:=(oVal (.tmp 3) (kBox (tag 44) (.tmp 0)) (oVal (.tmp 6) (kMove (.con (.int .i64 0))) oNil))
def K95r1:OpsF:=(oEnd [] (oVal (.tmp 8) (kUn (fadA 0) (.tmp 3)) (oVal (.tmp 9) (kLoad none (.tmp 8)) (oVal (.tmp 10) (kMove (.tmp 1)) (oVal (.tmp 11) (kMove (.tmp 2)) (oCallT (some [13]) (.tmp 12) (.con (.func 77 [] [])) [(.tmp 9),(.tmp 10),(.tmp 11)] (oVal (.tmp 13) (kUn (fadA 1) (.tmp 3)) (oVal (.tmp 14) (kLoad none (.tmp 13)) (oVal (.tmp 15) (kMove (.tmp 1)) (oVal (.tmp 16) (kMove (.tmp 2)) (oCall (.tmp 17) (.con (.func 77 [] [])) [(.tmp 14),(.tmp 15),(.tmp 16)] (oVal (.tmp 18) (kBuildSlice [(.int .i64 0),(.int .i64 0)] 2 [(0,1,(.tmp 12)),(1,1,(.tmp 17))]) (oCall (.tmp 19) (.con (.func 51 [] [])) [(.tmp 18)] (oVal (.tmp 7) (kMove (.tmp 19)) oNil))))))))))))))
def K95r2:OpsF:=(oVal (.tmp 20) (kMove (.tmp 7)) (oVal (.tmp 21) (kInt aNeq (.tmp 20) (.con (.int .i64 0))) oNil))
def K95r3:OpsF:=(oVal (.tmp 22) (kMove (.tmp 7)) (oVal (.tmp 6) (kMove (.tmp 22)) oNil))
def K95r4:OpsF:=(oVal (.tmp 23) (kUn (fadA 0) (.tmp 3)) (oVal (.tmp 24) (kLoad none (.tmp 23)) (oVal (.tmp 25) (kUn (fadA 1) (.tmp 3)) (oVal (.tmp 26) (kLoad none (.tmp 25)) (oVal (.tmp 27) (kGtr (.tmp 24) (.tmp 26)) oNil)))))
def K95r5:OpsF:=(oVal (.tmp 6) (kMove (.con (.int .i64 5))) oNil)
def K95r6:OpsF:=(oVal (.tmp 6) (kMove (.con (.int .i64 0))) oNil)
theorem res95:Try.f95.results.toList=[.tmp 6]:=by kernel_rfl
def K95:K:=(kSeq (kRegion K95r0 [3,6]) (kSeq (kSeq (kRegionD K95r1 [7]) (kSeq (kRegion K95r2 [21]) (kCond (.tmp 21) (kSeq (kRegion K95r3 [6]) kRet) kSkip))) (kSeq (kSeq (kRegion K95r4 [27]) (kCond (.tmp 27) (kSeq (kRegion K95r5 [6]) kRet) kSkip)) (kSeq (kRegion K95r6 [6]) kRet))))
theorem enter95 (cl:CallF) (a0 a1 a2:AV) (s:St):enterA Try.prog X cl 95 [a0,a1,a2] s Try.f95=finA Try.prog Try.f95 (K95 cl ⟨95,none,Try.f95.ntmps,X 95⟩ (paramsEnv 0 [a0,a1,a2] .nil) [] s) :=
  enterA_eq (b:=Try.f95.body.getD .skip) (by kernel_rfl) (by kernel_rfl) (by kernel_rfl) (by kernel_rfl) (by kernel_rfl)
def K77r0:OpsF:=(oVal (.tmp 6) (kMove (.con (.int .i64 0))) oNil)
def K77r1s7:OpsF:=(oVal (.tmp 14) (kPick (.tmp 10) (.con (.bool true)) (.tmp 13)) oNil)
def K77r1s6:OpsF:=(oIf 10 false (oVal (.tmp 13) (kGtr (.tmp 11) (.tmp 12)) K77r1s7) (oSkip (.tmp 13) K77r1s7))
def K77r1s5:OpsF:=(oIf 10 false (oVal (.tmp 12) (kMove (.tmp 2)) K77r1s6) (oSkip (.tmp 12) K77r1s6))
def K77r1:OpsF:=(oVal (.tmp 7) (kMove (.tmp 0)) (oVal (.tmp 8) (kMove (.tmp 1)) (oVal (.tmp 9) (kInt aLss (.tmp 7) (.tmp 8)) (oVal (.tmp 10) (kMove (.tmp 9)) (oIf 10 false (oVal (.tmp 11) (kMove (.tmp 0)) K77r1s5) (oSkip (.tmp 11) K77r1s5))))))
def K77r2:OpsF:=(oVal (.tmp 6) (kMove (.con (.int .i64 1))) oNil)
def K77r3:OpsF:=(oVal (.tmp 6) (kMove (.con (.int .i64 0))) oNil)
theorem res77:Try.f77.results.toList=[.tmp 6]:=by kernel_rfl
def K77:K:=(kSeq (kRegion K77r0 [6]) (kSeq (kSeq (kRegion K77r1 [14]) (kCond (.tmp 14) (kSeq (kRegion K77r2 [6]) kRet) kSkip)) (kSeq (kRegion K77r3 [6]) kRet)))
theorem enter77 (cl:CallF) (a0 a1 a2:AV) (s:St):enterA Try.prog X cl 77 [a0,a1,a2] s Try.f77=finA Try.prog Try.f77 (K77 cl ⟨77,none,Try.f77.ntmps,X 77⟩ (paramsEnv 0 [a0,a1,a2] .nil) [] s) :=
  enterA_eq (b:=Try.f77.body.getD .skip) (by kernel_rfl) (by kernel_rfl) (by kernel_rfl) (by kernel_rfl) (by kernel_rfl)
def K55r0:OpsF:=(oVal (.tmp 1) (kBox (tag 30) (.tmp 0)) (oVal (.tmp 2) (kMove (.con (.int .i64 0))) oNil))
def K55r1:OpsF:=(oEnd [] (oVal (.tmp 3) (kUn (fadA 0) (.tmp 1)) (oVal (.tmp 4) (kLoad none (.tmp 3)) (oCallT (some [6,1,10,1,14,1,19]) (.tmp 5) (.con (.func 77 [] [])) [(.tmp 4),(.con (.int .i64 1)),(.con (.int .i64 6))] (oVal (.tmp 6) (kUn (fadA 1) (.tmp 1)) (oVal (.tmp 7) (kLoad none (.tmp 6)) (oCallT (some [1,10,1,14,1,19]) (.tmp 8) (.con (.func 77 [] [])) [(.tmp 7),(.con (.int .i64 1)),(.con (.int .i64 4))] (oVal (.tmp 9) (kLoad (some 8) (.tmp 1)) (oVal (.tmp 10) (kUn (fadA 2) (.tmp 1)) (oVal (.tmp 11) (kLoad none (.tmp 10)) (oCallT (some [1,14,1,19]) (.tmp 12) (.con (.func 78 [] [])) [(.tmp 9),(.tmp 11)] (oVal (.tmp 13) (kLoad (some 8) (.tmp 1)) (oVal (.tmp 14) (kUn (fadA 3) (.tmp 1)) (oVal (.tmp 15) (kLoad none (.tmp 14)) (oCallT (some [1,19]) (.tmp 16) (.con (.func 78 [] [])) [(.tmp 13),(.tmp 15)] (oVal (.tmp 17) (kLoad (some 8) (.tmp 1)) (oCallT (some [19]) (.tmp 18) (.con (.func 79 [] [])) [(.tmp 17)] (oVal (.tmp 19) (kUn (fadA 7) (.tmp 1)) (oVal (.tmp 20) (kLoad none (.tmp 19)) (oCall (.tmp 21) (.con (.func 80 [] [])) [(.tmp 20)] (oVal (.tmp 22) (kBuildSlice [(.int .i64 0),(.int .i64 0),(.int .i64 0),(.int .i64 0),(.int .i64 0),(.int .i64 0)] 6 [(0,1,(.tmp 5)),(1,1,(.tmp 8)),(2,1,(.tmp 12)),(3,1,(.tmp 16)),(4,1,(.tmp 18)),(5,1,(.tmp 21))]) (oCall (.tmp 23) (.con (.func 51 [] [])) [(.tmp 22)] (oVal (.tmp 2) (kMove (.tmp 23)) oNil)))))))))))))))))))))))
theorem res55:Try.f55.results.toList=[.tmp 2]:=by kernel_rfl
def K55:K:=(kSeq (kRegion K55r0 [1,2]) (kSeq (kRegionD K55r1 [2]) kRet))
theorem enter55 (cl:CallF) (a0:AV) (s:St):enterA Try.prog X cl 55 [a0] s Try.f55=finA Try.prog Try.f55 (K55 cl ⟨55,none,Try.f55.ntmps,X 55⟩ (paramsEnv 0 [a0] .nil) [] s) :=
  enterA_eq (b:=Try.f55.body.getD .skip) (by kernel_rfl) (by kernel_rfl) (by kernel_rfl) (by kernel_rfl) (by kernel_rfl)
def K78r0:OpsF:=(oVal (.tmp 2) (kBox (tag 30) (.tmp 0)) (oVal (.tmp 4) (kMove (.con (.int .i64 0))) oNil))
def K78r1:OpsF:=(oVal (.tmp 10) (kMove (.tmp 1)) (oVal (.tmp 11) (kUn lenSlA (.tmp 10)) (oCall (.tmp 12) (.con (.func 62 [] [])) [(.tmp 11),(.con (.int .i64 0)),(.con (.int .i64 24))] (oVal (.tmp 5) (kMove (.tmp 12)) oNil))))
def K78r2:OpsF:=(oVal (.tmp 13) (kMove (.tmp 5)) (oVal (.tmp 14) (kInt aNeq (.tmp 13) (.con (.int .i64 0))) oNil))
def K78r3:OpsF:=(oVal (.tmp 15) (kMove (.tmp 5)) (oVal (.tmp 4) (kMove (.tmp 15)) oNil))
def K78r4:OpsF:=(oVal (.tmp 16) kMap (oVal (.tmp 6) (kMove (.tmp 16)) oNil))
def K78r5:OpsF:=(oVal (.tmp 17) (kMove (.tmp 1)) (oVal (.tmp 18) (kUn lenSlA (.tmp 17)) (oVal (.tmp 19) (kMove (.con (.int .i64 0))) oNil)))
def K78r6:OpsF:=(oVal (.tmp 20) (kInt aLss (.tmp 19) (.tmp 18)) oNil)
def K78r7:OpsF:=(oVal (.tmp 21) (kTwo (ixsA 2) (.tmp 17) (.tmp 19)) (oVal (.tmp 22) (kLoad (some 2) (.tmp 21)) (oVal (.tmp 8) (kAlloc [(.int .i64 0),(.int .i64 0)] (tag 27)) (oVal .none (kStore 2 (.tmp 8) (.tmp 22)) oNil))))
def K78r8:OpsF:=(oVal (.tmp 23) (kLoad (some 8) (.tmp 2)) (oVal (.tmp 24) (kLoad (some 2) (.tmp 8)) (oCall (.tmp 25) (.con (.func 92 [] [])) [(.tmp 23),(.tmp 24)] (oVal (.tmp 9) (kMove (.tmp 25)) oNil))))
def K78r9:OpsF:=(oVal (.tmp 26) (kMove (.tmp 9)) (oVal (.tmp 27) (kInt aNeq (.tmp 26) (.con (.int .i64 0))) oNil))
def K78r10:OpsF:=(oVal (.tmp 28) (kMove (.tmp 9)) (oVal (.tmp 4) (kMove (.tmp 28)) oNil))
def K78r11:OpsF:=(oVal (.tmp 29) (kMove (.tmp 6)) (oVal (.tmp 30) (kLoad (some 2) (.tmp 8)) (oVal (.tmp 31) (kLook (.row [(0,none,.int),(1,none,.int)]) (.bool false) false (.tmp 29) (.tmp 30)) oNil)))
def K78r12:OpsF:=(oVal (.tmp 4) (kMove (.con (.int .i64 4))) oNil)
def K78r13:OpsF:=(oVal (.tmp 32) (kMove (.tmp 6)) (oVal (.tmp 33) (kLoad (some 2) (.tmp 8)) (oVal .none (kUpd (.row [(0,none,.int),(1,none,.int)]) (.tmp 32) (.tmp 33) (.con (.bool true))) oNil)))
def K78r14:OpsF:=(oVal (.tmp 34) (kInt aAdd (.tmp 19) (.con (.int .i64 1))) (oVal (.tmp 19) (kMove (.tmp 34)) oNil))
def K78l0:K:=(kSeq (kRegion K78r6 [20]) (kSeq (kCond (.tmp 20) kSkip (kExit 0)) (kSeq (kBlock 1 (kSeq (kRegion K78r7 [8]) (kSeq (kSeq (kRegion K78r8 [9]) (kSeq (kRegion K78r9 [27]) (kCond (.tmp 27) (kSeq (kRegion K78r10 [4]) kRet) kSkip))) (kSeq (kSeq (kRegion K78r11 [31]) (kCond (.tmp 31) (kSeq (kRegion K78r12 [4]) kRet) kSkip)) (kRegion K78r13 []))))) (kRegion K78r14 [19]))))
def K78r15:OpsF:=(oVal (.tmp 4) (kMove (.con (.int .i64 0))) oNil)
theorem res78:Try.f78.results.toList=[.tmp 4]:=by kernel_rfl
def K78:K:=(kSeq (kRegion K78r0 [2,4]) (kSeq (kSeq (kRegion K78r1 [5]) (kSeq (kRegion K78r2 [14]) (kCond (.tmp 14) (kSeq (kRegion K78r3 [4]) kRet) kSkip))) (kSeq (kRegion K78r4 [6]) (kSeq (kSeq (kRegion K78r5 [17,18,19]) (kBlock 0 (kLoop K78l0))) (kSeq (kRegion K78r15 [4]) kRet)))))
theorem enter78 (cl:CallF) (a0 a1:AV) (s:St):enterA Try.prog X cl 78 [a0,a1] s Try.f78=finA Try.prog Try.f78 (K78 cl ⟨78,none,Try.f78.ntmps,X 78⟩ (paramsEnv 0 [a0,a1] .nil) [] s) :=
  enterA_eq (b:=Try.f78.body.getD .skip) (by kernel_rfl) (by kernel_rfl) (by kernel_rfl) (by kernel_rfl) (by kernel_rfl)
def K92r0:OpsF:=(oVal (.tmp 2) (kBox (tag 30) (.tmp 0)) (oVal (.tmp 3) (kBox (tag 27) (.tmp 1)) (oVal (.tmp 4) (kMove (.con (.int .i64 0))) oNil)))
def K92r1:OpsF:=(oEnd [] (oVal (.tmp 5) (kUn (fadA 0) (.tmp 3)) (oVal (.tmp 6) (kLoad none (.tmp 5)) (oVal (.tmp 7) (kUn (fadA 0) (.tmp 2)) (oVal (.tmp 8) (kLoad none (.tmp 7)) (oCallT (some [10,12]) (.tmp 9) (.con (.func 102 [] [])) [(.tmp 6),(.tmp 8)] (oVal (.tmp 10) (kUn (fadA 1) (.tmp 3)) (oVal (.tmp 11) (kLoad none (.tmp 10)) (oVal (.tmp 12) (kUn (fadA 1) (.tmp 2)) (oVal (.tmp 13) (kLoad none (.tmp 12)) (oCall (.tmp 14) (.con (.func 102 [] [])) [(.tmp 11),(.tmp 13)] (oVal (.tmp 15) (kBuildSlice [(.int .i64 0),(.int .i64 0)] 2 [(0,1,(.tmp 9)),(1,1,(.tmp 14))]) (oCall (.tmp 16) (.con (.func 51 [] [])) [(.tmp 15)] (oVal (.tmp 4) (kMove (.tmp 16)) oNil))))))))))))))
theorem res92:Try.f92.results.toList=[.tmp 4]:=by kernel_rfl
def K92:K:=(kSeq (kRegion K92r0 [2,3,4]) (kSeq (kRegionD K92r1 [4]) kRet))
theorem enter92 (cl:CallF) (a0 a1:AV) (s:St):enterA Try.prog X cl 92 [a0,a1] s Try.f92=finA Try.prog Try.f92 (K92 cl ⟨92,none,Try.f92.ntmps,X 92⟩ (paramsEnv 0 [a0,a1] .nil) [] s) :=
  enterA_eq (b:=Try.f92.body.getD .skip) (by kernel_rfl) (by kernel_rfl) (by kernel_rfl) (by kernel_rfl) (by kernel_rfl)
def K79r0:OpsF:=(oVal (.tmp 1) (kBox (tag 30) (.tmp 0)) (oVal (.tmp 2) (kMove (.con (.int .i64 0))) oNil))
def K79r1:OpsF:=(oEnd [] (oVal (.tmp 7) (kUn (fadA 4) (.tmp 1)) (oVal (.tmp 8) (kUn (fadA 0) (.tmp 7)) (oVal (.tmp 9) (kLoad none (.tmp 8)) (oVal (.tmp 10) (kUn (fadA 0) (.tmp 1)) (oVal (.tmp 11) (kLoad none (.tmp 10)) (oCallT (some [14,16]) (.tmp 12) (.con (.func 77 [] [])) [(.tmp 9),(.con (.int .i64 1)),(.tmp 11)] (oVal (.tmp 13) (kUn (fadA 4) (.tmp 1)) (oVal (.tmp 14) (kUn (fadA 1) (.tmp 13)) (oVal (.tmp 15) (kLoad none (.tmp 14)) (oVal (.tmp 16) (kUn (fadA 1) (.tmp 1)) (oVal (.tmp 17) (kLoad none (.tmp 16)) (oCall (.tmp 18) (.con (.func 77 [] [])) [(.tmp 15),(.con (.int .i64 1)),(.tmp 17)] (oVal (.tmp 19) (kBuildSlice [(.int .i64 0),(.int .i64 0)] 2 [(0,1,(.tmp 12)),(1,1,(.tmp 18))]) (oCall (.tmp 20) (.con (.func 51 [] [])) [(.tmp 19)] (oVal (.tmp 3) (kMove (.tmp 20)) oNil))))))))))))))))
def K79r2:OpsF:=(oVal (.tmp 21) (kMove (.tmp 3)) (oVal (.tmp 22) (kInt aNeq (.tmp 21) (.con (.int .i64 0))) oNil))
def K79r3:OpsF:=(oVal (.tmp 23) (kMove (.tmp 3)) (oVal (.tmp 2) (kMove (.tmp 23)) oNil))
def K79r4:OpsF:=(oEnd [] (oVal (.tmp 24) (kUn (fadA 6) (.tmp 1)) (oVal (.tmp 25) (kLoad none (.tmp 24)) (oVal (.tmp 26) (kUn lenSlA (.tmp 25)) (oVal (.tmp 27) (kLoad (some 8) (.tmp 1)) (oCallT (some [24,25]) (.tmp 28) (.con (.func 94 [] [])) [(.tmp 27)] (oVal (.tmp 29) (kInt aNeq (.tmp 26) (.tmp 28)) oNil)))))))
def K79r5:OpsF:=(oVal (.tmp 2) (kMove (.con (.int .i64 2))) oNil)
def K79r6:OpsF:=(oVal (.tmp 30) (kUn (fadA 6) (.tmp 1)) (oVal (.tmp 31) (kLoad none (.tmp 30)) (oVal (.tmp 32) (kUn lenSlA (.tmp 31)) (oVal (.tmp 33) (kMove (.con (.int .i64 0))) oNil))))
def K79r7:OpsF:=(oVal (.tmp 34) (kInt aLss (.tmp 33) (.tmp 32)) oNil)
def K79r8:OpsF:=(oVal (.tmp 35) (kTwo (ixsA 1) (.tmp 31) (.tmp 33)) (oVal (.tmp 36) (kLoad none (.tmp 35)) (oVal (.tmp 5) (kMove (.tmp 36)) oNil)))
def K79r9:OpsF:=(oVal (.tmp 37) (kMove (.tmp 5)) (oCall (.tmp 38) (.con (.func 77 [] [])) [(.tmp 37),(.con (.int .i64 0)),(.con (.int .i64 10000000))] (oVal (.tmp 6) (kMove (.tmp 38)) oNil)))
def K79r10:OpsF:=(oVal (.tmp 39) (kMove (.tmp 6)) (oVal (.tmp 40) (kInt aNeq (.tmp 39) (.con (.int .i64 0))) oNil))
def K79r11:OpsF:=(oVal (.tmp 41) (kMove (.tmp 6)) (oVal (.tmp 2) (kMove (.tmp 41)) oNil))
def K79r12:OpsF:=(oVal (.tmp 42) (kInt aAdd (.tmp 33) (.con (.int .i64 1))) (oVal (.tmp 33) (kMove (.tmp 42)) oNil))
def K79l0:K:=(kSeq (kRegion K79r7 [34]) (kSeq (kCond (.tmp 34) kSkip (kExit 0)) (kSeq (kBlock 1 (kSeq (kRegion K79r8 [5]) (kSeq (kRegion K79r9 [6]) (kSeq (kRegion K79r10 [40]) (kCond (.tmp 40) (kSeq (kRegion K79r11 [2]) kRet) kSkip))))) (kRegion K79r12 [33]))))
def K79r13:OpsF:=(oVal (.tmp 2) (kMove (.con (.int .i64 0))) oNil)
theorem res79:Try.f79.results.toList=[.tmp 2]:=by kernel_rfl
def K79:K:=(kSeq (kRegion K79r0 [1,2]) (kSeq (kSeq (kRegionD K79r1 [3]) (kSeq (kRegion K79r2 [22]) (kCond (.tmp 22) (kSeq (kRegion K79r3 [2]) kRet) kSkip))) (kSeq (kSeq (kRegionD K79r4 [29]) (kCond (.tmp 29) (kSeq (kRegion K79r5 [2]) kRet) kSkip)) (kSeq (kSeq (kRegion K79r6 [31,32,33]) (kBlock 0 (kLoop K79l0))) (kSeq (kRegion K79r13 [2]) kRet)))))
theorem enter79 (cl:CallF) (a0:AV) (s:St):enterA Try.prog X cl 79 [a0] s Try.f79=finA Try.prog Try.f79 (K79 cl ⟨79,none,Try.f79.ntmps,X 79⟩ (paramsEnv 0 [a0] .nil) [] s) :=
  enterA_eq (b:=Try.f79.body.getD .skip) (by kernel_rfl) (by kernel_rfl) (by kernel_rfl) (by kernel_rfl) (by kernel_rfl)
def K94r0:OpsF:=(oVal (.tmp 1) (kBox (tag 30) (.tmp 0)) (oVal (.tmp 2) (kMove (.con (.int .i64 0))) oNil))
def K94r1:OpsF:=(oEnd [] (oVal (.tmp 3) (kLoad (some 8) (.tmp 1)) (oCallT (some [5,8,13]) (.tmp 4) (.con (.func 91 [] [])) [(.tmp 3)] (oVal (.tmp 5) (kUn (fadA 1) (.tmp 1)) (oVal (.tmp 6) (kLoad none (.tmp 5)) (oVal (.tmp 7) (kUn (fadA 4) (.tmp 1)) (oVal (.tmp 8) (kUn (fadA 1) (.tmp 7)) (oVal (.tmp 9) (kLoad none (.tmp 8)) (oVal (.tmp 10) (kInt aAdd (.tmp 6) (.tmp 9)) (oVal (.tmp 11) (kInt aSub (.tmp 10) (.con (.int .i64 1))) (oVal (.tmp 12) (kUn (fadA 4) (.tmp 1)) (oVal (.tmp 13) (kUn (fadA 1) (.tmp 12)) (oVal (.tmp 14) (kLoad none (.tmp 13)) (oVal (.tmp 15) (kInt aQuo (.tmp 11) (.tmp 14)) (oVal (.tmp 16) (kInt aMul (.tmp 4) (.tmp 15)) (oVal (.tmp 2) (kMove (.tmp 16)) oNil))))))))))))))))
theorem res94:Try.f94.results.toList=[.tmp 2]:=by kernel_rfl
def K94:K:=(kSeq (kRegion K94r0 [1,2]) (kSeq (kRegionD K94r1 [2]) kRet))
theorem enter94 (cl:CallF) (a0:AV) (s:St):enterA Try.prog X cl 94 [a0] s Try.f94=finA Try.prog Try.f94 (K94 cl ⟨94,none,Try.f94.ntmps,X 94⟩ (paramsEnv 0 [a0] .nil) [] s) :=
  enterA_eq (b:=Try.f94.body.getD .skip) (by kernel_rfl) (by kernel_rfl) (by kernel_rfl) (by kernel_rfl) (by kernel_rfl)
def K91r0:OpsF:=(oVal (.tmp 1) (kBox (tag 30) (.tmp 0)) (oVal (.tmp 2) (kMove (.con (.int .i64 0))) oNil))
def K91r1:OpsF:=(oVal (.tmp 3) (kUn (fadA 0) (.tmp 1)) (oVal (.tmp 4) (kLoad none (.tmp 3)) (oVal (.tmp 5) (kUn (fadA 4) (.tmp 1)) (oVal (.tmp 6) (kUn (fadA 0) (.tmp 5)) (oVal (.tmp 7) (kLoad none (.tmp 6)) (oVal (.tmp 8) (kInt aAdd (.tmp 4) (.tmp 7)) (oVal (.tmp 9) (kInt aSub (.tmp 8) (.con (.int .i64 1))) (oVal (.tmp 10) (kUn (fadA 4) (.tmp 1)) (oVal (.tmp 11) (kUn (fadA 0) (.tmp 10)) (oVal (.tmp 12) (kLoad none (.tmp 11)) (oVal (.tmp 13) (kInt aQuo (.tmp 9) (.tmp 12)) (oVal (.tmp 2) (kMove (.tmp 13)) oNil))))))))))))
theorem res91:Try.f91.results.toList=[.tmp 2]:=by kernel_rfl
def K91:K:=(kSeq (kRegion K91r0 [1,2]) (kSeq (kRegion K91r1 [2]) kRet))
theorem enter91 (cl:CallF) (a0:AV) (s:St):enterA Try.prog X cl 91 [a0] s Try.f91=finA Try.prog Try.f91 (K91 cl ⟨91,none,Try.f91.ntmps,X 91⟩ (paramsEnv 0 [a0] .nil) [] s) :=
  enterA_eq (b:=Try.f91.body.getD .skip) (by kernel_rfl) (by kernel_rfl) (by kernel_rfl) (by kernel_rfl) (by kernel_rfl)
def K80r0:OpsF:=(oVal (.tmp 2) (kMove (.con (.int .i64 0))) oNil)
def K80r1:OpsF:=(oVal (.tmp 7) (kMove (.tmp 0)) (oVal (.tmp 8) (kUn lenSlA (.tmp 7)) (oCall (.tmp 9) (.con (.func 62 [] [])) [(.tmp 8),(.con (.int .i64 1)),(.con (.int .i64 6))] (oVal (.tmp 3) (kMove (.tmp 9)) oNil))))
def K80r2:OpsF:=(oVal (.tmp 10) (kMove (.tmp 3)) (oVal (.tmp 11) (kInt aNeq (.tmp 10) (.con (.int .i64 0))) oNil))
def K80r3:OpsF:=(oVal (.tmp 12) (kMove (.tmp 3)) (oVal (.tmp 2) (kMove (.tmp 12)) oNil))
def K80r4:OpsF:=(oVal (.tmp 13) (kMove (.tmp 0)) (oVal (.tmp 14) (kUn lenSlA (.tmp 13)) (oVal (.tmp 15) (kMove (.con (.int .i64 0))) oNil)))
def K80r5:OpsF:=(oVal (.tmp 16) (kInt aLss (.tmp 15) (.tmp 14)) oNil)
def K80r6:OpsF:=(oVal (.tmp 17) (kTwo (ixsA 6) (.tmp 13) (.tmp 15)) (oVal (.tmp 18) (kLoad (some 6) (.tmp 17)) (oVal (.tmp 5) (kAlloc [(.int .i64 0),(.int .i64 0),(.bool false),.nilslice,(.int .i64 0),(.int .i64 0)] (tag 49)) (oVal .none (kStore 6 (.tmp 5) (.tmp 18)) oNil))))
def K80r7:OpsF:=(oEnd [] (oVal (.tmp 19) (kUn (fadA 0) (.tmp 5)) (oVal (.tmp 20) (kLoad (some 2) (.tmp 19)) (oCallT (some [22,24,27,30]) (.tmp 21) (.con (.func 95 [] [])) [(.tmp 20),(.con (.int .i64 0)),(.con (.int .i64 1000000))] (oVal (.tmp 22) (kUn (fadA 3) (.tmp 5)) (oVal (.tmp 23) (kLoad none (.tmp 22)) (oVal (.tmp 24) (kMove (.tmp 0)) (oVal (.tmp 25) (kUn lenSlA (.tmp 24)) (oCallT (some [27,30]) (.tmp 26) (.con (.func 96 [] [])) [(.tmp 23),(.tmp 25)] (oVal (.tmp 27) (kUn (fadA 4) (.tmp 5)) (oVal (.tmp 28) (kLoad none (.tmp 27)) (oCallT (some [30]) (.tmp 29) (.con (.func 77 [] [])) [(.tmp 28),(.con (.int .i64 0)),(.con (.int .i64 1000000))] (oVal (.tmp 30) (kUn (fadA 5) (.tmp 5)) (oVal (.tmp 31) (kLoad none (.tmp 30)) (oCall (.tmp 32) (.con (.func 77 [] [])) [(.tmp 31),(.con (.int .i64 0)),(.con (.int .i64 24))] (oVal (.tmp 33) (kBuildSlice [(.int .i64 0),(.int .i64 0),(.int .i64 0),(.int .i64 0)] 4 [(0,1,(.tmp 21)),(1,1,(.tmp 26)),(2,1,(.tmp 29)),(3,1,(.tmp 32))]) (oCall (.tmp 34) (.con (.func 51 [] [])) [(.tmp 33)] (oVal (.tmp 6) (kMove (.tmp 34)) oNil))))))))))))))))))
def K80r8:OpsF:=(oVal (.tmp 35) (kMove (.tmp 6)) (oVal (.tmp 36) (kInt aNeq (.tmp 35) (.con (.int .i64 0))) oNil))
def K80r9:OpsF:=(oVal (.tmp 37) (kMove (.tmp 6)) (oVal (.tmp 2) (kMove (.tmp 37)) oNil))
def K80r10:OpsF:=(oVal (.tmp 38) (kInt aAdd (.tmp 15) (.con (.int .i64 1))) (oVal (.tmp 15) (kMove (.tmp 38)) oNil))
def K80l0:K:=(kSeq (kRegion K80r5 [16]) (kSeq (kCond (.tmp 16) kSkip (kExit 0)) (kSeq (kBlock 1 (kSeq (kRegion K80r6 [5]) (kSeq (kRegionD K80r7 [6]) (kSeq (kRegion K80r8 [36]) (kCond (.tmp 36) (kSeq (kRegion K80r9 [2]) kRet) kSkip))))) (kRegion K80r10 [15]))))
def K80r11:OpsF:=(oVal (.tmp 2) (kMove (.con (.int .i64 0))) oNil)
theorem res80:Try.f80.results.toList=[.tmp 2]:=by kernel_rfl
def K80:K:=(kSeq (kRegion K80r0 [2]) (kSeq (kSeq (kRegion K80r1 [3]) (kSeq (kRegion K80r2 [11]) (kCond (.tmp 11) (kSeq (kRegion K80r3 [2]) kRet) kSkip))) (kSeq (kSeq (kRegion K80r4 [13,14,15]) (kBlock 0 (kLoop K80l0))) (kSeq (kRegion K80r11 [2]) kRet))))
theorem enter80 (cl:CallF) (a0:AV) (s:St):enterA Try.prog X cl 80 [a0] s Try.f80=finA Try.prog Try.f80 (K80 cl ⟨80,none,Try.f80.ntmps,X 80⟩ (paramsEnv 0 [a0] .nil) [] s) :=
  enterA_eq (b:=Try.f80.body.getD .skip) (by kernel_rfl) (by kernel_rfl) (by kernel_rfl) (by kernel_rfl) (by kernel_rfl)
def K96r0:OpsF:=(oVal (.tmp 4) (kMove (.con (.int .i64 0))) oNil)
def K96r1:OpsF:=(oVal (.tmp 8) (kMove (.tmp 0)) (oVal (.tmp 9) (kUn lenSlA (.tmp 8)) (oVal (.tmp 10) (kMove (.tmp 1)) (oVal (.tmp 11) (kInt aNeq (.tmp 9) (.tmp 10)) oNil))))
def K96r2:OpsF:=(oVal (.tmp 4) (kMove (.con (.int .i64 2))) oNil)
def K96r3:OpsF:=(oVal (.tmp 12) (kMove (.tmp 0)) (oVal (.tmp 13) (kUn lenSlA (.tmp 12)) (oVal (.tmp 14) (kMove (.con (.int .i64 0))) oNil)))
def K96r4:OpsF:=(oVal (.tmp 15) (kInt aLss (.tmp 14) (.tmp 13)) oNil)
def K96r5:OpsF:=(oVal (.tmp 16) (kTwo (ixsA 1) (.tmp 12) (.tmp 14)) (oVal (.tmp 17) (kLoad none (.tmp 16)) (oVal (.tmp 6) (kMove (.tmp 17)) oNil)))
def K96r6:OpsF:=(oVal (.tmp 18) (kMove (.tmp 6)) (oCall (.tmp 19) (.con (.func 77 [] [])) [(.tmp 18),(.con (.int .i64 0)),(.con (.int .i64 9))] (oVal (.tmp 7) (kMove (.tmp 19)) oNil)))
def K96r7:OpsF:=(oVal (.tmp 20) (kMove (.tmp 7)) (oVal (.tmp 21) (kInt aNeq (.tmp 20) (.con (.int .i64 0))) oNil))
def K96r8:OpsF:=(oVal (.tmp 22) (kMove (.tmp 7)) (oVal (.tmp 4) (kMove (.tmp 22)) oNil))
def K96r9:OpsF:=(oVal (.tmp 23) (kInt aAdd (.tmp 14) (.con (.int .i64 1))) (oVal (.tmp 14) (kMove (.tmp 23)) oNil))
def K96l0:K:=(kSeq (kRegion K96r4 [15]) (kSeq (kCond (.tmp 15) kSkip (kExit 0)) (kSeq (kBlock 1 (kSeq (kRegion K96r5 [6]) (kSeq (kRegion K96r6 [7]) (kSeq (kRegion K96r7 [21]) (kCond (.tmp 21) (kSeq (kRegion K96r8 [4]) kRet) kSkip))))) (kRegion K96r9 [14]))))
def K96r10:OpsF:=(oVal (.tmp 4) (kMove (.con (.int .i64 0))) oNil)
theorem res96:Try.f96.results.toList=[.tmp 4]:=by kernel_rfl
def K96:K:=(kSeq (kRegion K96r0 [4]) (kSeq (kSeq (kRegion K96r1 [11]) (kCond (.tmp 11) (kSeq (kRegion K96r2 [4]) kRet) kSkip)) (kSeq (kSeq (kRegion K96r3 [12,13,14]) (kBlock 0 (kLoop K96l0))) (kSeq (kRegion K96r10 [4]) kRet))))
theorem enter96 (cl:CallF) (a0 a1:AV) (s:St):enterA Try.prog X cl 96 [a0,a1] s Try.f96=finA Try.prog Try.f96 (K96 cl ⟨96,none,Try.f96.ntmps,X 96⟩ (paramsEnv 0 [a0,a1] .nil) [] s) :=
  enterA_eq (b:=Try.f96.body.getD .skip) (by kernel_rfl) (by kernel_rfl) (by kernel_rfl) (by kernel_rfl) (by kernel_rfl)
def K52r0:OpsF:=(oVal (.tmp 2) (kBox (tag 30) (.tmp 0)) (oVal (.tmp 4) (kMove (.con (.int .i64 0))) oNil))
def K52r1s8:OpsF:=(oVal (.tmp 13) (kPick (.tmp 7) (.con (.bool true)) (.tmp 12)) oNil)
def K52r1s7:OpsF:=(oIf 7 false (oVal (.tmp 12) (kInt aGeq (.tmp 8) (.tmp 11)) K52r1s8) (oSkip (.tmp 12) K52r1s8))
def K52r1s6:OpsF:=(oIf 7 false (oVal (.tmp 11) (kUn lenSlA (.tmp 10)) K52r1s7) (oSkip (.tmp 11) K52r1s7))
def K52r1s5:OpsF:=(oIf 7 false (oVal (.tmp 10) (kLoad none (.tmp 9)) K52r1s6) (oSkip (.tmp 10) K52r1s6))
def K52r1s4:OpsF:=(oIf 7 false (oVal (.tmp 9) (kUn (fadA 7) (.tmp 2)) K52r1s5) (oSkip (.tmp 9) K52r1s5))
def K52r1:OpsF:=(oVal (.tmp 5) (kMove (.tmp 1)) (oVal (.tmp 6) (kInt aLss (.tmp 5) (.con (.int .i64 0))) (oVal (.tmp 7) (kMove (.tmp 6)) (oIf 7 false (oVal (.tmp 8) (kMove (.tmp 1)) K52r1s4) (oSkip (.tmp 8) K52r1s4)))))
def K52r2:OpsF:=(oVal (.tmp 4) (kMove (.con (.int .i64 8))) oNil)
def K52r3:OpsF:=(oVal (.tmp 4) (kMove (.con (.int .i64 0))) oNil)
theorem res52:Try.f52.results.toList=[.tmp 4]:=by kernel_rfl
def K52:K:=(kSeq (kRegion K52r0 [2,4]) (kSeq (kSeq (kRegion K52r1 [13]) (kCond (.tmp 13) (kSeq (kRegion K52r2 [4]) kRet) kSkip)) (kSeq (kRegion K52r3 [4]) kRet)))
theorem enter52 (cl:CallF) (a0 a1:AV) (s:St):enterA Try.prog X cl 52 [a0,a1] s Try.f52=finA Try.prog Try.f52 (K52 cl ⟨52,none,Try.f52.ntmps,X 52⟩ (paramsEnv 0 [a0,a1] .nil) [] s) :=
  enterA_eq (b:=Try.f52.body.getD .skip) (by kernel_rfl) (by kernel_rfl) (by kernel_rfl) (by kernel_rfl) (by kernel_rfl)
end
end Go.Proofs.Ytoklbkgcclkejaa.code
set_option maxRecDepth 100000
namespace Go.Proofs.Ytoklbkgcclkejaa.code
open Go.Abs
noncomputable section
def K43r0:OpsF:=(oVal (.tmp 2) (kBox (tag 30) (.tmp 0)) (oVal (.tmp 4) (kMove (.con (.int .i64 0))) oNil))
def K43r1:OpsF:=(oVal (.tmp 12) (kLoad (some 8) (.tmp 2)) (oCall (.tmp 13) (.con (.func 55 [] [])) [(.tmp 12)] (oVal (.tmp 14) (kMove (.tmp 1)) (oVal (.tmp 15) (kUn lenSlA (.tmp 14)) (oCall (.tmp 16) (.con (.func 62 [] [])) [(.tmp 15),(.con (.int .i64 0)),(.con (.int .i64 24))] (oVal (.tmp 17) (kBuildSlice [(.int .i64 0),(.int .i64 0)] 2 [(0,1,(.tmp 13)),(1,1,(.tmp 16))]) (oCall (.tmp 18) (.con (.func 51 [] [])) [(.tmp 17)] (oVal (.tmp 5) (kMove (.tmp 18)) oNil))))))))
def K43r2:OpsF:=(oVal (.tmp 19) (kMove (.tmp 5)) (oVal (.tmp 20) (kInt aNeq (.tmp 19) (.con (.int .i64 0))) oNil))
def K43r3:OpsF:=(oVal (.tmp 21) (kMove (.tmp 5)) (oVal (.tmp 4) (kMove (.tmp 21)) oNil))
def K43r4:OpsF:=(oVal (.tmp 22) (kLoad (some 8) (.tmp 2)) (oCall (.tmp 23) (.con (.func 44 [] [])) [(.tmp 22)] (oVal (.tmp 6) (kMove (.tmp 23)) oNil)))
def K43r5:OpsF:=(oVal (.tmp 24) (kMove (.tmp 1)) (oVal (.tmp 25) (kUn lenSlA (.tmp 24)) (oVal (.tmp 26) (kMove (.con (.int .i64 0))) oNil)))
def K43r6:OpsF:=(oVal (.tmp 27) (kInt aLss (.tmp 26) (.tmp 25)) oNil)
def K43r7:OpsF:=(oVal (.tmp 28) (kMove (.tmp 26)) (oVal (.tmp 29) (kTwo (ixsA 3) (.tmp 24) (.tmp 26)) (oVal (.tmp 30) (kLoad (some 3) (.tmp 29)) (oVal (.tmp 8) (kAlloc [(.int .i64 0),(.int .i64 0),(.int .i64 0)] (tag 51)) (oVal (.tmp 7) (kMove (.tmp 28)) (oVal .none (kStore 3 (.tmp 8) (.tmp 30)) oNil))))))
def K43r8:OpsF:=(oEnd [] (oVal (.tmp 31) (kMove (.tmp 6)) (oVal (.tmp 32) (kMove (.tmp 1)) (oVal (.tmp 33) (kMove (.tmp 7)) (oVal (.tmp 34) (kSlice (sliceVal 3) (.tmp 32) none (some (.tmp 33))) (oVal (.tmp 35) (kLoad (some 3) (.tmp 8)) (oCall (.tmp 36) (.con (.func 63 [] [])) [(.tmp 31),(.tmp 34),(.tmp 35)] (oVal (.tmp 9) (kMove (.tmp 36)) oNil))))))))
def K43r9:OpsF:=(oVal (.tmp 37) (kMove (.tmp 9)) (oVal (.tmp 38) (kInt aNeq (.tmp 37) (.con (.int .i64 0))) oNil))
def K43r10:OpsF:=(oVal (.tmp 39) (kMove (.tmp 9)) (oVal (.tmp 4) (kMove (.tmp 39)) oNil))
def K43r11:OpsF:=(oVal (.tmp 40) (kInt aAdd (.tmp 26) (.con (.int .i64 1))) (oVal (.tmp 26) (kMove (.tmp 40)) oNil))
def K43l0:K:=(kSeq (kRegion K43r6 [27]) (kSeq (kCond (.tmp 27) kSkip (kExit 0)) (kSeq (kBlock 1 (kSeq (kRegion K43r7 [8,7]) (kSeq (kRegionD K43r8 [9]) (kSeq (kRegion K43r9 [38]) (kCond (.tmp 38) (kSeq (kRegion K43r10 [4]) kRet) kSkip))))) (kRegion K43r11 [26]))))
def K43r12:OpsF:=(oVal (.tmp 41) (kUn (fadA 7) (.tmp 2)) (oVal (.tmp 42) (kLoad none (.tmp 41)) (oVal (.tmp 43) (kUn lenSlA (.tmp 42)) (oVal (.tmp 44) (kMove (.con (.int .i64 0))) oNil))))
def K43r13:OpsF:=(oVal (.tmp 45) (kInt aLss (.tmp 44) (.tmp 43)) oNil)
def K43r14:OpsF:=(oVal (.tmp 46) (kMove (.tmp 44)) (oVal (.tmp 47) (kTwo (ixsA 6) (.tmp 42) (.tmp 44)) (oVal (.tmp 48) (kLoad (some 6) (.tmp 47)) (oVal (.tmp 11) (kAlloc [(.int .i64 0),(.int .i64 0),(.bool false),.nilslice,(.int .i64 0),(.int .i64 0)] (tag 49)) (oVal (.tmp 10) (kMove (.tmp 46)) (oVal .none (kStore 6 (.tmp 11) (.tmp 48)) oNil))))))
def K43r15:OpsF:=(oEnd [] (oVal (.tmp 49) (kMove (.tmp 1)) (oVal (.tmp 50) (kMove (.tmp 10)) (oCallT (some [52]) (.tmp 51) (.con (.func 64 [] [])) [(.tmp 49),(.tmp 50)] (oVal (.tmp 52) (kUn (fadA 5) (.tmp 11)) (oVal (.tmp 53) (kLoad none (.tmp 52)) (oVal (.tmp 54) (kGtr (.tmp 51) (.tmp 53)) oNil)))))))
def K43r16:OpsF:=(oVal (.tmp 4) (kMove (.con (.int .i64 13))) oNil)
def K43r17:OpsF:=(oVal (.tmp 55) (kInt aAdd (.tmp 44) (.con (.int .i64 1))) (oVal (.tmp 44) (kMove (.tmp 55)) oNil))
def K43l1:K:=(kSeq (kRegion K43r13 [45]) (kSeq (kCond (.tmp 45) kSkip (kExit 2)) (kSeq (kBlock 3 (kSeq (kRegion K43r14 [11,10]) (kSeq (kRegionD K43r15 [54]) (kCond (.tmp 54) (kSeq (kRegion K43r16 [4]) kRet) kSkip)))) (kRegion K43r17 [44]))))
def K43r18:OpsF:=(oVal (.tmp 4) (kMove (.con (.int .i64 0))) oNil)
theorem res43:Try.f43.results.toList=[.tmp 4]:=by kernel_rfl
def K43:K:=(kSeq (kRegion K43r0 [2,4]) (kSeq (kSeq (kRegion K43r1 [5]) (kSeq (kRegion K43r2 [20]) (kCond (.tmp 20) (kSeq (kRegion K43r3 [4]) kRet) kSkip))) (kSeq (kRegion K43r4 [6]) (kSeq (kSeq (kRegion K43r5 [24,25,26]) (kBlock 0 (kLoop K43l0))) (kSeq (kSeq (kRegion K43r12 [42,43,44]) (kBlock 2 (kLoop K43l1))) (kSeq (kRegion K43r18 [4]) kRet))))))
theorem enter43 (cl:CallF) (a0 a1:AV) (s:St):enterA Try.prog X cl 43 [a0,a1] s Try.f43=finA Try.prog Try.f43 (K43 cl ⟨43,none,Try.f43.ntmps,X 43⟩ (paramsEnv 0 [a0,a1] .nil) [] s) :=
  enterA_eq (b:=Try.f43.body.getD .skip) (by kernel_rfl) (by kernel_rfl) (by kernel_rfl) (by kernel_rfl) (by kernel_rfl)
def K44r0:OpsF:=(oVal (.tmp 1) (kBox (tag 30) (.tmp 0)) (oVal (.tmp 2) (kMove (.con .nilptr)) oNil))
def K44r1:OpsF:=(oEnd [] (oVal (.tmp 4) (kLoad (some 8) (.tmp 1)) (oVal (.tmp 5) (kLoad (some 8) (.tmp 1)) (oCallT (some [1]) (.tmp 6) (.con (.func 65 [] [])) [(.tmp 5)] (oVal (.tmp 7) (kBuild [(.int .i64 0),(.int .i64 0),.nilslice,.nilslice,(.int .i64 0),(.int .i64 0),.nilslice,.nilslice,(.bool false),(.bool false),(.int .i64 0),(.bool false),(.bool false),(.int .i64 0),(.bool false),(.bool false),(.int .i64 0),(.bool false),(.bool false),(.int .i64 0),(.bool false),(.bool false),(.int .i64 0),(.bool false),(.bool false),(.int .i64 0),(.bool false),(.bool false),(.int .i64 0),(.bool false),(.bool false),(.int .i64 0),(.bool false),(.bool false),(.int .i64 0),(.bool false),(.bool false),(.int .i64 0),(.bool false),(.bool false),(.int .i64 0),(.bool false),(.bool false),(.int .i64 0),(.bool false),(.bool false),(.int .i64 0),(.bool false),(.bool false),(.int .i64 0),(.bool false),(.bool false),(.int .i64 0),(.bool false),(.bool false),(.int .i64 0),(.bool false),(.bool false),(.int .i64 0),(.bool false),(.bool false),(.int .i64 0),(.bool false),(.bool false),(.int .i64 0),(.bool false),(.bool false),(.int .i64 0),(.bool false),(.bool false),(.int .i64 0),(.bool false),(.bool false),(.int .i64 0),(.bool false),(.bool false),(.int .i64 0),(.bool false),(.bool false),(.int .i64 0),.nilslice] [(0,8,(.tmp 4)),(8,72,(.tmp 6))]) (oVal (.tmp 8) (kBox (tag 109) (.tmp 7)) (oVal (.tmp 3) (kMove (.tmp 8)) oNil)))))))
def K44r2:OpsF:=(oVal (.tmp 9) (kMove (.tmp 3)) (oVal (.tmp 10) (kMove (.tmp 3)) (oVal (.tmp 11) (kFunc 66 [(.tmp 10)] []) (oVal (.tmp 12) (kMove (.tmp 3)) (oVal (.tmp 13) (kFunc 67 [(.tmp 12)] []) (oVal (.tmp 14) (kMove (.tmp 3)) (oVal (.tmp 15) (kFunc 68 [(.tmp 14)] []) (oVal (.tmp 16) (kMove (.tmp 3)) (oVal (.tmp 17) (kFunc 69 [(.tmp 16)] []) (oVal (.tmp 18) (kMove (.tmp 3)) (oVal (.tmp 19) (kFunc 70 [(.tmp 18)] []) (oVal (.tmp 20) (kMove (.tmp 3)) (oVal (.tmp 21) (kFunc 71 [(.tmp 20)] []) (oVal (.tmp 22) (kBuildSlice [.nilfunc,.nilfunc,.nilfunc,.nilfunc,.nilfunc,.nilfunc] 6 [(0,1,(.tmp 11)),(1,1,(.tmp 13)),(2,1,(.tmp 15)),(3,1,(.tmp 17)),(4,1,(.tmp 19)),(5,1,(.tmp 21))]) (oVal (.tmp 23) (kUn nilA (.tmp 9)) (oVal (.tmp 24) (kUn (fadA 80) (.tmp 23)) (oVal .none (kStore 1 (.tmp 24) (.tmp 22)) oNil)))))))))))))))))
def K44r3:OpsF:=(oVal (.tmp 25) (kMove (.tmp 3)) (oVal (.tmp 2) (kMove (.tmp 25)) oNil))
theorem res44:Try.f44.results.toList=[.tmp 2]:=by kernel_rfl
def K44:K:=(kSeq (kRegion K44r0 [1,2]) (kSeq (kRegionD K44r1 [3]) (kSeq (kRegion K44r2 []) (kSeq (kRegion K44r3 [2]) kRet))))
theorem enter44 (cl:CallF) (a0:AV) (s:St):enterA Try.prog X cl 44 [a0] s Try.f44=finA Try.prog Try.f44 (K44 cl ⟨44,none,Try.f44.ntmps,X 44⟩ (paramsEnv 0 [a0] .nil) [] s) :=
  enterA_eq (b:=Try.f44.body.getD .skip) (by kernel_rfl) (by kernel_rfl) (by kernel_rfl) (by kernel_rfl) (by kernel_rfl)
def K65r0:OpsF:=(oVal (.tmp 1) (kBox (tag 30) (.tmp 0)) (oVal (.tmp 2) (kAlloc [(.bool false),(.bool false),(.int .i64 0),(.bool false),(.bool false),(.int .i64 0),(.bool false),(.bool false),(.int .i64 0),(.bool false),(.bool false),(.int .i64 0),(.bool false),(.bool false),(.int .i64 0),(.bool false),(.bool false),(.int .i64 0),(.bool false),(.bool false),(.int .i64 0),(.bool false),(.bool false),(.int .i64 0),(.bool false),(.bool false),(.int .i64 0),(.bool false),(.bool false),(.int .i64 0),(.bool false),(.bool false),(.int .i64 0),(.bool false),(.bool false),(.int .i64 0),(.bool false),(.bool false),(.int .i64 0),(.bool false),(.bool false),(.int .i64 0),(.bool false),(.bool false),(.int .i64 0),(.bool false),(.bool false),(.int .i64 0),(.bool false),(.bool false),(.int .i64 0),(.bool false),(.bool false),(.int .i64 0),(.bool false),(.bool false),(.int .i64 0),(.bool false),(.bool false),(.int .i64 0),(.bool false),(.bool false),(.int .i64 0),(.bool false),(.bool false),(.int .i64 0),(.bool false),(.bool false),(.int .i64 0),(.bool false),(.bool false),(.int .i64 0)] (tag 105)) oNil))
def K65r1:OpsF:=(oVal (.tmp 3) (kAlloc [(.bool false),(.bool false),(.int .i64 0),(.bool false),(.bool false),(.int .i64 0),(.bool false),(.bool false),(.int .i64 0),(.bool false),(.bool false),(.int .i64 0),(.bool false),(.bool false),(.int .i64 0),(.bool false),(.bool false),(.int .i64 0),(.bool false),(.bool false),(.int .i64 0),(.bool false),(.bool false),(.int .i64 0),(.bool false),(.bool false),(.int .i64 0),(.bool false),(.bool false),(.int .i64 0),(.bool false),(.bool false),(.int .i64 0),(.bool false),(.bool false),(.int .i64 0),(.bool false),(.bool false),(.int .i64 0),(.bool false),(.bool false),(.int .i64 0),(.bool false),(.bool false),(.int .i64 0),(.bool false),(.bool false),(.int .i64 0),(.bool false),(.bool false),(.int .i64 0),(.bool false),(.bool false),(.int .i64 0),(.bool false),(.bool false),(.int .i64 0),(.bool false),(.bool false),(.int .i64 0),(.bool false),(.bool false),(.int .i64 0),(.bool false),(.bool false),(.int .i64 0),(.bool false),(.bool false),(.int .i64 0),(.bool false),(.bool false),(.int .i64 0)] (tag 105)) oNil)
def K65r2:OpsF:=(oVal (.tmp 9) (kLoad (some 8) (.tmp 1)) (oCall (.tmp 10) (.con (.func 53 [] [])) [(.tmp 9)] oNil))
def K65r3:OpsF:=(oVal (.tmp 35) (kUn (fadA 2) (.tmp 1)) (oVal (.tmp 36) (kLoad none (.tmp 35)) (oVal (.tmp 37) (kUn lenSlA (.tmp 36)) (oVal (.tmp 38) (kMove (.con (.int .i64 0))) oNil))))
def K65r4:OpsF:=(oVal (.tmp 39) (kInt aLss (.tmp 38) (.tmp 37)) oNil)
def K65r5:OpsF:=(oVal (.tmp 40) (kTwo (ixsA 2) (.tmp 36) (.tmp 38)) (oVal (.tmp 41) (kLoad (some 2) (.tmp 40)) (oVal (.tmp 6) (kAlloc [(.int .i64 0),(.int .i64 0)] (tag 27)) (oVal .none (kStore 2 (.tmp 6) (.tmp 41)) oNil))))
def K65r6:OpsF:=(oEnd [] (oVal (.tmp 42) (kUn (fadA 1) (.tmp 6)) (oVal (.tmp 43) (kLoad none (.tmp 42)) (oVal (.tmp 44) (kUn (fadA 0) (.tmp 6)) (oVal (.tmp 45) (kLoad none (.tmp 44)) (oVal (.tmp 46) (kTwo (ixaA 4 18) (.tmp 3) (.tmp 43)) (oVal (.tmp 47) (kTwo (ixaA 6 3) (.tmp 46) (.tmp 45)) (oVal (.tmp 48) (kUn (fadA 0) (.tmp 47)) (oVal .none (kStore 1 (.tmp 48) (.con (.bool true))) oNil)))))))))
def K65r7:OpsF:=(oVal (.tmp 49) (kInt aAdd (.tmp 38) (.con (.int .i64 1))) (oVal (.tmp 38) (kMove (.tmp 49)) oNil))
def K65l0:K:=(kSeq (kRegion K65r4 [39]) (kSeq (kCond (.tmp 39) kSkip (kExit 2)) (kSeq (kBlock 3 (kSeq (kRegion K65r5 [6]) (kRegionD K65r6 []))) (kRegion K65r7 [38]))))
def K65r8:OpsF:=(oVal (.tmp 50) (kUn (fadA 3) (.tmp 1)) (oVal (.tmp 51) (kLoad none (.tmp 50)) (oVal (.tmp 52) (kUn lenSlA (.tmp 51)) (oVal (.tmp 53) (kMove (.con (.int .i64 0))) oNil))))
def K65r9:OpsF:=(oVal (.tmp 54) (kInt aLss (.tmp 53) (.tmp 52)) oNil)
def K65r10:OpsF:=(oVal (.tmp 55) (kTwo (ixsA 2) (.tmp 51) (.tmp 53)) (oVal (.tmp 56) (kLoad (some 2) (.tmp 55)) (oVal (.tmp 8) (kAlloc [(.int .i64 0),(.int .i64 0)] (tag 27)) (oVal .none (kStore 2 (.tmp 8) (.tmp 56)) oNil))))
def K65r11:OpsF:=(oEnd [] (oVal (.tmp 57) (kUn (fadA 1) (.tmp 8)) (oVal (.tmp 58) (kLoad none (.tmp 57)) (oVal (.tmp 59) (kUn (fadA 0) (.tmp 8)) (oVal (.tmp 60) (kLoad none (.tmp 59)) (oVal (.tmp 61) (kTwo (ixaA 4 18) (.tmp 3) (.tmp 58)) (oVal (.tmp 62) (kTwo (ixaA 6 3) (.tmp 61) (.tmp 60)) (oVal (.tmp 63) (kUn (fadA 1) (.tmp 62)) (oVal .none (kStore 1 (.tmp 63) (.con (.bool true))) oNil)))))))))
def K65r12:OpsF:=(oVal (.tmp 64) (kInt aAdd (.tmp 53) (.con (.int .i64 1))) (oVal (.tmp 53) (kMove (.tmp 64)) oNil))
def K65l1:K:=(kSeq (kRegion K65r9 [54]) (kSeq (kCond (.tmp 54) kSkip (kExit 4)) (kSeq (kBlock 5 (kSeq (kRegion K65r10 [8]) (kRegionD K65r11 []))) (kRegion K65r12 [53]))))
def K65r13:OpsF:=(oVal (.tmp 65) (kLoad (some 72) (.tmp 3)) (oVal .none (kStore 72 (.tmp 2) (.tmp 65)) oNil))
theorem res65:Try.f65.results.toList=[.cell 2 105]:=by kernel_rfl
def K65:K:=(kSeq (kRegion K65r0 [1,2]) (kSeq (kRegion K65r1 [3]) (kSeq (kSeq (kRegion K65r2 [10]) (kBlock 0 (kRange (.tmp 10) [11] (rangeAt Try.f65 0).1 (rangeAt Try.f65 0).2))) (kSeq (kSeq (kRegion K65r3 [36,37,38]) (kBlock 2 (kLoop K65l0))) (kSeq (kSeq (kRegion K65r8 [51,52,53]) (kBlock 4 (kLoop K65l1))) (kSeq (kRegion K65r13 []) kRet))))))
theorem enter65 (cl:CallF) (a0:AV) (s:St):enterA Try.prog X cl 65 [a0] s Try.f65=finA Try.prog Try.f65 (K65 cl ⟨65,none,Try.f65.ntmps,X 65⟩ (paramsEnv 0 [a0] .nil) [] s) :=
  enterA_eq (b:=Try.f65.body.getD .skip) (by kernel_rfl) (by kernel_rfl) (by kernel_rfl) (by kernel_rfl) (by kernel_rfl)
def K65a0r0:OpsF:=(oVal (.tmp 4) (kAlloc [(.int .i64 0),(.int .i64 0)] (tag 27)) (oVal .none (kStore 2 (.tmp 4) (.tmp 11)) oNil))
def K65a0:K:=(kRegion K65a0r0 [4])
theorem code65a0:codeK Try.prog (X 65) Try.f65.ntmps (rangeAt Try.f65 0).1=some K65a0:=by kernel_rfl
def K65b0r0:OpsF:=(oEnd [] (oVal (.tmp 12) (kUn (fadA 1) (.tmp 4)) (oVal (.tmp 13) (kLoad none (.tmp 12)) (oVal (.tmp 14) (kUn (fadA 0) (.tmp 4)) (oVal (.tmp 15) (kLoad none (.tmp 14)) (oVal (.tmp 16) (kUn (fadA 1) (.tmp 4)) (oVal (.tmp 17) (kLoad none (.tmp 16)) (oVal (.tmp 18) (kUn (fadA 4) (.tmp 1)) (oVal (.tmp 19) (kUn (fadA 1) (.tmp 18)) (oVal (.tmp 20) (kLoad none (.tmp 19)) (oVal (.tmp 21) (kInt aQuo (.tmp 17) (.tmp 20)) (oVal (.tmp 22) (kLoad (some 8) (.tmp 1)) (oCallT (some [12,14,16,19,25,28]) (.tmp 23) (.con (.func 91 [] [])) [(.tmp 22)] (oVal (.tmp 24) (kInt aMul (.tmp 21) (.tmp 23)) (oVal (.tmp 25) (kUn (fadA 0) (.tmp 4)) (oVal (.tmp 26) (kLoad none (.tmp 25)) (oVal (.tmp 27) (kUn (fadA 4) (.tmp 1)) (oVal (.tmp 28) (kUn (fadA 0) (.tmp 27)) (oVal (.tmp 29) (kLoad none (.tmp 28)) (oVal (.tmp 30) (kInt aQuo (.tmp 26) (.tmp 29)) (oVal (.tmp 31) (kInt aAdd (.tmp 24) (.tmp 30)) (oVal (.tmp 32) (kTwo (ixaA 4 18) (.tmp 3) (.tmp 13)) (oVal (.tmp 33) (kTwo (ixaA 6 3) (.tmp 32) (.tmp 15)) (oVal (.tmp 34) (kUn (fadA 2) (.tmp 33)) (oVal .none (kStore 1 (.tmp 34) (.tmp 31)) oNil)))))))))))))))))))))))))
def K65b0:K:=(kBlock 1 (kRegionD K65b0r0 []))
theorem code65b0:codeK Try.prog (X 65) Try.f65.ntmps (rangeAt Try.f65 0).2=some K65b0:=by kernel_rfl
def K53r0:OpsF:=(oVal (.tmp 1) (kBox (tag 30) (.tmp 0)) (oVal (.tmp 2) (kMove (.con .nilfunc)) oNil))
def K53r1:OpsF:=(oVal (.tmp 3) (kFunc 75 [] [(.tmp 1)]) (oVal (.tmp 2) (kMove (.tmp 3)) oNil))
theorem res53:Try.f53.results.toList=[.tmp 2]:=by kernel_rfl
def K53:K:=(kSeq (kRegion K53r0 [1,2]) (kSeq (kRegion K53r1 [2]) kRet))
theorem enter53 (cl:CallF) (a0:AV) (s:St):enterA Try.prog X cl 53 [a0] s Try.f53=finA Try.prog Try.f53 (K53 cl ⟨53,none,Try.f53.ntmps,X 53⟩ (paramsEnv 0 [a0] .nil) [] s) :=
  enterA_eq (b:=Try.f53.body.getD .skip) (by kernel_rfl) (by kernel_rfl) (by kernel_rfl) (by kernel_rfl) (by kernel_rfl)
def K75r0:OpsF:=(oVal (.tmp 5) (kUn (fadA 1) (.tmp 1)) (oVal (.tmp 6) (kLoad none (.tmp 5)) (oVal (.tmp 7) (kMove (.con (.int .i64 0))) oNil)))
def K75r1:OpsF:=(oVal (.tmp 8) (kInt aLss (.tmp 7) (.tmp 6)) oNil)
def K75r2:OpsF:=(oVal (.tmp 9) (kMove (.tmp 7)) (oVal (.tmp 3) (kMove (.tmp 9)) oNil))
def K75r3:OpsF:=(oVal (.tmp 10) (kUn (fadA 0) (.tmp 1)) (oVal (.tmp 11) (kLoad none (.tmp 10)) (oVal (.tmp 12) (kMove (.con (.int .i64 0))) oNil)))
def K75r4:OpsF:=(oVal (.tmp 13) (kInt aLss (.tmp 12) (.tmp 11)) oNil)
def K75r5:OpsF:=(oVal (.tmp 14) (kMove (.tmp 12)) (oVal (.tmp 4) (kMove (.tmp 14)) oNil))
def K75r6:OpsF:=(oVal (.tmp 15) (kMove (.tmp 0)) (oVal (.tmp 16) (kMove (.tmp 4)) (oVal (.tmp 17) (kMove (.tmp 3)) (oVal (.tmp 18) (kBuild [(.int .i64 0),(.int .i64 0)] [(0,1,(.tmp 16)),(1,1,(.tmp 17))]) (oCall (.tmp 19) (.tmp 15) [(.tmp 18)] (oVal (.tmp 20) (kUn notA (.tmp 19)) oNil))))))
def K75r7:OpsF:=(oVal (.tmp 21) (kInt aAdd (.tmp 12) (.con (.int .i64 1))) (oVal (.tmp 12) (kMove (.tmp 21)) oNil))
def K75l0:K:=(kSeq (kRegion K75r4 [13]) (kSeq (kCond (.tmp 13) kSkip (kExit 2)) (kSeq (kBlock 3 (kSeq (kRegion K75r5 [4]) (kSeq (kRegion K75r6 [20]) (kCond (.tmp 20) kRet kSkip)))) (kRegion K75r7 [12]))))
def K75r8:OpsF:=(oVal (.tmp 22) (kInt aAdd (.tmp 7) (.con (.int .i64 1))) (oVal (.tmp 7) (kMove (.tmp 22)) oNil))
def K75l1:K:=(kSeq (kRegion K75r1 [8]) (kSeq (kCond (.tmp 8) kSkip (kExit 0)) (kSeq (kBlock 1 (kSeq (kRegion K75r2 [3]) (kSeq (kRegion K75r3 [11,12]) (kBlock 2 (kLoop K75l0))))) (kRegion K75r8 [7]))))
theorem res75:Try.f75.results.toList=[]:=by kernel_rfl
def K75:K:=(kSeq (kRegion K75r0 [6,7]) (kBlock 0 (kLoop K75l1)))
theorem enter75 (cl:CallF) (a0 a1:AV) (s:St):enterA Try.prog X cl 75 [a0,a1] s Try.f75=finA Try.prog Try.f75 (K75 cl ⟨75,none,Try.f75.ntmps,X 75⟩ (paramsEnv 0 [a0,a1] .nil) [] s) :=
  enterA_eq (b:=Try.f75.body.getD .skip) (by kernel_rfl) (by kernel_rfl) (by kernel_rfl) (by kernel_rfl) (by kernel_rfl)
def K72r0:OpsF:=(oVal (.tmp 3) (kBox (tag 51) (.tmp 1)) (oVal (.tmp 4) (kAlloc [(.bool false),(.bool false),(.int .i64 0)] (tag 102)) oNil))
def K72r1:OpsF:=(oEnd [] (oVal (.tmp 5) (kMove (.tmp 0)) (oVal (.tmp 6) (kUn (fadA 0) (.tmp 3)) (oVal (.tmp 7) (kUn (fadA 1) (.tmp 6)) (oVal (.tmp 8) (kLoad none (.tmp 7)) (oVal (.tmp 9) (kUn (fadA 0) (.tmp 3)) (oVal (.tmp 10) (kUn (fadA 0) (.tmp 9)) (oVal (.tmp 11) (kLoad none (.tmp 10)) (oVal (.tmp 12) (kUn nilA (.tmp 5)) (oVal (.tmp 13) (kUn (fadA 8) (.tmp 12)) (oVal (.tmp 14) (kTwo (ixaA 4 18) (.tmp 13) (.tmp 8)) (oVal (.tmp 15) (kTwo (ixaA 6 3) (.tmp 14) (.tmp 11)) (oVal (.tmp 16) (kLoad (some 3) (.tmp 15)) (oVal .none (kStore 3 (.tmp 4) (.tmp 16)) oNil))))))))))))))
theorem res72:Try.f72.results.toList=[.cell 4 102]:=by kernel_rfl
def K72:K:=(kSeq (kRegion K72r0 [3,4]) (kSeq (kRegionD K72r1 []) kRet))
theorem enter72 (cl:CallF) (a0 a1:AV) (s:St):enterA Try.prog X cl 72 [a0,a1] s Try.f72=finA Try.prog Try.f72 (K72 cl ⟨72,none,Try.f72.ntmps,X 72⟩ (paramsEnv 0 [a0,a1] .nil) [] s) :=
  enterA_eq (b:=Try.f72.body.getD .skip) (by kernel_rfl) (by kernel_rfl) (by kernel_rfl) (by kernel_rfl) (by kernel_rfl)
def K74r0:OpsF:=(oVal (.tmp 3) (kBox (tag 51) (.tmp 1)) (oVal (.tmp 4) (kAlloc [(.int .i64 0),(.int .i64 0),(.bool false),.nilslice,(.int .i64 0),(.int .i64 0)] (tag 49)) oNil))
def K74r1:OpsF:=(oEnd [] (oVal (.tmp 5) (kMove (.tmp 0)) (oVal (.tmp 6) (kUn nilA (.tmp 5)) (oVal (.tmp 7) (kUn (fadA 0) (.tmp 6)) (oVal (.tmp 8) (kUn (fadA 7) (.tmp 7)) (oVal (.tmp 9) (kLoad none (.tmp 8)) (oVal (.tmp 10) (kUn (fadA 2) (.tmp 3)) (oVal (.tmp 11) (kLoad none (.tmp 10)) (oVal (.tmp 12) (kTwo (ixsA 6) (.tmp 9) (.tmp 11)) (oVal (.tmp 13) (kLoad (some 6) (.tmp 12)) (oVal .none (kStore 6 (.tmp 4) (.tmp 13)) oNil)))))))))))
theorem res74:Try.f74.results.toList=[.cell 4 49]:=by kernel_rfl
def K74:K:=(kSeq (kRegion K74r0 [3,4]) (kSeq (kRegionD K74r1 []) kRet))
theorem enter74 (cl:CallF) (a0 a1:AV) (s:St):enterA Try.prog X cl 74 [a0,a1] s Try.f74=finA Try.prog Try.f74 (K74 cl ⟨74,none,Try.f74.ntmps,X 74⟩ (paramsEnv 0 [a0,a1] .nil) [] s) :=
  enterA_eq (b:=Try.f74.body.getD .skip) (by kernel_rfl) (by kernel_rfl) (by kernel_rfl) (by kernel_rfl) (by kernel_rfl)
def K63r0:OpsF:=(oVal (.tmp 5) (kBox (tag 51) (.tmp 2)) (oVal (.tmp 6) (kMove (.con (.int .i64 0))) oNil))
def K63r1:OpsF:=(oVal (.tmp 10) (kMove (.tmp 0)) (oVal (.tmp 11) (kUn nilA (.tmp 10)) (oVal (.tmp 12) (kUn (fadA 80) (.tmp 11)) (oVal (.tmp 13) (kLoad none (.tmp 12)) (oVal (.tmp 14) (kUn lenSlA (.tmp 13)) (oVal (.tmp 15) (kMove (.con (.int .i64 0))) oNil))))))
def K63r2:OpsF:=(oVal (.tmp 16) (kInt aLss (.tmp 15) (.tmp 14)) oNil)
def K63r3:OpsF:=(oVal (.tmp 17) (kTwo (ixsA 1) (.tmp 13) (.tmp 15)) (oVal (.tmp 18) (kLoad none (.tmp 17)) (oVal (.tmp 8) (kMove (.tmp 18)) oNil)))
def K63r4:OpsF:=(oVal (.tmp 19) (kMove (.tmp 8)) (oVal (.tmp 20) (kMove (.tmp 1)) (oVal (.tmp 21) (kLoad (some 3) (.tmp 5)) (oCall (.tmp 22) (.tmp 19) [(.tmp 20),(.tmp 21)] (oVal (.tmp 9) (kMove (.tmp 22)) oNil)))))
def K63r5:OpsF:=(oVal (.tmp 23) (kMove (.tmp 9)) (oVal (.tmp 24) (kInt aNeq (.tmp 23) (.con (.int .i64 0))) oNil))
def K63r6:OpsF:=(oVal (.tmp 25) (kMove (.tmp 9)) (oVal (.tmp 6) (kMove (.tmp 25)) oNil))
def K63r7:OpsF:=(oVal (.tmp 26) (kInt aAdd (.tmp 15) (.con (.int .i64 1))) (oVal (.tmp 15) (kMove (.tmp 26)) oNil))
def K63l0:K:=(kSeq (kRegion K63r2 [16]) (kSeq (kCond (.tmp 16) kSkip (kExit 0)) (kSeq (kBlock 1 (kSeq (kRegion K63r3 [8]) (kSeq (kRegion K63r4 [9]) (kSeq (kRegion K63r5 [24]) (kCond (.tmp 24) (kSeq (kRegion K63r6 [6]) kRet) kSkip))))) (kRegion K63r7 [15]))))
def K63r8:OpsF:=(oVal (.tmp 6) (kMove (.con (.int .i64 0))) oNil)
theorem res63:Try.f63.results.toList=[.tmp 6]:=by kernel_rfl
def K63:K:=(kSeq (kRegion K63r0 [5,6]) (kSeq (kSeq (kRegion K63r1 [13,14,15]) (kBlock 0 (kLoop K63l0))) (kSeq (kRegion K63r8 [6]) kRet)))
theorem enter63 (cl:CallF) (a0 a1 a2:AV) (s:St):enterA Try.prog X cl 63 [a0,a1,a2] s Try.f63=finA Try.prog Try.f63 (K63 cl ⟨63,none,Try.f63.ntmps,X 63⟩ (paramsEnv 0 [a0,a1,a2] .nil) [] s) :=
  enterA_eq (b:=Try.f63.body.getD .skip) (by kernel_rfl) (by kernel_rfl) (by kernel_rfl) (by kernel_rfl) (by kernel_rfl)
def K66r0:OpsF:=(oVal (.tmp 5) (kBox (tag 51) (.tmp 2)) (oVal (.tmp 6) (kMove (.con (.int .i64 0))) oNil))
def K66r1:OpsF:=(oEnd [] (oVal (.tmp 7) (kMove (.tmp 0)) (oVal (.tmp 8) (kUn nilA (.tmp 7)) (oVal (.tmp 9) (kUn (fadA 0) (.tmp 8)) (oVal (.tmp 10) (kLoad (some 8) (.tmp 9)) (oVal (.tmp 11) (kUn (fadA 0) (.tmp 5)) (oVal (.tmp 12) (kLoad (some 2) (.tmp 11)) (oCall (.tmp 13) (.con (.func 92 [] [])) [(.tmp 10),(.tmp 12)] (oVal (.tmp 6) (kMove (.tmp 13)) oNil)))))))))
theorem res66:Try.f66.results.toList=[.tmp 6]:=by kernel_rfl
def K66:K:=(kSeq (kRegion K66r0 [5,6]) (kSeq (kRegionD K66r1 [6]) kRet))
theorem enter66 (cl:CallF) (a0 a1 a2:AV) (s:St):enterA Try.prog X cl 66 [a0,a1,a2] s Try.f66=finA Try.prog Try.f66 (K66 cl ⟨66,none,Try.f66.ntmps,X 66⟩ (paramsEnv 0 [a0,a1,a2] .nil) [] s) :=
  enterA_eq (b:=Try.f66.body.getD .skip) (by kernel_rfl) (by kernel_rfl) (by kernel_rfl) (by kernel_rfl) (by kernel_rfl)
def K67r0:OpsF:=(oVal (.tmp 5) (kBox (tag 51) (.tmp 2)) (oVal (.tmp 6) (kMove (.con (.int .i64 0))) oNil))
def K67r1:OpsF:=(oVal (.tmp 7) (kMove (.tmp 0)) (oVal (.tmp 8) (kLoad (some 3) (.tmp 5)) (oCall (.tmp 9) (.con (.func 72 [] [])) [(.tmp 7),(.tmp 8)] (oVal (.tmp 10) (kUn (fldA none 1) (.tmp 9)) oNil))))
def K67r2:OpsF:=(oVal (.tmp 6) (kMove (.con (.int .i64 11))) oNil)
def K67r3:OpsF:=(oVal (.tmp 6) (kMove (.con (.int .i64 0))) oNil)
theorem res67:Try.f67.results.toList=[.tmp 6]:=by kernel_rfl
def K67:K:=(kSeq (kRegion K67r0 [5,6]) (kSeq (kSeq (kRegion K67r1 [10]) (kCond (.tmp 10) (kSeq (kRegion K67r2 [6]) kRet) kSkip)) (kSeq (kRegion K67r3 [6]) kRet)))
theorem enter67 (cl:CallF) (a0 a1 a2:AV) (s:St):enterA Try.prog X cl 67 [a0,a1,a2] s Try.f67=finA Try.prog Try.f67 (K67 cl ⟨67,none,Try.f67.ntmps,X 67⟩ (paramsEnv 0 [a0,a1,a2] .nil) [] s) :=
  enterA_eq (b:=Try.f67.body.getD .skip) (by kernel_rfl) (by kernel_rfl) (by kernel_rfl) (by kernel_rfl) (by kernel_rfl)
def K68r0:OpsF:=(oVal (.tmp 5) (kBox (tag 51) (.tmp 2)) (oVal (.tmp 6) (kMove (.con (.int .i64 0))) oNil))
def K68r1:OpsF:=(oEnd [] (oVal (.tmp 7) (kMove (.tmp 0)) (oVal (.tmp 8) (kUn nilA (.tmp 7)) (oVal (.tmp 9) (kUn (fadA 0) (.tmp 8)) (oVal (.tmp 10) (kLoad (some 8) (.tmp 9)) (oVal (.tmp 11) (kUn (fadA 2) (.tmp 5)) (oVal (.tmp 12) (kLoad none (.tmp 11)) (oCall (.tmp 13) (.con (.func 52 [] [])) [(.tmp 10),(.tmp 12)] (oVal (.tmp 6) (kMove (.tmp 13)) oNil)))))))))
theorem res68:Try.f68.results.toList=[.tmp 6]:=by kernel_rfl
def K68:K:=(kSeq (kRegion K68r0 [5,6]) (kSeq (kRegionD K68r1 [6]) kRet))
theorem enter68 (cl:CallF) (a0 a1 a2:AV) (s:St):enterA Try.prog X cl 68 [a0,a1,a2] s Try.f68=finA Try.prog Try.f68 (K68 cl ⟨68,none,Try.f68.ntmps,X 68⟩ (paramsEnv 0 [a0,a1,a2] .nil) [] s) :=
  enterA_eq (b:=Try.f68.body.getD .skip) (by kernel_rfl) (by kernel_rfl) (by kernel_rfl) (by kernel_rfl) (by kernel_rfl)
def K69r0:OpsF:=(oVal (.tmp 5) (kBox (tag 51) (.tmp 2)) (oVal (.tmp 6) (kMove (.con (.int .i64 0))) oNil))
def K69r1:OpsF:=(oVal (.tmp 9) (kMove (.tmp 1)) (oVal (.tmp 10) (kUn lenSlA (.tmp 9)) (oVal (.tmp 11) (kMove (.con (.int .i64 0))) oNil)))
def K69r2:OpsF:=(oVal (.tmp 12) (kInt aLss (.tmp 11) (.tmp 10)) oNil)
def K69r3:OpsF:=(oVal (.tmp 13) (kTwo (ixsA 3) (.tmp 9) (.tmp 11)) (oVal (.tmp 14) (kLoad (some 3) (.tmp 13)) (oVal (.tmp 8) (kAlloc [(.int .i64 0),(.int .i64 0),(.int .i64 0)] (tag 51)) (oVal .none (kStore 3 (.tmp 8) (.tmp 14)) oNil))))
def K69r4:OpsF:=(oVal (.tmp 15) (kUn (fadA 0) (.tmp 8)) (oVal (.tmp 16) (kLoad (some 2) (.tmp 15)) (oVal (.tmp 17) (kUn (fadA 0) (.tmp 5)) (oVal (.tmp 18) (kLoad (some 2) (.tmp 17)) (oVal (.tmp 19) (kEql (.row [(0,none,.int),(1,none,.int)]) false (.tmp 16) (.tmp 18)) oNil)))))
def K69r5:OpsF:=(oVal (.tmp 6) (kMove (.con (.int .i64 4))) oNil)
def K69r6:OpsF:=(oVal (.tmp 20) (kInt aAdd (.tmp 11) (.con (.int .i64 1))) (oVal (.tmp 11) (kMove (.tmp 20)) oNil))
def K69l0:K:=(kSeq (kRegion K69r2 [12]) (kSeq (kCond (.tmp 12) kSkip (kExit 0)) (kSeq (kBlock 1 (kSeq (kRegion K69r3 [8]) (kSeq (kRegion K69r4 [19]) (kCond (.tmp 19) (kSeq (kRegion K69r5 [6]) kRet) kSkip)))) (kRegion K69r6 [11]))))
def K69r7:OpsF:=(oVal (.tmp 6) (kMove (.con (.int .i64 0))) oNil)
theorem res69:Try.f69.results.toList=[.tmp 6]:=by kernel_rfl
def K69:K:=(kSeq (kRegion K69r0 [5,6]) (kSeq (kSeq (kRegion K69r1 [9,10,11]) (kBlock 0 (kLoop K69l0))) (kSeq (kRegion K69r7 [6]) kRet)))
theorem enter69 (cl:CallF) (a0 a1 a2:AV) (s:St):enterA Try.prog X cl 69 [a0,a1,a2] s Try.f69=finA Try.prog Try.f69 (K69 cl ⟨69,none,Try.f69.ntmps,X 69⟩ (paramsEnv 0 [a0,a1,a2] .nil) [] s) :=
  enterA_eq (b:=Try.f69.body.getD .skip) (by kernel_rfl) (by kernel_rfl) (by kernel_rfl) (by kernel_rfl) (by kernel_rfl)
def K70r0:OpsF:=(oVal (.tmp 5) (kBox (tag 51) (.tmp 2)) (oVal (.tmp 6) (kMove (.con (.int .i64 0))) oNil))
def K70r1s10:OpsF:=(oVal (.tmp 17) (kPick (.tmp 11) (.tmp 16) (.con (.bool false))) oNil)
def K70r1s9:OpsF:=(oIf 11 true (oVal (.tmp 16) (kUn notA (.tmp 15)) K70r1s10) (oSkip (.tmp 16) K70r1s10))
def K70r1s8:OpsF:=(oIf 11 true (oVal (.tmp 15) (kUn (fldA none 0) (.tmp 14)) K70r1s9) (oSkip (.tmp 15) K70r1s9))
def K70r1s7:OpsF:=(oIf 11 true (oCall (.tmp 14) (.con (.func 72 [] [])) [(.tmp 12),(.tmp 13)] K70r1s8) (oSkip (.tmp 14) K70r1s8))
def K70r1s6:OpsF:=(oIf 11 true (oVal (.tmp 13) (kLoad (some 3) (.tmp 5)) K70r1s7) (oSkip (.tmp 13) K70r1s7))
def K70r1:OpsF:=(oVal (.tmp 7) (kMove (.tmp 0)) (oVal (.tmp 8) (kLoad (some 3) (.tmp 5)) (oCall (.tmp 9) (.con (.func 74 [] [])) [(.tmp 7),(.tmp 8)] (oVal (.tmp 10) (kUn (fldA none 2) (.tmp 9)) (oVal (.tmp 11) (kMove (.tmp 10)) (oIf 11 true (oVal (.tmp 12) (kMove (.tmp 0)) K70r1s6) (oSkip (.tmp 12) K70r1s6)))))))
def K70r2:OpsF:=(oVal (.tmp 6) (kMove (.con (.int .i64 7))) oNil)
def K70r3:OpsF:=(oVal (.tmp 6) (kMove (.con (.int .i64 0))) oNil)
theorem res70:Try.f70.results.toList=[.tmp 6]:=by kernel_rfl
def K70:K:=(kSeq (kRegion K70r0 [5,6]) (kSeq (kSeq (kRegion K70r1 [17]) (kCond (.tmp 17) (kSeq (kRegion K70r2 [6]) kRet) kSkip)) (kSeq (kRegion K70r3 [6]) kRet)))
theorem enter70 (cl:CallF) (a0 a1 a2:AV) (s:St):enterA Try.prog X cl 70 [a0,a1,a2] s Try.f70=finA Try.prog Try.f70 (K70 cl ⟨70,none,Try.f70.ntmps,X 70⟩ (paramsEnv 0 [a0,a1,a2] .nil) [] s) :=
  enterA_eq (b:=Try.f70.body.getD .skip) (by kernel_rfl) (by kernel_rfl) (by kernel_rfl) (by kernel_rfl) (by kernel_rfl)
def K71r0:OpsF:=(oVal (.tmp 5) (kBox (tag 51) (.tmp 2)) (oVal (.tmp 6) (kMove (.con (.int .i64 0))) oNil))
def K71r1:OpsF:=(oVal (.tmp 9) (kMove (.tmp 1)) (oVal (.tmp 10) (kUn lenSlA (.tmp 9)) (oVal (.tmp 11) (kMove (.con (.int .i64 0))) oNil)))
def K71r2:OpsF:=(oVal (.tmp 12) (kInt aLss (.tmp 11) (.tmp 10)) oNil)
def K71r3:OpsF:=(oVal (.tmp 13) (kTwo (ixsA 3) (.tmp 9) (.tmp 11)) (oVal (.tmp 14) (kLoad (some 3) (.tmp 13)) (oVal (.tmp 8) (kAlloc [(.int .i64 0),(.int .i64 0),(.int .i64 0)] (tag 51)) (oVal .none (kStore 3 (.tmp 8) (.tmp 14)) oNil))))
def K71r4:OpsF:=(oEnd [] (oVal (.tmp 15) (kUn (fadA 0) (.tmp 5)) (oVal (.tmp 16) (kLoad (some 2) (.tmp 15)) (oVal (.tmp 17) (kUn (fadA 0) (.tmp 8)) (oVal (.tmp 18) (kLoad (some 2) (.tmp 17)) (oCallT (some [5,24,8,32]) (.tmp 19) (.con (.func 93 [] [])) [(.tmp 16),(.tmp 18)] (oVal (.tmp 20) (kMove (.tmp 0)) (oVal (.tmp 21) (kLoad (some 3) (.tmp 5)) (oCallT (some [24,8,32]) (.tmp 22) (.con (.func 74 [] [])) [(.tmp 20),(.tmp 21)] (oVal (.tmp 23) (kUn (fldA none 3) (.tmp 22)) (oVal (.tmp 24) (kUn (fadA 2) (.tmp 8)) (oVal (.tmp 25) (kLoad none (.tmp 24)) (oVal (.tmp 26) (kTwo (ixsA 1) (.tmp 23) (.tmp 25)) (oVal (.tmp 27) (kLoad none (.tmp 26)) (oVal (.tmp 28) (kMove (.tmp 0)) (oVal (.tmp 29) (kLoad (some 3) (.tmp 8)) (oCallT (some [24,26,32]) (.tmp 30) (.con (.func 74 [] [])) [(.tmp 28),(.tmp 29)] (oVal (.tmp 31) (kUn (fldA none 3) (.tmp 30)) (oVal (.tmp 32) (kUn (fadA 2) (.tmp 5)) (oVal (.tmp 33) (kLoad none (.tmp 32)) (oVal (.tmp 34) (kTwo (ixsA 1) (.tmp 31) (.tmp 33)) (oVal (.tmp 35) (kLoad none (.tmp 34)) (oVal (.tmp 36) (kFold maxA (.tmp 27) [(.tmp 35)]) (oVal (.tmp 37) (kInt aLss (.tmp 19) (.tmp 36)) oNil))))))))))))))))))))))))
def K71r5:OpsF:=(oVal (.tmp 6) (kMove (.con (.int .i64 9))) oNil)
def K71r6:OpsF:=(oVal (.tmp 38) (kInt aAdd (.tmp 11) (.con (.int .i64 1))) (oVal (.tmp 11) (kMove (.tmp 38)) oNil))
def K71l0:K:=(kSeq (kRegion K71r2 [12]) (kSeq (kCond (.tmp 12) kSkip (kExit 0)) (kSeq (kBlock 1 (kSeq (kRegion K71r3 [8]) (kSeq (kRegionD K71r4 [37]) (kCond (.tmp 37) (kSeq (kRegion K71r5 [6]) kRet) kSkip)))) (kRegion K71r6 [11]))))
def K71r7:OpsF:=(oVal (.tmp 6) (kMove (.con (.int .i64 0))) oNil)
theorem res71:Try.f71.results.toList=[.tmp 6]:=by kernel_rfl
def K71:K:=(kSeq (kRegion K71r0 [5,6]) (kSeq (kSeq (kRegion K71r1 [9,10,11]) (kBlock 0 (kLoop K71l0))) (kSeq (kRegion K71r7 [6]) kRet)))
theorem enter71 (cl:CallF) (a0 a1 a2:AV) (s:St):enterA Try.prog X cl 71 [a0,a1,a2] s Try.f71=finA Try.prog Try.f71 (K71 cl ⟨71,none,Try.f71.ntmps,X 71⟩ (paramsEnv 0 [a0,a1,a2] .nil) [] s) :=
  enterA_eq (b:=Try.f71.body.getD .skip) (by kernel_rfl) (by kernel_rfl) (by kernel_rfl) (by kernel_rfl) (by kernel_rfl)
def K93r0:OpsF:=(oVal (.tmp 2) (kBox (tag 27) (.tmp 0)) (oVal (.tmp 3) (kBox (tag 27) (.tmp 1)) (oVal (.tmp 4) (kMove (.con (.int .i64 0))) oNil)))
def K93r1:OpsF:=(oVal (.tmp 5) (kUn (fadA 0) (.tmp 2)) (oVal (.tmp 6) (kLoad none (.tmp 5)) (oVal (.tmp 7) (kUn (fadA 0) (.tmp 3)) (oVal (.tmp 8) (kLoad none (.tmp 7)) (oVal (.tmp 9) (kInt aSub (.tmp 6) (.tmp 8)) (oVal (.tmp 10) (kUn (fadA 0) (.tmp 3)) (oVal (.tmp 11) (kLoad none (.tmp 10)) (oVal (.tmp 12) (kUn (fadA 0) (.tmp 2)) (oVal (.tmp 13) (kLoad none (.tmp 12)) (oVal (.tmp 14) (kInt aSub (.tmp 11) (.tmp 13)) (oVal (.tmp 15) (kFold maxA (.tmp 9) [(.tmp 14)]) (oVal (.tmp 16) (kUn (fadA 1) (.tmp 2)) (oVal (.tmp 17) (kLoad none (.tmp 16)) (oVal (.tmp 18) (kUn (fadA 1) (.tmp 3)) (oVal (.tmp 19) (kLoad none (.tmp 18)) (oVal (.tmp 20) (kInt aSub (.tmp 17) (.tmp 19)) (oVal (.tmp 21) (kUn (fadA 1) (.tmp 3)) (oVal (.tmp 22) (kLoad none (.tmp 21)) (oVal (.tmp 23) (kUn (fadA 1) (.tmp 2)) (oVal (.tmp 24) (kLoad none (.tmp 23)) (oVal (.tmp 25) (kInt aSub (.tmp 22) (.tmp 24)) (oVal (.tmp 26) (kFold maxA (.tmp 20) [(.tmp 25)]) (oVal (.tmp 27) (kInt aAdd (.tmp 15) (.tmp 26)) (oVal (.tmp 4) (kMove (.tmp 27)) oNil))))))))))))))))))))))))
theorem res93:Try.f93.results.toList=[.tmp 4]:=by kernel_rfl
def K93:K:=(kSeq (kRegion K93r0 [2,3,4]) (kSeq (kRegion K93r1 [4]) kRet))
theorem enter93 (cl:CallF) (a0 a1:AV) (s:St):enterA Try.prog X cl 93 [a0,a1] s Try.f93=finA Try.prog Try.f93 (K93 cl ⟨93,none,Try.f93.ntmps,X 93⟩ (paramsEnv 0 [a0,a1] .nil) [] s) :=
  enterA_eq (b:=Try.f93.body.getD .skip) (by kernel_rfl) (by kernel_rfl) (by kernel_rfl) (by kernel_rfl) (by kernel_rfl)
def K64r0:OpsF:=(oVal (.tmp 4) (kMove (.con (.int .i64 0))) oNil)
def K64r1:OpsF:=(oVal (.tmp 5) (kMove (.con (.int .i64 0))) oNil)
def K64r2:OpsF:=(oVal (.tmp 8) (kMove (.tmp 0)) (oVal (.tmp 9) (kUn lenSlA (.tmp 8)) (oVal (.tmp 10) (kMove (.con (.int .i64 0))) oNil)))
def K64r3:OpsF:=(oVal (.tmp 11) (kInt aLss (.tmp 10) (.tmp 9)) oNil)
def K64r4:OpsF:=(oVal (.tmp 12) (kTwo (ixsA 3) (.tmp 8) (.tmp 10)) (oVal (.tmp 13) (kLoad (some 3) (.tmp 12)) (oVal (.tmp 7) (kAlloc [(.int .i64 0),(.int .i64 0),(.int .i64 0)] (tag 51)) (oVal .none (kStore 3 (.tmp 7) (.tmp 13)) oNil))))
def K64r5:OpsF:=(oVal (.tmp 14) (kUn (fadA 2) (.tmp 7)) (oVal (.tmp 15) (kLoad none (.tmp 14)) (oVal (.tmp 16) (kMove (.tmp 1)) (oVal (.tmp 17) (kInt aEql (.tmp 15) (.tmp 16)) oNil))))
def K64r6:OpsF:=(oVal (.tmp 18) (kMove (.tmp 5)) (oVal (.tmp 19) (kInt aAdd (.tmp 18) (.con (.int .i64 1))) (oVal (.tmp 5) (kMove (.tmp 19)) oNil)))
def K64r7:OpsF:=(oVal (.tmp 20) (kInt aAdd (.tmp 10) (.con (.int .i64 1))) (oVal (.tmp 10) (kMove (.tmp 20)) oNil))
def K64l0:K:=(kSeq (kRegion K64r3 [11]) (kSeq (kCond (.tmp 11) kSkip (kExit 0)) (kSeq (kBlock 1 (kSeq (kRegion K64r4 [7]) (kSeq (kRegion K64r5 [17]) (kCond (.tmp 17) (kRegion K64r6 [5]) kSkip)))) (kRegion K64r7 [10]))))
def K64r8:OpsF:=(oVal (.tmp 21) (kMove (.tmp 5)) (oVal (.tmp 4) (kMove (.tmp 21)) oNil))
theorem res64:Try.f64.results.toList=[.tmp 4]:=by kernel_rfl
def K64:K:=(kSeq (kRegion K64r0 [4]) (kSeq (kRegion K64r1 [5]) (kSeq (kSeq (kRegion K64r2 [8,9,10]) (kBlock 0 (kLoop K64l0))) (kSeq (kRegion K64r8 [4]) kRet))))
theorem enter64 (cl:CallF) (a0 a1:AV) (s:St):enterA Try.prog X cl 64 [a0,a1] s Try.f64=finA Try.prog Try.f64 (K64 cl ⟨64,none,Try.f64.ntmps,X 64⟩ (paramsEnv 0 [a0,a1] .nil) [] s) :=
  enterA_eq (b:=Try.f64.body.getD .skip) (by kernel_rfl) (by kernel_rfl) (by kernel_rfl) (by kernel_rfl) (by kernel_rfl)
end
end Go.Proofs.Ytoklbkgcclkejaa.code
set_option maxRecDepth 100000
namespace Go.Proofs.Ytoklbkgcclkejaa.code
open Go.Abs
noncomputable section
def K14r0:OpsF:=(oVal (.tmp 2) (kBox (tag 30) (.tmp 0)) (oVal (.tmp 4) (kMove (.con (.int .i64 0))) (oVal (.tmp 5) (kMove (.con (.int .i64 0))) oNil)))
def K14r1:OpsF:=(oVal (.tmp 7) (kLoad (some 8) (.tmp 2)) (oVal (.tmp 8) (kMove (.tmp 1)) (oCall (.tmp 9) (.con (.func 43 [] [])) [(.tmp 7),(.tmp 8)] (oVal (.tmp 6) (kMove (.tmp 9)) oNil))))
def K14r2:OpsF:=(oVal (.tmp 10) (kMove (.tmp 6)) (oVal (.tmp 11) (kInt aNeq (.tmp 10) (.con (.int .i64 0))) oNil))
def K14r3:OpsF:=(oVal (.tmp 12) (kMove (.tmp 6)) (oVal (.tmp 4) (kMove (.con (.int .i64 0))) (oVal (.tmp 5) (kMove (.tmp 12)) oNil)))
def K14r4:OpsF:=(oVal (.tmp 13) (kLoad (some 8) (.tmp 2)) (oCall (.tmp 14) (.con (.func 44 [] [])) [(.tmp 13)] (oVal (.tmp 15) (kMove (.tmp 1)) (oCall (.tmp 16) (.con (.func 46 [] [])) [(.tmp 14),(.tmp 15)] (oVal (.tmp 4) (kMove (.tmp 16)) (oVal (.tmp 5) (kMove (.con (.int .i64 0))) oNil))))))
theorem res14:Try.f14.results.toList=[.tmp 4,.tmp 5]:=by kernel_rfl
def K14:K:=(kSeq (kRegion K14r0 [2,4,5]) (kSeq (kSeq (kRegion K14r1 [6]) (kSeq (kRegion K14r2 [11]) (kCond (.tmp 11) (kSeq (kRegion K14r3 [4,5]) kRet) kSkip))) (kSeq (kRegion K14r4 [4,5]) kRet)))
theorem enter14 (cl:CallF) (a0 a1:AV) (s:St):enterA Try.prog X cl 14 [a0,a1] s Try.f14=finA Try.prog Try.f14 (K14 cl ⟨14,none,Try.f14.ntmps,X 14⟩ (paramsEnv 0 [a0,a1] .nil) [] s) :=
  enterA_eq (b:=Try.f14.body.getD .skip) (by kernel_rfl) (by kernel_rfl) (by kernel_rfl) (by kernel_rfl) (by kernel_rfl)
def K45r0:OpsF:=(oVal (.tmp 4) (kMove (.con .nilslice)) oNil)
def K45r1:OpsF:=(oVal (.tmp 9) (kMove (.tmp 0)) (oVal (.tmp 10) (kUn nilA (.tmp 9)) (oVal (.tmp 11) (kUn (fadA 0) (.tmp 10)) (oVal (.tmp 12) (kUn (fadA 6) (.tmp 11)) (oVal (.tmp 13) (kLoad none (.tmp 12)) (oVal (.tmp 14) (kUn lenSlA (.tmp 13)) (oVal (.tmp 15) (kMake [(.int .i64 0),(.int .i64 0)] 16 (.tmp 14) (.tmp 14)) (oVal (.tmp 5) (kMove (.tmp 15)) oNil))))))))
def K45r2:OpsF:=(oVal (.tmp 16) (kMove (.tmp 1)) (oVal (.tmp 17) (kUn lenSlA (.tmp 16)) (oVal (.tmp 18) (kMove (.con (.int .i64 0))) oNil)))
def K45r3:OpsF:=(oVal (.tmp 19) (kInt aLss (.tmp 18) (.tmp 17)) oNil)
def K45r4:OpsF:=(oVal (.tmp 20) (kTwo (ixsA 3) (.tmp 16) (.tmp 18)) (oVal (.tmp 21) (kLoad (some 3) (.tmp 20)) (oVal (.tmp 7) (kAlloc [(.int .i64 0),(.int .i64 0),(.int .i64 0)] (tag 51)) (oVal .none (kStore 3 (.tmp 7) (.tmp 21)) oNil))))
def K45r5:OpsF:=(oVal (.tmp 22) (kMove (.tmp 0)) (oVal (.tmp 23) (kLoad (some 3) (.tmp 7)) (oCall (.tmp 24) (.con (.func 72 [] [])) [(.tmp 22),(.tmp 23)] (oVal (.tmp 25) (kUn (fldA none 2) (.tmp 24)) (oVal (.tmp 8) (kMove (.tmp 25)) oNil)))))
def K45r6:OpsF:=(oEnd [] (oVal (.tmp 26) (kMove (.tmp 5)) (oVal (.tmp 27) (kMove (.tmp 8)) (oVal (.tmp 28) (kMove (.tmp 5)) (oVal (.tmp 29) (kMove (.tmp 8)) (oVal (.tmp 30) (kTwo (ixsA 2) (.tmp 28) (.tmp 29)) (oVal (.tmp 31) (kLoad (some 2) (.tmp 30)) (oVal (.tmp 32) (kMove (.tmp 0)) (oVal (.tmp 33) (kLoad (some 3) (.tmp 7)) (oCallT (some [30]) (.tmp 34) (.con (.func 74 [] [])) [(.tmp 32),(.tmp 33)] (oVal (.tmp 35) (kUn (fldA (some 2) 0) (.tmp 34)) (oVal (.tmp 36) (kBuildSlice [(.int .i64 0),(.int .i64 0),(.int .i64 0),(.int .i64 0)] 2 [(0,2,(.tmp 31)),(2,2,(.tmp 35))]) (oCall (.tmp 37) (.con (.func 73 [] [])) [(.tmp 36)] (oVal (.tmp 38) (kTwo (ixsA 2) (.tmp 26) (.tmp 27)) (oVal .none (kStore 2 (.tmp 38) (.tmp 37)) oNil)))))))))))))))
def K45r7:OpsF:=(oVal (.tmp 39) (kInt aAdd (.tmp 18) (.con (.int .i64 1))) (oVal (.tmp 18) (kMove (.tmp 39)) oNil))
def K45l0:K:=(kSeq (kRegion K45r3 [19]) (kSeq (kCond (.tmp 19) kSkip (kExit 0)) (kSeq (kBlock 1 (kSeq (kRegion K45r4 [7]) (kSeq (kRegion K45r5 [8]) (kRegionD K45r6 [])))) (kRegion K45r7 [18]))))
def K45r8:OpsF:=(oVal (.tmp 40) (kMove (.tmp 5)) (oVal (.tmp 4) (kMove (.tmp 40)) oNil))
theorem res45:Try.f45.results.toList=[.tmp 4]:=by kernel_rfl
def K45:K:=(kSeq (kRegion K45r0 [4]) (kSeq (kRegion K45r1 [5]) (kSeq (kSeq (kRegion K45r2 [16,17,18]) (kBlock 0 (kLoop K45l0))) (kSeq (kRegion K45r8 [4]) kRet))))
theorem enter45 (cl:CallF) (a0 a1:AV) (s:St):enterA Try.prog X cl 45 [a0,a1] s Try.f45=finA Try.prog Try.f45 (K45 cl ⟨45,none,Try.f45.ntmps,X 45⟩ (paramsEnv 0 [a0,a1] .nil) [] s) :=
  enterA_eq (b:=Try.f45.body.getD .skip) (by kernel_rfl) (by kernel_rfl) (by kernel_rfl) (by kernel_rfl) (by kernel_rfl)
def K46r0:OpsF:=(oVal (.tmp 4) (kMove (.con (.int .i64 0))) oNil)
def K46r1:OpsF:=(oVal (.tmp 5) (kMove (.con (.int .i64 1))) oNil)
def K46r2:OpsF:=(oVal (.tmp 8) (kMove (.tmp 0)) (oVal (.tmp 9) (kMove (.tmp 1)) (oCall (.tmp 10) (.con (.func 45 [] [])) [(.tmp 8),(.tmp 9)] (oVal (.tmp 11) (kUn lenSlA (.tmp 10)) (oVal (.tmp 12) (kMove (.con (.int .i64 0))) oNil)))))
def K46r3:OpsF:=(oVal (.tmp 13) (kInt aLss (.tmp 12) (.tmp 11)) oNil)
def K46r4:OpsF:=(oVal (.tmp 14) (kMove (.tmp 12)) (oVal (.tmp 15) (kTwo (ixsA 2) (.tmp 10) (.tmp 12)) (oVal (.tmp 16) (kLoad (some 2) (.tmp 15)) (oVal (.tmp 7) (kAlloc [(.int .i64 0),(.int .i64 0)] (tag 44)) (oVal (.tmp 6) (kMove (.tmp 14)) (oVal .none (kStore 2 (.tmp 7) (.tmp 16)) oNil))))))
def K46r5:OpsF:=(oEnd [] (oVal (.tmp 17) (kUn (fadA 0) (.tmp 7)) (oVal (.tmp 18) (kLoad none (.tmp 17)) (oVal (.tmp 19) (kMove (.tmp 0)) (oVal (.tmp 20) (kUn nilA (.tmp 19)) (oVal (.tmp 21) (kUn (fadA 0) (.tmp 20)) (oVal (.tmp 22) (kUn (fadA 6) (.tmp 21)) (oVal (.tmp 23) (kLoad none (.tmp 22)) (oVal (.tmp 24) (kMove (.tmp 6)) (oVal (.tmp 25) (kTwo (ixsA 1) (.tmp 23) (.tmp 24)) (oVal (.tmp 26) (kLoad none (.tmp 25)) (oVal (.tmp 27) (kGtr (.tmp 18) (.tmp 26)) oNil))))))))))))
def K46r6:OpsF:=(oVal (.tmp 4) (kMove (.con (.int .i64 2))) oNil)
def K46r7:OpsF:=(oEnd [] (oVal (.tmp 28) (kUn (fadA 1) (.tmp 7)) (oVal (.tmp 29) (kLoad none (.tmp 28)) (oVal (.tmp 30) (kMove (.tmp 0)) (oVal (.tmp 31) (kUn nilA (.tmp 30)) (oVal (.tmp 32) (kUn (fadA 0) (.tmp 31)) (oVal (.tmp 33) (kUn (fadA 6) (.tmp 32)) (oVal (.tmp 34) (kLoad none (.tmp 33)) (oVal (.tmp 35) (kMove (.tmp 6)) (oVal (.tmp 36) (kTwo (ixsA 1) (.tmp 34) (.tmp 35)) (oVal (.tmp 37) (kLoad none (.tmp 36)) (oVal (.tmp 38) (kGtr (.tmp 29) (.tmp 37)) oNil))))))))))))
def K46r8:OpsF:=(oVal (.tmp 5) (kMove (.con (.int .i64 3))) oNil)
def K46r9:OpsF:=(oVal (.tmp 39) (kInt aAdd (.tmp 12) (.con (.int .i64 1))) (oVal (.tmp 12) (kMove (.tmp 39)) oNil))
def K46l0:K:=(kSeq (kRegion K46r3 [13]) (kSeq (kCond (.tmp 13) kSkip (kExit 0)) (kSeq (kBlock 1 (kSeq (kRegion K46r4 [7,6]) (kSeq (kSeq (kRegionD K46r5 [27]) (kCond (.tmp 27) (kSeq (kRegion K46r6 [4]) kRet) kSkip)) (kSeq (kRegionD K46r7 [38]) (kCond (.tmp 38) (kRegion K46r8 [5]) kSkip))))) (kRegion K46r9 [12]))))
def K46r10:OpsF:=(oVal (.tmp 40) (kMove (.tmp 5)) (oVal (.tmp 4) (kMove (.tmp 40)) oNil))
theorem res46:Try.f46.results.toList=[.tmp 4]:=by kernel_rfl
def K46:K:=(kSeq (kRegion K46r0 [4]) (kSeq (kRegion K46r1 [5]) (kSeq (kSeq (kRegion K46r2 [10,11,12]) (kBlock 0 (kLoop K46l0))) (kSeq (kRegion K46r10 [4]) kRet))))
theorem enter46 (cl:CallF) (a0 a1:AV) (s:St):enterA Try.prog X cl 46 [a0,a1] s Try.f46=finA Try.prog Try.f46 (K46 cl ⟨46,none,Try.f46.ntmps,X 46⟩ (paramsEnv 0 [a0,a1] .nil) [] s) :=
  enterA_eq (b:=Try.f46.body.getD .skip) (by kernel_rfl) (by kernel_rfl) (by kernel_rfl) (by kernel_rfl) (by kernel_rfl)
def K73r0:OpsF:=(oVal (.tmp 2) (kAlloc [(.int .i64 0),(.int .i64 0)] (tag 44)) oNil)
def K73r1:OpsF:=(oVal (.tmp 3) (kAlloc [(.int .i64 0),(.int .i64 0)] (tag 44)) oNil)
def K73r2:OpsF:=(oVal (.tmp 6) (kMove (.tmp 0)) (oVal (.tmp 7) (kUn lenSlA (.tmp 6)) (oVal (.tmp 8) (kMove (.con (.int .i64 0))) oNil)))
def K73r3:OpsF:=(oVal (.tmp 9) (kInt aLss (.tmp 8) (.tmp 7)) oNil)
def K73r4:OpsF:=(oVal (.tmp 10) (kTwo (ixsA 2) (.tmp 6) (.tmp 8)) (oVal (.tmp 11) (kLoad (some 2) (.tmp 10)) (oVal (.tmp 5) (kAlloc [(.int .i64 0),(.int .i64 0)] (tag 44)) (oVal .none (kStore 2 (.tmp 5) (.tmp 11)) oNil))))
def K73r5:OpsF:=(oVal (.tmp 12) (kUn (fadA 0) (.tmp 3)) (oVal (.tmp 13) (kLoad none (.tmp 12)) (oVal (.tmp 14) (kUn (fadA 0) (.tmp 5)) (oVal (.tmp 15) (kLoad none (.tmp 14)) (oVal (.tmp 16) (kInt aAdd (.tmp 13) (.tmp 15)) (oVal (.tmp 17) (kUn (fadA 0) (.tmp 3)) (oVal .none (kStore 1 (.tmp 17) (.tmp 16)) oNil)))))))
def K73r6:OpsF:=(oVal (.tmp 18) (kUn (fadA 1) (.tmp 3)) (oVal (.tmp 19) (kLoad none (.tmp 18)) (oVal (.tmp 20) (kUn (fadA 1) (.tmp 5)) (oVal (.tmp 21) (kLoad none (.tmp 20)) (oVal (.tmp 22) (kInt aAdd (.tmp 19) (.tmp 21)) (oVal (.tmp 23) (kUn (fadA 1) (.tmp 3)) (oVal .none (kStore 1 (.tmp 23) (.tmp 22)) oNil)))))))
def K73r7:OpsF:=(oVal (.tmp 24) (kInt aAdd (.tmp 8) (.con (.int .i64 1))) (oVal (.tmp 8) (kMove (.tmp 24)) oNil))
def K73l0:K:=(kSeq (kRegion K73r3 [9]) (kSeq (kCond (.tmp 9) kSkip (kExit 0)) (kSeq (kBlock 1 (kSeq (kRegion K73r4 [5]) (kSeq (kRegion K73r5 []) (kRegion K73r6 [])))) (kRegion K73r7 [8]))))
def K73r8:OpsF:=(oVal (.tmp 25) (kLoad (some 2) (.tmp 3)) (oVal .none (kStore 2 (.tmp 2) (.tmp 25)) oNil))
theorem res73:Try.f73.results.toList=[.cell 2 44]:=by kernel_rfl
def K73:K:=(kSeq (kRegion K73r0 [2]) (kSeq (kRegion K73r1 [3]) (kSeq (kSeq (kRegion K73r2 [6,7,8]) (kBlock 0 (kLoop K73l0))) (kSeq (kRegion K73r8 []) kRet))))
theorem enter73 (cl:CallF) (a0:AV) (s:St):enterA Try.prog X cl 73 [a0] s Try.f73=finA Try.prog Try.f73 (K73 cl ⟨73,none,Try.f73.ntmps,X 73⟩ (paramsEnv 0 [a0] .nil) [] s) :=
  enterA_eq (b:=Try.f73.body.getD .skip) (by kernel_rfl) (by kernel_rfl) (by kernel_rfl) (by kernel_rfl) (by kernel_rfl)
end
end Go.Proofs.Ytoklbkgcclkejaa.code
set_option maxRecDepth 100000
namespace Go.Proofs.Ytoklbkgcclkejaa.code
open Go.Abs
noncomputable section
def K39r0:OpsF:=(oVal (.tmp 2) (kMove (.con (.int .u64 0))) oNil)
def K39r1:OpsF:=(oVal (.tmp 4) (kMove (.tmp 0)) (oVal (.tmp 5) (kMove (.tmp 0)) (oVal (.tmp 6) (kUn nilA (.tmp 5)) (oVal (.tmp 7) (kUn (fadA 0) (.tmp 6)) (oVal (.tmp 8) (kLoad none (.tmp 7)) (oVal (.tmp 9) (kInt aAdd (.tmp 8) (.con (.int .u64 11562461410679940143))) (oVal (.tmp 10) (kUn nilA (.tmp 4)) (oVal (.tmp 11) (kUn (fadA 0) (.tmp 10)) (oVal .none (kStore 1 (.tmp 11) (.tmp 9)) oNil)))))))))
def K39r2:OpsF:=(oVal (.tmp 12) (kMove (.tmp 0)) (oVal (.tmp 13) (kUn nilA (.tmp 12)) (oVal (.tmp 14) (kUn (fadA 0) (.tmp 13)) (oVal (.tmp 15) (kLoad none (.tmp 14)) (oVal (.tmp 3) (kMove (.tmp 15)) oNil)))))
def K39r3:OpsF:=(oVal (.tmp 16) (kMove (.tmp 3)) (oVal (.tmp 17) (kMove (.tmp 3)) (oVal (.tmp 18) (kShr (.tmp 17) (.con (.int .u64 30))) (oVal (.tmp 19) (kInt aXor (.tmp 16) (.tmp 18)) (oVal (.tmp 20) (kInt aMul (.tmp 19) (.con (.int .u64 13787848793156543929))) (oVal (.tmp 3) (kMove (.tmp 20)) oNil))))))
def K39r4:OpsF:=(oVal (.tmp 21) (kMove (.tmp 3)) (oVal (.tmp 22) (kMove (.tmp 3)) (oVal (.tmp 23) (kShr (.tmp 22) (.con (.int .u64 27))) (oVal (.tmp 24) (kInt aXor (.tmp 21) (.tmp 23)) (oVal (.tmp 25) (kInt aMul (.tmp 24) (.con (.int .u64 10723151780598845931))) (oVal (.tmp 3) (kMove (.tmp 25)) oNil))))))
def K39r5:OpsF:=(oVal (.tmp 26) (kMove (.tmp 3)) (oVal (.tmp 27) (kMove (.tmp 3)) (oVal (.tmp 28) (kShr (.tmp 27) (.con (.int .u64 31))) (oVal (.tmp 29) (kInt aXor (.tmp 26) (.tmp 28)) (oVal (.tmp 2) (kMove (.tmp 29)) oNil)))))
theorem res39:Try.f39.results.toList=[.tmp 2]:=by kernel_rfl
def K39:K:=(kSeq (kRegion K39r0 [2]) (kSeq (kRegion K39r1 []) (kSeq (kRegion K39r2 [3]) (kSeq (kRegion K39r3 [3]) (kSeq (kRegion K39r4 [3]) (kSeq (kRegion K39r5 [2]) kRet))))))
theorem enter39 (cl:CallF) (a0:AV) (s:St):enterA Try.prog X cl 39 [a0] s Try.f39=finA Try.prog Try.f39 (K39 cl ⟨39,none,Try.f39.ntmps,X 39⟩ (paramsEnv 0 [a0] .nil) [] s) :=
  enterA_eq (b:=Try.f39.body.getD .skip) (by kernel_rfl) (by kernel_rfl) (by kernel_rfl) (by kernel_rfl) (by kernel_rfl)
def K25r0:OpsF:=(oVal (.tmp 4) (kMove (.con (.int .i64 0))) oNil)
def K25r1:OpsF:=(oVal (.tmp 5) (kMove (.tmp 1)) (oVal (.tmp 6) (kInt aLss (.tmp 5) (.con (.int .i64 2))) oNil))
def K25r2:OpsF:=(oVal (.tmp 4) (kMove (.con (.int .i64 0))) oNil)
def K25r3:OpsF:=(oVal (.tmp 7) (kMove (.tmp 0)) (oCall (.tmp 8) (.con (.func 39 [] [])) [(.tmp 7)] (oVal (.tmp 9) (kShr (.tmp 8) (.con (.int .u64 2))) (oVal (.tmp 10) (kMove (.tmp 1)) (oVal (.tmp 11) (kUn (cviA .u64) (.tmp 10)) (oVal (.tmp 12) (kInt aRem (.tmp 9) (.tmp 11)) (oVal (.tmp 13) (kUn (cviA .i64) (.tmp 12)) (oVal (.tmp 4) (kMove (.tmp 13)) oNil))))))))
theorem res25:Try.f25.results.toList=[.tmp 4]:=by kernel_rfl
def K25:K:=(kSeq (kRegion K25r0 [4]) (kSeq (kSeq (kRegion K25r1 [6]) (kCond (.tmp 6) (kSeq (kRegion K25r2 [4]) kRet) kSkip)) (kSeq (kRegion K25r3 [4]) kRet)))
theorem enter25 (cl:CallF) (a0 a1:AV) (s:St):enterA Try.prog X cl 25 [a0,a1] s Try.f25=finA Try.prog Try.f25 (K25 cl ⟨25,none,Try.f25.ntmps,X 25⟩ (paramsEnv 0 [a0,a1] .nil) [] s) :=
  enterA_eq (b:=Try.f25.body.getD .skip) (by kernel_rfl) (by kernel_rfl) (by kernel_rfl) (by kernel_rfl) (by kernel_rfl)
def K35r0:OpsF:=(oVal (.tmp 6) (kMove (.con (.int .i64 0))) oNil)
def K35r1:OpsF:=(oVal (.tmp 7) (kMove (.tmp 1)) (oVal (.tmp 8) (kMove (.tmp 0)) (oVal (.tmp 9) (kMove (.tmp 2)) (oVal (.tmp 10) (kMove (.tmp 1)) (oVal (.tmp 11) (kInt aSub (.tmp 9) (.tmp 10)) (oVal (.tmp 12) (kInt aAdd (.tmp 11) (.con (.int .i64 1))) (oCall (.tmp 13) (.con (.func 25 [] [])) [(.tmp 8),(.tmp 12)] (oVal (.tmp 14) (kInt aAdd (.tmp 7) (.tmp 13)) (oVal (.tmp 6) (kMove (.tmp 14)) oNil)))))))))
theorem res35:Try.f35.results.toList=[.tmp 6]:=by kernel_rfl
def K35:K:=(kSeq (kRegion K35r0 [6]) (kSeq (kRegion K35r1 [6]) kRet))
theorem enter35 (cl:CallF) (a0 a1 a2:AV) (s:St):enterA Try.prog X cl 35 [a0,a1,a2] s Try.f35=finA Try.prog Try.f35 (K35 cl ⟨35,none,Try.f35.ntmps,X 35⟩ (paramsEnv 0 [a0,a1,a2] .nil) [] s) :=
  enterA_eq (b:=Try.f35.body.getD .skip) (by kernel_rfl) (by kernel_rfl) (by kernel_rfl) (by kernel_rfl) (by kernel_rfl)
def K22r0:OpsF:=(oVal (.tmp 4) (kMove (.con (.bool false))) oNil)
def K22r1:OpsF:=(oVal (.tmp 5) (kMove (.tmp 0)) (oVal (.tmp 6) (kMove (.tmp 1)) (oCall (.tmp 7) (.con (.func 25 [] [])) [(.tmp 5),(.tmp 6)] (oVal (.tmp 8) (kInt aEql (.tmp 7) (.con (.int .i64 0))) (oVal (.tmp 4) (kMove (.tmp 8)) oNil)))))
theorem res22:Try.f22.results.toList=[.tmp 4]:=by kernel_rfl
def K22:K:=(kSeq (kRegion K22r0 [4]) (kSeq (kRegion K22r1 [4]) kRet))
theorem enter22 (cl:CallF) (a0 a1:AV) (s:St):enterA Try.prog X cl 22 [a0,a1] s Try.f22=finA Try.prog Try.f22 (K22 cl ⟨22,none,Try.f22.ntmps,X 22⟩ (paramsEnv 0 [a0,a1] .nil) [] s) :=
  enterA_eq (b:=Try.f22.body.getD .skip) (by kernel_rfl) (by kernel_rfl) (by kernel_rfl) (by kernel_rfl) (by kernel_rfl)
def K34r0:OpsF:=(oVal (.tmp 4) (kMove (.con (.int .i64 0))) oNil)
def K34r1:OpsF:=(oVal (.tmp 5) (kMove (.tmp 1)) (oVal (.tmp 6) (kUn lenSlA (.tmp 5)) (oVal (.tmp 7) (kInt aEql (.tmp 6) (.con (.int .i64 0))) oNil)))
def K34r2:OpsF:=(oVal (.tmp 4) (kMove (.con (.int .i64 0))) oNil)
def K34r3:OpsF:=(oVal (.tmp 8) (kMove (.tmp 1)) (oVal (.tmp 9) (kMove (.tmp 0)) (oVal (.tmp 10) (kMove (.tmp 1)) (oVal (.tmp 11) (kUn lenSlA (.tmp 10)) (oCall (.tmp 12) (.con (.func 25 [] [])) [(.tmp 9),(.tmp 11)] (oVal (.tmp 13) (kTwo (ixsA 1) (.tmp 8) (.tmp 12)) (oVal (.tmp 14) (kLoad none (.tmp 13)) (oVal (.tmp 4) (kMove (.tmp 14)) oNil))))))))
theorem res34:Try.f34.results.toList=[.tmp 4]:=by kernel_rfl
def K34:K:=(kSeq (kRegion K34r0 [4]) (kSeq (kSeq (kRegion K34r1 [7]) (kCond (.tmp 7) (kSeq (kRegion K34r2 [4]) kRet) kSkip)) (kSeq (kRegion K34r3 [4]) kRet)))
theorem enter34 (cl:CallF) (a0 a1:AV) (s:St):enterA Try.prog X cl 34 [a0,a1] s Try.f34=finA Try.prog Try.f34 (K34 cl ⟨34,none,Try.f34.ntmps,X 34⟩ (paramsEnv 0 [a0,a1] .nil) [] s) :=
  enterA_eq (b:=Try.f34.body.getD .skip) (by kernel_rfl) (by kernel_rfl) (by kernel_rfl) (by kernel_rfl) (by kernel_rfl)
def K41r0:OpsF:=(oVal (.tmp 6) (kAlloc [(.int .i64 0),(.int .i64 0)] (tag 44)) oNil)
def K41r1:OpsF:=(oVal (.tmp 9) (kMove (.tmp 0)) (oVal (.tmp 10) (kMove (.tmp 1)) (oVal (.tmp 11) (kMove (.tmp 2)) (oCall (.tmp 12) (.con (.func 35 [] [])) [(.tmp 9),(.tmp 10),(.tmp 11)] (oVal (.tmp 7) (kMove (.tmp 12)) oNil)))))
def K41r2:OpsF:=(oVal (.tmp 13) (kMove (.tmp 0)) (oVal (.tmp 14) (kMove (.tmp 7)) (oVal (.tmp 15) (kMove (.tmp 2)) (oVal (.tmp 16) (kMove (.tmp 7)) (oVal (.tmp 17) (kInt aAdd (.tmp 16) (.con (.int .i64 4))) (oVal (.tmp 18) (kFold minA (.tmp 15) [(.tmp 17)]) (oVal (.tmp 19) (kMove (.tmp 2)) (oVal (.tmp 20) (kBuildSlice [(.int .i64 0),(.int .i64 0),(.int .i64 0)] 3 [(0,1,(.tmp 14)),(1,1,(.tmp 18)),(2,1,(.tmp 19))]) (oCall (.tmp 21) (.con (.func 34 [] [])) [(.tmp 13),(.tmp 20)] (oVal (.tmp 8) (kMove (.tmp 21)) oNil))))))))))
def K41r3:OpsF:=(oVal (.tmp 22) (kMove (.tmp 7)) (oVal (.tmp 23) (kMove (.tmp 0)) (oVal (.tmp 24) (kMove (.tmp 7)) (oVal (.tmp 25) (kMove (.tmp 8)) (oCall (.tmp 26) (.con (.func 35 [] [])) [(.tmp 23),(.tmp 24),(.tmp 25)] (oVal (.tmp 27) (kBuild [(.int .i64 0),(.int .i64 0)] [(0,1,(.tmp 22)),(1,1,(.tmp 26))]) (oVal .none (kStore 2 (.tmp 6) (.tmp 27)) oNil)))))))
theorem res41:Try.f41.results.toList=[.cell 6 44]:=by kernel_rfl
def K41:K:=(kSeq (kRegion K41r0 [6]) (kSeq (kRegion K41r1 [7]) (kSeq (kRegion K41r2 [8]) (kSeq (kRegion K41r3 []) kRet))))
theorem enter41 (cl:CallF) (a0 a1 a2:AV) (s:St):enterA Try.prog X cl 41 [a0,a1,a2] s Try.f41=finA Try.prog Try.f41 (K41 cl ⟨41,none,Try.f41.ntmps,X 41⟩ (paramsEnv 0 [a0,a1,a2] .nil) [] s) :=
  enterA_eq (b:=Try.f41.body.getD .skip) (by kernel_rfl) (by kernel_rfl) (by kernel_rfl) (by kernel_rfl) (by kernel_rfl)
def K21r0:OpsF:=(oVal (.tmp 4) (kMove (.con .nilslice)) oNil)
def K21r1:OpsF:=(oVal (.tmp 8) (kMove (.tmp 1)) (oVal (.tmp 9) (kFold maxA (.con (.int .i64 0)) [(.tmp 8)]) (oVal (.tmp 10) (kMake [(.int .i64 0)] 8 (.tmp 9) (.tmp 9)) (oVal (.tmp 5) (kMove (.tmp 10)) oNil))))
def K21r2:OpsF:=(oVal (.tmp 6) (kMove (.con (.int .i64 0))) oNil)
def K21r3:OpsF:=(oVal (.tmp 11) (kMove (.tmp 6)) (oVal (.tmp 12) (kMove (.tmp 5)) (oVal (.tmp 13) (kUn lenSlA (.tmp 12)) (oVal (.tmp 14) (kInt aLss (.tmp 11) (.tmp 13)) oNil))))
def K21r4:OpsF:=(oVal (.tmp 17) (kMove (.tmp 0)) (oVal (.tmp 18) (kMove (.tmp 6)) (oVal (.tmp 19) (kInt aAdd (.tmp 18) (.con (.int .i64 1))) (oCall (.tmp 20) (.con (.func 25 [] [])) [(.tmp 17),(.tmp 19)] (oVal (.tmp 7) (kMove (.tmp 20)) oNil)))))
def K21r5:OpsF:=(oVal (.tmp 21) (kMove (.tmp 5)) (oVal (.tmp 22) (kMove (.tmp 6)) (oVal (.tmp 23) (kMove (.tmp 5)) (oVal (.tmp 24) (kMove (.tmp 7)) (oVal (.tmp 25) (kTwo (ixsA 1) (.tmp 23) (.tmp 24)) (oVal (.tmp 26) (kLoad none (.tmp 25)) (oVal (.tmp 27) (kTwo (ixsA 1) (.tmp 21) (.tmp 22)) (oVal .none (kStore 1 (.tmp 27) (.tmp 26)) oNil))))))))
def K21r6:OpsF:=(oVal (.tmp 28) (kMove (.tmp 5)) (oVal (.tmp 29) (kMove (.tmp 7)) (oVal (.tmp 30) (kMove (.tmp 6)) (oVal (.tmp 31) (kTwo (ixsA 1) (.tmp 28) (.tmp 29)) (oVal .none (kStore 1 (.tmp 31) (.tmp 30)) oNil)))))
def K21r7:OpsF:=(oVal (.tmp 15) (kMove (.tmp 6)) (oVal (.tmp 16) (kInt aAdd (.tmp 15) (.con (.int .i64 1))) (oVal (.tmp 6) (kMove (.tmp 16)) oNil)))
def K21l0:K:=(kSeq (kSeq (kRegion K21r3 [14]) (kCond (.tmp 14) kSkip (kExit 0))) (kSeq (kBlock 1 (kSeq (kRegion K21r4 [7]) (kSeq (kRegion K21r5 []) (kRegion K21r6 [])))) (kRegion K21r7 [6])))
def K21r8:OpsF:=(oVal (.tmp 32) (kMove (.tmp 5)) (oVal (.tmp 4) (kMove (.tmp 32)) oNil))
theorem res21:Try.f21.results.toList=[.tmp 4]:=by kernel_rfl
def K21:K:=(kSeq (kRegion K21r0 [4]) (kSeq (kRegion K21r1 [5]) (kSeq (kSeq (kRegion K21r2 [6]) (kBlock 0 (kLoop K21l0))) (kSeq (kRegion K21r8 [4]) kRet))))
theorem enter21 (cl:CallF) (a0 a1:AV) (s:St):enterA Try.prog X cl 21 [a0,a1] s Try.f21=finA Try.prog Try.f21 (K21 cl ⟨21,none,Try.f21.ntmps,X 21⟩ (paramsEnv 0 [a0,a1] .nil) [] s) :=
  enterA_eq (b:=Try.f21.body.getD .skip) (by kernel_rfl) (by kernel_rfl) (by kernel_rfl) (by kernel_rfl) (by kernel_rfl)
end
end Go.Proofs.Ytoklbkgcclkejaa.code
set_option maxRecDepth 100000
namespace Go.Proofs.Ytoklbkgcclkejaa.code
open Go.Abs
noncomputable section
def K11r0:OpsF:=(oVal (.tmp 8) (kAlloc [(.int .i64 0),(.int .i64 0),.nilslice,.nilslice,(.int .i64 0),(.int .i64 0),.nilslice,.nilslice] (tag 30)) oNil)
def K11r1:OpsF:=(oVal (.tmp 17) (kMove (.tmp 0)) (oVal (.tmp 18) (kMove (.tmp 1)) (oCall (.tmp 19) (.con (.func 35 [] [])) [(.tmp 17),(.con (.int .i64 1)),(.tmp 18)] (oVal (.tmp 20) (kMove (.tmp 0)) (oVal (.tmp 21) (kMove (.tmp 2)) (oCall (.tmp 22) (.con (.func 35 [] [])) [(.tmp 20),(.con (.int .i64 1)),(.tmp 21)] (oVal (.tmp 23) (kBuild [(.int .i64 0),(.int .i64 0),.nilslice,.nilslice,(.int .i64 0),(.int .i64 0),.nilslice,.nilslice] [(0,1,(.tmp 19)),(1,1,(.tmp 22))]) (oVal (.tmp 9) (kAlloc [(.int .i64 0),(.int .i64 0),.nilslice,.nilslice,(.int .i64 0),(.int .i64 0),.nilslice,.nilslice] (tag 30)) (oVal .none (kStore 8 (.tmp 9) (.tmp 23)) oNil)))))))))
def K11r2:OpsF:=(oEnd [] (oVal (.tmp 24) (kMove (.tmp 0)) (oVal (.tmp 25) (kUn (fadA 0) (.tmp 9)) (oVal (.tmp 26) (kLoad none (.tmp 25)) (oCallT (some [29]) (.tmp 27) (.con (.func 35 [] [])) [(.tmp 24),(.con (.int .i64 1)),(.tmp 26)] (oVal (.tmp 28) (kMove (.tmp 0)) (oVal (.tmp 29) (kUn (fadA 1) (.tmp 9)) (oVal (.tmp 30) (kLoad none (.tmp 29)) (oCall (.tmp 31) (.con (.func 35 [] [])) [(.tmp 28),(.con (.int .i64 1)),(.tmp 30)] (oVal (.tmp 32) (kBuild [(.int .i64 0),(.int .i64 0)] [(0,1,(.tmp 27)),(1,1,(.tmp 31))]) (oVal (.tmp 33) (kUn (fadA 4) (.tmp 9)) (oVal .none (kStore 2 (.tmp 33) (.tmp 32)) oNil))))))))))))
def K11r3:OpsF:=(oVal (.tmp 34) (kLoad (some 8) (.tmp 9)) (oCall (.tmp 35) (.con (.func 40 [] [])) [(.tmp 34)] (oVal (.tmp 10) (kMove (.tmp 35)) oNil)))
def K11r4:OpsF:=(oVal (.tmp 11) (kMove (.con (.int .i64 0))) oNil)
def K11r5:OpsF:=(oVal (.tmp 36) (kMove (.tmp 11)) (oVal (.tmp 37) (kMove (.tmp 10)) (oVal (.tmp 38) (kUn lenSlA (.tmp 37)) (oVal (.tmp 39) (kInt aLss (.tmp 36) (.tmp 38)) oNil))))
def K11r6:OpsF:=(oVal (.tmp 42) (kMove (.tmp 0)) (oCall (.tmp 43) (.con (.func 22 [] [])) [(.tmp 42),(.con (.int .i64 2))] oNil))
def K11r7:OpsF:=(oEnd [] (oVal (.tmp 44) (kUn (fadA 2) (.tmp 9)) (oVal (.tmp 45) (kLoad none (.tmp 44)) (oVal (.tmp 46) (kMove (.tmp 10)) (oVal (.tmp 47) (kMove (.tmp 11)) (oVal (.tmp 48) (kTwo (ixsA 2) (.tmp 46) (.tmp 47)) (oVal (.tmp 49) (kLoad (some 2) (.tmp 48)) (oVal (.tmp 50) (kBuildSlice [(.int .i64 0),(.int .i64 0)] 1 [(0,2,(.tmp 49))]) (oVal (.tmp 51) (kTwo (appendA false 2 16 (tag 27)) (.tmp 45) (.tmp 50)) (oVal (.tmp 52) (kUn (fadA 2) (.tmp 9)) (oVal .none (kStore 1 (.tmp 52) (.tmp 51)) oNil)))))))))))
def K11r8:OpsF:=(oVal (.tmp 53) (kMove (.tmp 0)) (oCall (.tmp 54) (.con (.func 22 [] [])) [(.tmp 53),(.con (.int .i64 7))] oNil))
def K11r9:OpsF:=(oEnd [] (oVal (.tmp 55) (kUn (fadA 3) (.tmp 9)) (oVal (.tmp 56) (kLoad none (.tmp 55)) (oVal (.tmp 57) (kMove (.tmp 10)) (oVal (.tmp 58) (kMove (.tmp 11)) (oVal (.tmp 59) (kTwo (ixsA 2) (.tmp 57) (.tmp 58)) (oVal (.tmp 60) (kLoad (some 2) (.tmp 59)) (oVal (.tmp 61) (kBuildSlice [(.int .i64 0),(.int .i64 0)] 1 [(0,2,(.tmp 60))]) (oVal (.tmp 62) (kTwo (appendA false 2 16 (tag 27)) (.tmp 56) (.tmp 61)) (oVal (.tmp 63) (kUn (fadA 3) (.tmp 9)) (oVal .none (kStore 1 (.tmp 63) (.tmp 62)) oNil)))))))))))
def K11r10:OpsF:=(oVal (.tmp 40) (kMove (.tmp 11)) (oVal (.tmp 41) (kInt aAdd (.tmp 40) (.con (.int .i64 1))) (oVal (.tmp 11) (kMove (.tmp 41)) oNil)))
def K11l0:K:=(kSeq (kSeq (kRegion K11r5 [39]) (kCond (.tmp 39) kSkip (kExit 0))) (kSeq (kBlock 1 (kSeq (kSeq (kRegion K11r6 [43]) (kCond (.tmp 43) (kRegionD K11r7 []) kSkip)) (kSeq (kRegion K11r8 [54]) (kCond (.tmp 54) (kRegionD K11r9 []) kSkip)))) (kRegion K11r10 [11])))
def K11r11:OpsF:=(oVal (.tmp 64) (kLoad (some 8) (.tmp 9)) (oCall (.tmp 65) (.con (.func 36 [] [])) [(.tmp 64)] (oVal (.tmp 12) (kMove (.tmp 65)) oNil)))
def K11r12:OpsF:=(oVal (.tmp 66) (kMove (.tmp 12)) (oVal (.tmp 67) (kGtr (.tmp 66) (.con (.int .i64 0))) oNil))
def K11r13:OpsF:=(oEnd [] (oVal (.tmp 70) (kUn (fadA 6) (.tmp 9)) (oVal (.tmp 71) (kLoad none (.tmp 70)) (oVal (.tmp 72) (kMove (.tmp 0)) (oVal (.tmp 73) (kMove (.tmp 0)) (oCallT (some [70]) (.tmp 74) (.con (.func 25 [] [])) [(.tmp 73),(.con (.int .i64 40))] (oVal (.tmp 75) (kMove (.tmp 0)) (oCallT (some [70]) (.tmp 76) (.con (.func 25 [] [])) [(.tmp 75),(.con (.int .i64 120))] (oVal (.tmp 77) (kBuildSlice [(.int .i64 0),(.int .i64 0),(.int .i64 0)] 3 [(0,1,(.tmp 74)),(1,1,(.tmp 76)),(2,1,(.con (.int .i64 300)))]) (oCallT (some [70]) (.tmp 78) (.con (.func 34 [] [])) [(.tmp 72),(.tmp 77)] (oVal (.tmp 79) (kBuildSlice [(.int .i64 0)] 1 [(0,1,(.tmp 78))]) (oVal (.tmp 80) (kTwo (appendA false 1 8 (tag 3)) (.tmp 71) (.tmp 79)) (oVal (.tmp 81) (kUn (fadA 6) (.tmp 9)) (oVal .none (kStore 1 (.tmp 81) (.tmp 80)) oNil))))))))))))))
def K11r14:OpsF:=(oVal (.tmp 68) (kMove (.tmp 12)) (oVal (.tmp 69) (kInt aSub (.tmp 68) (.con (.int .i64 1))) (oVal (.tmp 12) (kMove (.tmp 69)) oNil)))
def K11l1:K:=(kSeq (kSeq (kRegion K11r12 [67]) (kCond (.tmp 67) kSkip (kExit 2))) (kSeq (kBlock 3 (kRegionD K11r13 [])) (kRegion K11r14 [12])))
def K11r15:OpsF:=(oVal (.tmp 82) (kMove (.tmp 0)) (oVal (.tmp 83) (kMove (.tmp 3)) (oCall (.tmp 84) (.con (.func 35 [] [])) [(.tmp 82),(.con (.int .i64 1)),(.tmp 83)] (oVal (.tmp 13) (kMove (.tmp 84)) oNil))))
def K11r16:OpsF:=(oVal (.tmp 14) (kMove (.con (.int .i64 0))) oNil)
def K11r17:OpsF:=(oVal (.tmp 85) (kMove (.tmp 14)) (oVal (.tmp 86) (kMove (.tmp 13)) (oVal (.tmp 87) (kInt aLss (.tmp 85) (.tmp 86)) oNil)))
def K11r18:OpsF:=(oVal (.tmp 90) (kMove (.tmp 0)) (oVal (.tmp 91) (kMove (.tmp 0)) (oVal (.tmp 92) (kBuildSlice [(.int .i64 0),(.int .i64 0)] 2 [(0,1,(.con (.int .i64 5))),(1,1,(.con (.int .i64 60)))]) (oCall (.tmp 93) (.con (.func 34 [] [])) [(.tmp 91),(.tmp 92)] (oCall (.tmp 94) (.con (.func 41 [] [])) [(.tmp 90),(.con (.int .i64 0)),(.tmp 93)] (oVal (.tmp 95) (kMove (.tmp 0)) (oCall (.tmp 96) (.con (.func 22 [] [])) [(.tmp 95),(.con (.int .i64 3))] (oVal (.tmp 97) (kMove (.tmp 0)) (oCall (.tmp 98) (.con (.func 25 [] [])) [(.tmp 97),(.con (.int .i64 50))] (oVal (.tmp 99) (kMove (.tmp 0)) (oCall (.tmp 100) (.con (.func 35 [] [])) [(.tmp 99),(.con (.int .i64 1)),(.con (.int .i64 5))] (oVal (.tmp 101) (kBuild [(.int .i64 0),(.int .i64 0),(.bool false),.nilslice,(.int .i64 0),(.int .i64 0)] [(0,2,(.tmp 94)),(2,1,(.tmp 96)),(4,1,(.tmp 98)),(5,1,(.tmp 100))]) (oVal (.tmp 15) (kAlloc [(.int .i64 0),(.int .i64 0),(.bool false),.nilslice,(.int .i64 0),(.int .i64 0)] (tag 49)) (oVal .none (kStore 6 (.tmp 15) (.tmp 101)) oNil))))))))))))))
def K11r19:OpsF:=(oVal (.tmp 16) (kMove (.con (.int .i64 0))) oNil)
def K11r20:OpsF:=(oVal (.tmp 102) (kMove (.tmp 16)) (oVal (.tmp 103) (kMove (.tmp 13)) (oVal (.tmp 104) (kInt aLss (.tmp 102) (.tmp 103)) oNil)))
def K11r21:OpsF:=(oEnd [] (oVal (.tmp 107) (kUn (fadA 3) (.tmp 15)) (oVal (.tmp 108) (kLoad none (.tmp 107)) (oVal (.tmp 109) (kMove (.tmp 0)) (oVal (.tmp 110) (kMove (.tmp 0)) (oCallT (some [107]) (.tmp 111) (.con (.func 25 [] [])) [(.tmp 110),(.con (.int .i64 4))] (oVal (.tmp 112) (kBuildSlice [(.int .i64 0),(.int .i64 0),(.int .i64 0)] 3 [(0,1,(.con (.int .i64 0))),(1,1,(.con (.int .i64 0))),(2,1,(.tmp 111))]) (oCallT (some [107]) (.tmp 113) (.con (.func 34 [] [])) [(.tmp 109),(.tmp 112)] (oVal (.tmp 114) (kBuildSlice [(.int .i64 0)] 1 [(0,1,(.tmp 113))]) (oVal (.tmp 115) (kTwo (appendA false 1 8 (tag 3)) (.tmp 108) (.tmp 114)) (oVal (.tmp 116) (kUn (fadA 3) (.tmp 15)) (oVal .none (kStore 1 (.tmp 116) (.tmp 115)) oNil))))))))))))
def K11r22:OpsF:=(oVal (.tmp 105) (kMove (.tmp 16)) (oVal (.tmp 106) (kInt aAdd (.tmp 105) (.con (.int .i64 1))) (oVal (.tmp 16) (kMove (.tmp 106)) oNil)))
def K11l2:K:=(kSeq (kSeq (kRegion K11r20 [104]) (kCond (.tmp 104) kSkip (kExit 6))) (kSeq (kBlock 7 (kRegionD K11r21 [])) (kRegion K11r22 [16])))
def K11r23:OpsF:=(oVal (.tmp 117) (kUn (fadA 7) (.tmp 9)) (oVal (.tmp 118) (kLoad none (.tmp 117)) (oVal (.tmp 119) (kLoad (some 6) (.tmp 15)) (oVal (.tmp 120) (kBuildSlice [(.int .i64 0),(.int .i64 0),(.bool false),.nilslice,(.int .i64 0),(.int .i64 0)] 1 [(0,6,(.tmp 119))]) (oVal (.tmp 121) (kTwo (appendA false 6 64 (tag 49)) (.tmp 118) (.tmp 120)) (oVal (.tmp 122) (kUn (fadA 7) (.tmp 9)) (oVal .none (kStore 1 (.tmp 122) (.tmp 121)) oNil)))))))
def K11r24:OpsF:=(oVal (.tmp 88) (kMove (.tmp 14)) (oVal (.tmp 89) (kInt aAdd (.tmp 88) (.con (.int .i64 1))) (oVal (.tmp 14) (kMove (.tmp 89)) oNil)))
def K11l3:K:=(kSeq (kSeq (kRegion K11r17 [87]) (kCond (.tmp 87) kSkip (kExit 4))) (kSeq (kBlock 5 (kSeq (kRegion K11r18 [15]) (kSeq (kSeq (kRegion K11r19 [16]) (kBlock 6 (kLoop K11l2))) (kRegion K11r23 [])))) (kRegion K11r24 [14])))
def K11r25:OpsF:=(oVal (.tmp 123) (kLoad (some 8) (.tmp 9)) (oVal .none (kStore 8 (.tmp 8) (.tmp 123)) oNil))
theorem res11:Try.f11.results.toList=[.cell 8 30]:=by kernel_rfl
def K11:K:=(kSeq (kRegion K11r0 [8]) (kSeq (kRegion K11r1 [9]) (kSeq (kRegionD K11r2 []) (kSeq (kRegion K11r3 [10]) (kSeq (kSeq (kRegion K11r4 [11]) (kBlock 0 (kLoop K11l0))) (kSeq (kSeq (kRegion K11r11 [12]) (kBlock 2 (kLoop K11l1))) (kSeq (kRegion K11r15 [13]) (kSeq (kSeq (kRegion K11r16 [14]) (kBlock 4 (kLoop K11l3))) (kSeq (kRegion K11r25 []) kRet)))))))))
theorem enter11 (cl:CallF) (a0 a1 a2 a3:AV) (s:St):enterA Try.prog X cl 11 [a0,a1,a2,a3] s Try.f11=finA Try.prog Try.f11 (K11 cl ⟨11,none,Try.f11.ntmps,X 11⟩ (paramsEnv 0 [a0,a1,a2,a3] .nil) [] s) :=
  enterA_eq (b:=Try.f11.body.getD .skip) (by kernel_rfl) (by kernel_rfl) (by kernel_rfl) (by kernel_rfl) (by kernel_rfl)
def K40r0:OpsF:=(oVal (.tmp 1) (kBox (tag 30) (.tmp 0)) (oVal (.tmp 2) (kMove (.con .nilslice)) oNil))
def K40r1:OpsF:=(oVal (.tmp 3) (kMove (.con .nilslice)) oNil)
def K40r2:OpsF:=(oVal (.tmp 4) (kMove (.con (.int .i64 0))) oNil)
def K40r3:OpsF:=(oVal (.tmp 6) (kMove (.tmp 4)) (oVal (.tmp 7) (kUn (fadA 1) (.tmp 1)) (oVal (.tmp 8) (kLoad none (.tmp 7)) (oVal (.tmp 9) (kInt aLss (.tmp 6) (.tmp 8)) oNil))))
def K40r4:OpsF:=(oVal (.tmp 5) (kMove (.con (.int .i64 0))) oNil)
def K40r5:OpsF:=(oVal (.tmp 12) (kMove (.tmp 5)) (oVal (.tmp 13) (kUn (fadA 0) (.tmp 1)) (oVal (.tmp 14) (kLoad none (.tmp 13)) (oVal (.tmp 15) (kInt aLss (.tmp 12) (.tmp 14)) oNil))))
def K40r6:OpsF:=(oVal (.tmp 18) (kMove (.tmp 3)) (oVal (.tmp 19) (kMove (.tmp 5)) (oVal (.tmp 20) (kMove (.tmp 4)) (oVal (.tmp 21) (kBuild [(.int .i64 0),(.int .i64 0)] [(0,1,(.tmp 19)),(1,1,(.tmp 20))]) (oVal (.tmp 22) (kBuildSlice [(.int .i64 0),(.int .i64 0)] 1 [(0,2,(.tmp 21))]) (oVal (.tmp 23) (kTwo (appendA false 2 16 (tag 27)) (.tmp 18) (.tmp 22)) (oVal (.tmp 3) (kMove (.tmp 23)) oNil)))))))
def K40r7:OpsF:=(oVal (.tmp 16) (kMove (.tmp 5)) (oVal (.tmp 17) (kInt aAdd (.tmp 16) (.con (.int .i64 1))) (oVal (.tmp 5) (kMove (.tmp 17)) oNil)))
def K40l0:K:=(kSeq (kSeq (kRegion K40r5 [15]) (kCond (.tmp 15) kSkip (kExit 2))) (kSeq (kBlock 3 (kRegion K40r6 [3])) (kRegion K40r7 [5])))
def K40r8:OpsF:=(oVal (.tmp 10) (kMove (.tmp 4)) (oVal (.tmp 11) (kInt aAdd (.tmp 10) (.con (.int .i64 1))) (oVal (.tmp 4) (kMove (.tmp 11)) oNil)))
def K40l1:K:=(kSeq (kSeq (kRegion K40r3 [9]) (kCond (.tmp 9) kSkip (kExit 0))) (kSeq (kBlock 1 (kSeq (kRegion K40r4 [5]) (kBlock 2 (kLoop K40l0)))) (kRegion K40r8 [4])))
def K40r9:OpsF:=(oVal (.tmp 24) (kMove (.tmp 3)) (oVal (.tmp 2) (kMove (.tmp 24)) oNil))
theorem res40:Try.f40.results.toList=[.tmp 2]:=by kernel_rfl
def K40:K:=(kSeq (kRegion K40r0 [1,2]) (kSeq (kRegion K40r1 [3]) (kSeq (kSeq (kRegion K40r2 [4]) (kBlock 0 (kLoop K40l1))) (kSeq (kRegion K40r9 [2]) kRet))))
theorem enter40 (cl:CallF) (a0:AV) (s:St):enterA Try.prog X cl 40 [a0] s Try.f40=finA Try.prog Try.f40 (K40 cl ⟨40,none,Try.f40.ntmps,X 40⟩ (paramsEnv 0 [a0] .nil) [] s) :=
  enterA_eq (b:=Try.f40.body.getD .skip) (by kernel_rfl) (by kernel_rfl) (by kernel_rfl) (by kernel_rfl) (by kernel_rfl)
def K36r0:OpsF:=(oVal (.tmp 1) (kBox (tag 30) (.tmp 0)) (oVal (.tmp 2) (kMove (.con (.int .i64 0))) oNil))
def K36r1:OpsF:=(oVal (.tmp 3) (kLoad (some 8) (.tmp 1)) (oVal (.tmp 4) (kUn (fadA 0) (.tmp 1)) (oVal (.tmp 5) (kLoad none (.tmp 4)) (oVal (.tmp 6) (kInt aSub (.tmp 5) (.con (.int .i64 1))) (oVal (.tmp 7) (kUn (fadA 1) (.tmp 1)) (oVal (.tmp 8) (kLoad none (.tmp 7)) (oVal (.tmp 9) (kInt aSub (.tmp 8) (.con (.int .i64 1))) (oVal (.tmp 10) (kBuild [(.int .i64 0),(.int .i64 0)] [(0,1,(.tmp 6)),(1,1,(.tmp 9))]) (oCall (.tmp 11) (.con (.func 47 [] [])) [(.tmp 3),(.tmp 10)] (oVal (.tmp 12) (kInt aAdd (.tmp 11) (.con (.int .i64 1))) (oVal (.tmp 2) (kMove (.tmp 12)) oNil)))))))))))
theorem res36:Try.f36.results.toList=[.tmp 2]:=by kernel_rfl
def K36:K:=(kSeq (kRegion K36r0 [1,2]) (kSeq (kRegion K36r1 [2]) kRet))
theorem enter36 (cl:CallF) (a0:AV) (s:St):enterA Try.prog X cl 36 [a0] s Try.f36=finA Try.prog Try.f36 (K36 cl ⟨36,none,Try.f36.ntmps,X 36⟩ (paramsEnv 0 [a0] .nil) [] s) :=
  enterA_eq (b:=Try.f36.body.getD .skip) (by kernel_rfl) (by kernel_rfl) (by kernel_rfl) (by kernel_rfl) (by kernel_rfl)
def K47r0:OpsF:=(oVal (.tmp 2) (kBox (tag 30) (.tmp 0)) (oVal (.tmp 3) (kBox (tag 27) (.tmp 1)) (oVal (.tmp 4) (kMove (.con (.int .i64 0))) oNil)))
def K47r1:OpsF:=(oVal (.tmp 6) (kUn (fadA 0) (.tmp 2)) (oVal (.tmp 7) (kLoad none (.tmp 6)) (oVal (.tmp 8) (kUn (fadA 4) (.tmp 2)) (oVal (.tmp 9) (kUn (fadA 0) (.tmp 8)) (oVal (.tmp 10) (kLoad none (.tmp 9)) (oVal (.tmp 11) (kInt aAdd (.tmp 7) (.tmp 10)) (oVal (.tmp 12) (kInt aSub (.tmp 11) (.con (.int .i64 1))) (oVal (.tmp 13) (kUn (fadA 4) (.tmp 2)) (oVal (.tmp 14) (kUn (fadA 0) (.tmp 13)) (oVal (.tmp 15) (kLoad none (.tmp 14)) (oVal (.tmp 16) (kInt aQuo (.tmp 12) (.tmp 15)) (oVal (.tmp 5) (kMove (.tmp 16)) oNil))))))))))))
def K47r2:OpsF:=(oEnd [] (oVal (.tmp 17) (kUn (fadA 1) (.tmp 3)) (oVal (.tmp 18) (kLoad none (.tmp 17)) (oVal (.tmp 19) (kUn (fadA 4) (.tmp 2)) (oVal (.tmp 20) (kUn (fadA 1) (.tmp 19)) (oVal (.tmp 21) (kLoad none (.tmp 20)) (oVal (.tmp 22) (kInt aQuo (.tmp 18) (.tmp 21)) (oVal (.tmp 23) (kMove (.tmp 5)) (oVal (.tmp 24) (kInt aMul (.tmp 22) (.tmp 23)) (oVal (.tmp 25) (kUn (fadA 0) (.tmp 3)) (oVal (.tmp 26) (kLoad none (.tmp 25)) (oVal (.tmp 27) (kUn (fadA 4) (.tmp 2)) (oVal (.tmp 28) (kUn (fadA 0) (.tmp 27)) (oVal (.tmp 29) (kLoad none (.tmp 28)) (oVal (.tmp 30) (kInt aQuo (.tmp 26) (.tmp 29)) (oVal (.tmp 31) (kInt aAdd (.tmp 24) (.tmp 30)) (oVal (.tmp 4) (kMove (.tmp 31)) oNil)))))))))))))))))
theorem res47:Try.f47.results.toList=[.tmp 4]:=by kernel_rfl
def K47:K:=(kSeq (kRegion K47r0 [2,3,4]) (kSeq (kRegion K47r1 [5]) (kSeq (kRegionD K47r2 [4]) kRet)))
theorem enter47 (cl:CallF) (a0 a1:AV) (s:St):enterA Try.prog X cl 47 [a0,a1] s Try.f47=finA Try.prog Try.f47 (K47 cl ⟨47,none,Try.f47.ntmps,X 47⟩ (paramsEnv 0 [a0,a1] .nil) [] s) :=
  enterA_eq (b:=Try.f47.body.getD .skip) (by kernel_rfl) (by kernel_rfl) (by kernel_rfl) (by kernel_rfl) (by kernel_rfl)
end
end Go.Proofs.Ytoklbkgcclkejaa.code
set_option maxRecDepth 100000
namespace Go.Proofs.Ytoklbkgcclkejaa.code
open Go.Abs
noncomputable section
def K12r0:OpsF:=(oVal (.tmp 4) (kBox (tag 30) (.tmp 1)) (oVal (.tmp 6) (kMove (.con .nilslice)) oNil))
def K12r1:OpsF:=(oVal (.tmp 7) (kMove (.con .nilslice)) oNil)
def K12r2:OpsF:=(oVal (.tmp 12) (kLoad (some 8) (.tmp 4)) (oCall (.tmp 13) (.con (.func 40 [] [])) [(.tmp 12)] (oVal (.tmp 8) (kMove (.tmp 13)) oNil)))
def K12r3:OpsF:=(oVal (.tmp 14) (kMove (.tmp 0)) (oVal (.tmp 15) (kMove (.tmp 8)) (oVal (.tmp 16) (kUn lenSlA (.tmp 15)) (oCall (.tmp 17) (.con (.func 21 [] [])) [(.tmp 14),(.tmp 16)] (oVal (.tmp 9) (kMove (.tmp 17)) oNil)))))
def K12r4:OpsF:=(oVal (.tmp 10) (kMove (.con (.int .i64 0))) oNil)
def K12r5s9:OpsF:=(oVal (.tmp 27) (kPick (.tmp 22) (.tmp 26) (.con (.bool false))) oNil)
def K12r5s8:OpsF:=(oIf 22 true (oVal (.tmp 26) (kInt aLss (.tmp 24) (.tmp 25)) K12r5s9) (oSkip (.tmp 26) K12r5s9))
def K12r5s7:OpsF:=(oIf 22 true (oVal (.tmp 25) (kMove (.tmp 2)) K12r5s8) (oSkip (.tmp 25) K12r5s8))
def K12r5s6:OpsF:=(oIf 22 true (oVal (.tmp 24) (kUn lenSlA (.tmp 23)) K12r5s7) (oSkip (.tmp 24) K12r5s7))
def K12r5:OpsF:=(oVal (.tmp 18) (kMove (.tmp 10)) (oVal (.tmp 19) (kMove (.tmp 9)) (oVal (.tmp 20) (kUn lenSlA (.tmp 19)) (oVal (.tmp 21) (kInt aLss (.tmp 18) (.tmp 20)) (oVal (.tmp 22) (kMove (.tmp 21)) (oIf 22 true (oVal (.tmp 23) (kMove (.tmp 7)) K12r5s6) (oSkip (.tmp 23) K12r5s6)))))))
def K12r6:OpsF:=(oEnd [] (oVal (.tmp 30) (kMove (.tmp 7)) (oCallT (some [35,37,40,41]) (.tmp 31) (.con (.func 27 [] [])) [(.tmp 30)] (oVal (.tmp 32) (kMove (.tmp 8)) (oVal (.tmp 33) (kMove (.tmp 9)) (oVal (.tmp 34) (kMove (.tmp 10)) (oVal (.tmp 35) (kTwo (ixsA 1) (.tmp 33) (.tmp 34)) (oVal (.tmp 36) (kLoad none (.tmp 35)) (oVal (.tmp 37) (kTwo (ixsA 2) (.tmp 32) (.tmp 36)) (oVal (.tmp 38) (kLoad (some 2) (.tmp 37)) (oVal (.tmp 39) (kMove (.tmp 0)) (oVal (.tmp 40) (kUn (fadA 7) (.tmp 4)) (oVal (.tmp 41) (kLoad none (.tmp 40)) (oVal (.tmp 42) (kUn lenSlA (.tmp 41)) (oCallT (some [35,37]) (.tmp 43) (.con (.func 25 [] [])) [(.tmp 39),(.tmp 42)] (oVal (.tmp 44) (kBuild [(.int .i64 0),(.int .i64 0),(.int .i64 0)] [(0,2,(.tmp 38)),(2,1,(.tmp 43))]) (oVal (.tmp 45) (kBuildSlice [(.int .i64 0),(.int .i64 0),(.int .i64 0)] 1 [(0,3,(.tmp 44))]) (oVal (.tmp 46) (kTwo (appendA false 3 24 (tag 51)) (.tmp 31) (.tmp 45)) (oVal (.tmp 11) (kMove (.tmp 46)) oNil)))))))))))))))))))
def K12r7s8:OpsF:=(oVal (.tmp 55) (kPick (.tmp 50) (.tmp 54) (.con (.bool false))) oNil)
def K12r7s7:OpsF:=(oIf 50 true (oVal (.tmp 54) (kInt aEql (.tmp 53) (.con (.int .i64 0))) K12r7s8) (oSkip (.tmp 54) K12r7s8))
def K12r7s6:OpsF:=(oIf 50 true (oCall (.tmp 53) (.con (.func 42 [] [])) [(.tmp 51),(.tmp 52)] K12r7s7) (oSkip (.tmp 53) K12r7s7))
def K12r7s5:OpsF:=(oIf 50 true (oVal (.tmp 52) (kMove (.tmp 11)) K12r7s6) (oSkip (.tmp 52) K12r7s6))
def K12r7:OpsF:=(oVal (.tmp 47) (kMove (.tmp 0)) (oCall (.tmp 48) (.con (.func 25 [] [])) [(.tmp 47),(.con (.int .i64 5))] (oVal (.tmp 49) (kGtr (.tmp 48) (.con (.int .i64 0))) (oVal (.tmp 50) (kMove (.tmp 49)) (oIf 50 true (oVal (.tmp 51) (kLoad (some 8) (.tmp 4)) K12r7s5) (oSkip (.tmp 51) K12r7s5))))))
def K12r8:OpsF:=(oVal (.tmp 56) (kMove (.tmp 11)) (oVal (.tmp 7) (kMove (.tmp 56)) oNil))
def K12r9:OpsF:=(oVal (.tmp 28) (kMove (.tmp 10)) (oVal (.tmp 29) (kInt aAdd (.tmp 28) (.con (.int .i64 1))) (oVal (.tmp 10) (kMove (.tmp 29)) oNil)))
def K12l0:K:=(kSeq (kSeq (kRegion K12r5 [27]) (kCond (.tmp 27) kSkip (kExit 0))) (kSeq (kBlock 1 (kSeq (kRegionD K12r6 [11]) (kSeq (kRegion K12r7 [55]) (kCond (.tmp 55) (kRegion K12r8 [7]) kSkip)))) (kRegion K12r9 [10])))
def K12r10:OpsF:=(oVal (.tmp 57) (kMove (.tmp 7)) (oVal (.tmp 6) (kMove (.tmp 57)) oNil))
theorem res12:Try.f12.results.toList=[.tmp 6]:=by kernel_rfl
def K12:K:=(kSeq (kRegion K12r0 [4,6]) (kSeq (kRegion K12r1 [7]) (kSeq (kRegion K12r2 [8]) (kSeq (kRegion K12r3 [9]) (kSeq (kSeq (kRegion K12r4 [10]) (kBlock 0 (kLoop K12l0))) (kSeq (kRegion K12r10 [6]) kRet))))))
theorem enter12 (cl:CallF) (a0 a1 a2:AV) (s:St):enterA Try.prog X cl 12 [a0,a1,a2] s Try.f12=finA Try.prog Try.f12 (K12 cl ⟨12,none,Try.f12.ntmps,X 12⟩ (paramsEnv 0 [a0,a1,a2] .nil) [] s) :=
  enterA_eq (b:=Try.f12.body.getD .skip) (by kernel_rfl) (by kernel_rfl) (by kernel_rfl) (by kernel_rfl) (by kernel_rfl)
def K27r0:OpsF:=(oVal (.tmp 2) (kMove (.con .nilslice)) oNil)
def K27r1:OpsF:=(oVal (.tmp 3) (kBuildSlice [] 0 []) (oVal (.tmp 4) (kMove (.tmp 0)) (oVal (.tmp 5) (kTwo (appendA false 3 24 (tag 51)) (.tmp 3) (.tmp 4)) (oVal (.tmp 2) (kMove (.tmp 5)) oNil))))
theorem res27:Try.f27.results.toList=[.tmp 2]:=by kernel_rfl
def K27:K:=(kSeq (kRegion K27r0 [2]) (kSeq (kRegion K27r1 [2]) kRet))
theorem enter27 (cl:CallF) (a0:AV) (s:St):enterA Try.prog X cl 27 [a0] s Try.f27=finA Try.prog Try.f27 (K27 cl ⟨27,none,Try.f27.ntmps,X 27⟩ (paramsEnv 0 [a0] .nil) [] s) :=
  enterA_eq (b:=Try.f27.body.getD .skip) (by kernel_rfl) (by kernel_rfl) (by kernel_rfl) (by kernel_rfl) (by kernel_rfl)
def K42r0:OpsF:=(oVal (.tmp 2) (kBox (tag 30) (.tmp 0)) (oVal (.tmp 4) (kMove (.con (.int .i64 0))) oNil))
def K42r1:OpsF:=(oVal (.tmp 6) (kLoad (some 8) (.tmp 2)) (oCall (.tmp 7) (.con (.func 60 [] [])) [(.tmp 6)] (oVal (.tmp 5) (kMove (.tmp 7)) oNil)))
def K42r2:OpsF:=(oVal (.tmp 8) (kMove (.tmp 5)) (oVal (.tmp 9) (kInt aNeq (.tmp 8) (.con (.int .i64 0))) oNil))
def K42r3:OpsF:=(oVal (.tmp 10) (kMove (.tmp 5)) (oVal (.tmp 4) (kMove (.tmp 10)) oNil))
def K42r4:OpsF:=(oVal (.tmp 11) (kLoad (some 8) (.tmp 2)) (oVal (.tmp 12) (kMove (.tmp 1)) (oCall (.tmp 13) (.con (.func 61 [] [])) [(.tmp 11),(.tmp 12)] (oVal (.tmp 4) (kMove (.tmp 13)) oNil))))
theorem res42:Try.f42.results.toList=[.tmp 4]:=by kernel_rfl
def K42:K:=(kSeq (kRegion K42r0 [2,4]) (kSeq (kSeq (kRegion K42r1 [5]) (kSeq (kRegion K42r2 [9]) (kCond (.tmp 9) (kSeq (kRegion K42r3 [4]) kRet) kSkip))) (kSeq (kRegion K42r4 [4]) kRet)))
theorem enter42 (cl:CallF) (a0 a1:AV) (s:St):enterA Try.prog X cl 42 [a0,a1] s Try.f42=finA Try.prog Try.f42 (K42 cl ⟨42,none,Try.f42.ntmps,X 42⟩ (paramsEnv 0 [a0,a1] .nil) [] s) :=
  enterA_eq (b:=Try.f42.body.getD .skip) (by kernel_rfl) (by kernel_rfl) (by kernel_rfl) (by kernel_rfl) (by kernel_rfl)
def K60r0:OpsF:=(oVal (.tmp 1) (kBox (tag 30) (.tmp 0)) (oVal (.tmp 2) (kMove (.con (.int .i64 0))) oNil))
def K60r1s9:OpsF:=(oVal (.tmp 17) (kPick (.tmp 12) (.con (.bool true)) (.tmp 16)) oNil)
def K60r1s8:OpsF:=(oIf 12 false (oVal (.tmp 16) (kUn notA (.tmp 15)) K60r1s9) (oSkip (.tmp 16) K60r1s9))
def K60r1s7:OpsF:=(oIf 12 false (oCall (.tmp 15) (.con (.func 87 [] [])) [(.tmp 14),(.con (.int .i64 1)),(.con (.int .i64 4))] K60r1s8) (oSkip (.tmp 15) K60r1s8))
def K60r1s6:OpsF:=(oIf 12 false (oVal (.tmp 14) (kLoad none (.tmp 13)) K60r1s7) (oSkip (.tmp 14) K60r1s7))
def K60r1:OpsF:=(oVal (.tmp 8) (kUn (fadA 0) (.tmp 1)) (oVal (.tmp 9) (kLoad none (.tmp 8)) (oCall (.tmp 10) (.con (.func 87 [] [])) [(.tmp 9),(.con (.int .i64 1)),(.con (.int .i64 6))] (oVal (.tmp 11) (kUn notA (.tmp 10)) (oVal (.tmp 12) (kMove (.tmp 11)) (oIf 12 false (oVal (.tmp 13) (kUn (fadA 1) (.tmp 1)) K60r1s6) (oSkip (.tmp 13) K60r1s6)))))))
def K60r2:OpsF:=(oVal (.tmp 2) (kMove (.con (.int .i64 1))) oNil)
def K60r3:OpsF:=(oVal (.tmp 18) (kLoad (some 8) (.tmp 1)) (oVal (.tmp 19) (kUn (fadA 2) (.tmp 1)) (oVal (.tmp 20) (kLoad none (.tmp 19)) (oCall (.tmp 21) (.con (.func 88 [] [])) [(.tmp 18),(.tmp 20)] (oVal (.tmp 3) (kMove (.tmp 21)) oNil)))))
def K60r4:OpsF:=(oVal (.tmp 22) (kMove (.tmp 3)) (oVal (.tmp 23) (kInt aNeq (.tmp 22) (.con (.int .i64 0))) oNil))
def K60r5:OpsF:=(oVal (.tmp 24) (kMove (.tmp 3)) (oVal (.tmp 2) (kMove (.tmp 24)) oNil))
def K60r6:OpsF:=(oVal (.tmp 25) (kLoad (some 8) (.tmp 1)) (oVal (.tmp 26) (kUn (fadA 3) (.tmp 1)) (oVal (.tmp 27) (kLoad none (.tmp 26)) (oCall (.tmp 28) (.con (.func 88 [] [])) [(.tmp 25),(.tmp 27)] (oVal (.tmp 4) (kMove (.tmp 28)) oNil)))))
def K60r7:OpsF:=(oVal (.tmp 29) (kMove (.tmp 4)) (oVal (.tmp 30) (kInt aNeq (.tmp 29) (.con (.int .i64 0))) oNil))
def K60r8:OpsF:=(oVal (.tmp 31) (kMove (.tmp 4)) (oVal (.tmp 2) (kMove (.tmp 31)) oNil))
def K60r9s15:OpsF:=(oVal (.tmp 47) (kPick (.tmp 39) (.con (.bool true)) (.tmp 46)) oNil)
def K60r9s14:OpsF:=(oIf 39 false (oVal (.tmp 46) (kUn notA (.tmp 45)) K60r9s15) (oSkip (.tmp 46) K60r9s15))
def K60r9s13:OpsF:=(oIf 39 false (oCall (.tmp 45) (.con (.func 87 [] [])) [(.tmp 42),(.con (.int .i64 1)),(.tmp 44)] K60r9s14) (oSkip (.tmp 45) K60r9s14))
def K60r9s12:OpsF:=(oIf 39 false (oVal (.tmp 44) (kLoad none (.tmp 43)) K60r9s13) (oSkip (.tmp 44) K60r9s13))
def K60r9s11:OpsF:=(oIf 39 false (oVal (.tmp 43) (kUn (fadA 1) (.tmp 1)) K60r9s12) (oSkip (.tmp 43) K60r9s12))
def K60r9s10:OpsF:=(oIf 39 false (oVal (.tmp 42) (kLoad none (.tmp 41)) K60r9s11) (oSkip (.tmp 42) K60r9s11))
def K60r9s9:OpsF:=(oIf 39 false (oVal (.tmp 41) (kUn (fadA 1) (.tmp 40)) K60r9s10) (oSkip (.tmp 41) K60r9s10))
def K60r9:OpsF:=(oVal (.tmp 32) (kUn (fadA 4) (.tmp 1)) (oVal (.tmp 33) (kUn (fadA 0) (.tmp 32)) (oVal (.tmp 34) (kLoad none (.tmp 33)) (oVal (.tmp 35) (kUn (fadA 0) (.tmp 1)) (oVal (.tmp 36) (kLoad none (.tmp 35)) (oCall (.tmp 37) (.con (.func 87 [] [])) [(.tmp 34),(.con (.int .i64 1)),(.tmp 36)] (oVal (.tmp 38) (kUn notA (.tmp 37)) (oVal (.tmp 39) (kMove (.tmp 38)) (oIf 39 false (oVal (.tmp 40) (kUn (fadA 4) (.tmp 1)) K60r9s9) (oSkip (.tmp 40) K60r9s9))))))))))
def K60r10:OpsF:=(oVal (.tmp 2) (kMove (.con (.int .i64 1))) oNil)
def K60r11:OpsF:=(oEnd [] (oVal (.tmp 48) (kUn (fadA 6) (.tmp 1)) (oVal (.tmp 49) (kLoad none (.tmp 48)) (oVal (.tmp 50) (kUn lenSlA (.tmp 49)) (oVal (.tmp 51) (kLoad (some 8) (.tmp 1)) (oCallT (some [48,49]) (.tmp 52) (.con (.func 36 [] [])) [(.tmp 51)] (oVal (.tmp 53) (kInt aNeq (.tmp 50) (.tmp 52)) oNil)))))))
def K60r12:OpsF:=(oVal (.tmp 2) (kMove (.con (.int .i64 2))) oNil)
def K60r13:OpsF:=(oVal (.tmp 5) (kMove (.con (.int .i64 0))) oNil)
def K60r14:OpsF:=(oVal (.tmp 54) (kMove (.tmp 5)) (oVal (.tmp 55) (kUn (fadA 6) (.tmp 1)) (oVal (.tmp 56) (kLoad none (.tmp 55)) (oVal (.tmp 57) (kUn lenSlA (.tmp 56)) (oVal (.tmp 58) (kInt aLss (.tmp 54) (.tmp 57)) oNil)))))
def K60r15:OpsF:=(oVal (.tmp 61) (kUn (fadA 6) (.tmp 1)) (oVal (.tmp 62) (kLoad none (.tmp 61)) (oVal (.tmp 63) (kMove (.tmp 5)) (oVal (.tmp 64) (kTwo (ixsA 1) (.tmp 62) (.tmp 63)) (oVal (.tmp 65) (kLoad none (.tmp 64)) (oCall (.tmp 66) (.con (.func 87 [] [])) [(.tmp 65),(.con (.int .i64 0)),(.con (.int .i64 10000000))] (oVal (.tmp 67) (kUn notA (.tmp 66)) oNil)))))))
def K60r16:OpsF:=(oVal (.tmp 2) (kMove (.con (.int .i64 1))) oNil)
def K60r17:OpsF:=(oVal (.tmp 59) (kMove (.tmp 5)) (oVal (.tmp 60) (kInt aAdd (.tmp 59) (.con (.int .i64 1))) (oVal (.tmp 5) (kMove (.tmp 60)) oNil)))
def K60l0:K:=(kSeq (kSeq (kRegion K60r14 [58]) (kCond (.tmp 58) kSkip (kExit 0))) (kSeq (kBlock 1 (kSeq (kRegion K60r15 [67]) (kCond (.tmp 67) (kSeq (kRegion K60r16 [2]) kRet) kSkip))) (kRegion K60r17 [5])))
def K60r18:OpsF:=(oVal (.tmp 68) (kUn (fadA 7) (.tmp 1)) (oVal (.tmp 69) (kLoad none (.tmp 68)) (oVal (.tmp 70) (kUn lenSlA (.tmp 69)) (oVal (.tmp 71) (kInt aEql (.tmp 70) (.con (.int .i64 0))) oNil))))
def K60r19:OpsF:=(oVal (.tmp 2) (kMove (.con (.int .i64 7))) oNil)
def K60r20:OpsF:=(oVal (.tmp 72) (kUn (fadA 7) (.tmp 1)) (oVal (.tmp 73) (kLoad none (.tmp 72)) (oVal (.tmp 74) (kUn lenSlA (.tmp 73)) (oVal (.tmp 75) (kGtr (.tmp 74) (.con (.int .i64 6))) oNil))))
def K60r21:OpsF:=(oVal (.tmp 2) (kMove (.con (.int .i64 6))) oNil)
def K60r22:OpsF:=(oVal (.tmp 6) (kMove (.con (.int .i64 0))) oNil)
def K60r23:OpsF:=(oVal (.tmp 76) (kMove (.tmp 6)) (oVal (.tmp 77) (kUn (fadA 7) (.tmp 1)) (oVal (.tmp 78) (kLoad none (.tmp 77)) (oVal (.tmp 79) (kUn lenSlA (.tmp 78)) (oVal (.tmp 80) (kInt aLss (.tmp 76) (.tmp 79)) oNil)))))
def K60r24:OpsF:=(oEnd [] (oVal (.tmp 83) (kLoad (some 8) (.tmp 1)) (oVal (.tmp 84) (kUn (fadA 7) (.tmp 1)) (oVal (.tmp 85) (kLoad none (.tmp 84)) (oVal (.tmp 86) (kMove (.tmp 6)) (oVal (.tmp 87) (kTwo (ixsA 6) (.tmp 85) (.tmp 86)) (oVal (.tmp 88) (kLoad (some 6) (.tmp 87)) (oCall (.tmp 89) (.con (.func 89 [] [])) [(.tmp 83),(.tmp 88)] (oVal (.tmp 7) (kMove (.tmp 89)) oNil)))))))))
def K60r25:OpsF:=(oVal (.tmp 90) (kMove (.tmp 7)) (oVal (.tmp 91) (kInt aNeq (.tmp 90) (.con (.int .i64 0))) oNil))
def K60r26:OpsF:=(oVal (.tmp 92) (kMove (.tmp 7)) (oVal (.tmp 2) (kMove (.tmp 92)) oNil))
def K60r27:OpsF:=(oVal (.tmp 81) (kMove (.tmp 6)) (oVal (.tmp 82) (kInt aAdd (.tmp 81) (.con (.int .i64 1))) (oVal (.tmp 6) (kMove (.tmp 82)) oNil)))
def K60l1:K:=(kSeq (kSeq (kRegion K60r23 [80]) (kCond (.tmp 80) kSkip (kExit 2))) (kSeq (kBlock 3 (kSeq (kRegionD K60r24 [7]) (kSeq (kRegion K60r25 [91]) (kCond (.tmp 91) (kSeq (kRegion K60r26 [2]) kRet) kSkip)))) (kRegion K60r27 [6])))
def K60r28:OpsF:=(oVal (.tmp 2) (kMove (.con (.int .i64 0))) oNil)
theorem res60:Try.f60.results.toList=[.tmp 2]:=by kernel_rfl
def K60:K:=(kSeq (kRegion K60r0 [1,2]) (kSeq (kSeq (kRegion K60r1 [17]) (kCond (.tmp 17) (kSeq (kRegion K60r2 [2]) kRet) kSkip)) (kSeq (kSeq (kRegion K60r3 [3]) (kSeq (kRegion K60r4 [23]) (kCond (.tmp 23) (kSeq (kRegion K60r5 [2]) kRet) kSkip))) (kSeq (kSeq (kRegion K60r6 [4]) (kSeq (kRegion K60r7 [30]) (kCond (.tmp 30) (kSeq (kRegion K60r8 [2]) kRet) kSkip))) (kSeq (kSeq (kRegion K60r9 [47]) (kCond (.tmp 47) (kSeq (kRegion K60r10 [2]) kRet) kSkip)) (kSeq (kSeq (kRegionD K60r11 [53]) (kCond (.tmp 53) (kSeq (kRegion K60r12 [2]) kRet) kSkip)) (kSeq (kSeq (kRegion K60r13 [5]) (kBlock 0 (kLoop K60l0))) (kSeq (kSeq (kRegion K60r18 [71]) (kCond (.tmp 71) (kSeq (kRegion K60r19 [2]) kRet) kSkip)) (kSeq (kSeq (kRegion K60r20 [75]) (kCond (.tmp 75) (kSeq (kRegion K60r21 [2]) kRet) kSkip)) (kSeq (kSeq (kRegion K60r22 [6]) (kBlock 2 (kLoop K60l1))) (kSeq (kRegion K60r28 [2]) kRet)))))))))))
theorem enter60 (cl:CallF) (a0:AV) (s:St):enterA Try.prog X cl 60 [a0] s Try.f60=finA Try.prog Try.f60 (K60 cl ⟨60,none,Try.f60.ntmps,X 60⟩ (paramsEnv 0 [a0] .nil) [] s) :=
  enterA_eq (b:=Try.f60.body.getD .skip) (by kernel_rfl) (by kernel_rfl) (by kernel_rfl) (by kernel_rfl) (by kernel_rfl)
def K88r0:OpsF:=(oVal (.tmp 2) (kBox (tag 30) (.tmp 0)) (oVal (.tmp 4) (kMove (.con (.int .i64 0))) oNil))
def K88r1:OpsF:=(oVal (.tmp 6) (kMove (.tmp 1)) (oVal (.tmp 7) (kUn lenSlA (.tmp 6)) (oVal (.tmp 8) (kGtr (.tmp 7) (.con (.int .i64 24))) oNil)))
def K88r2:OpsF:=(oVal (.tmp 4) (kMove (.con (.int .i64 6))) oNil)
def K88r3:OpsF:=(oVal (.tmp 5) (kMove (.con (.int .i64 0))) oNil)
def K88r4:OpsF:=(oVal (.tmp 9) (kMove (.tmp 5)) (oVal (.tmp 10) (kMove (.tmp 1)) (oVal (.tmp 11) (kUn lenSlA (.tmp 10)) (oVal (.tmp 12) (kInt aLss (.tmp 9) (.tmp 11)) oNil))))
def K88r5:OpsF:=(oEnd [] (oVal (.tmp 15) (kLoad (some 8) (.tmp 2)) (oVal (.tmp 16) (kMove (.tmp 1)) (oVal (.tmp 17) (kMove (.tmp 5)) (oVal (.tmp 18) (kTwo (ixsA 2) (.tmp 16) (.tmp 17)) (oVal (.tmp 19) (kLoad (some 2) (.tmp 18)) (oCall (.tmp 20) (.con (.func 99 [] [])) [(.tmp 15),(.tmp 19)] (oVal (.tmp 21) (kUn notA (.tmp 20)) oNil))))))))
def K88r6:OpsF:=(oVal (.tmp 4) (kMove (.con (.int .i64 3))) oNil)
def K88r7:OpsF:=(oEnd [] (oVal (.tmp 22) (kMove (.tmp 1)) (oVal (.tmp 23) (kMove (.tmp 5)) (oVal (.tmp 24) (kSlice (sliceVal 2) (.tmp 22) none (some (.tmp 23))) (oVal (.tmp 25) (kMove (.tmp 1)) (oVal (.tmp 26) (kMove (.tmp 5)) (oVal (.tmp 27) (kTwo (ixsA 2) (.tmp 25) (.tmp 26)) (oVal (.tmp 28) (kLoad (some 2) (.tmp 27)) (oCall (.tmp 29) (.con (.func 100 [] [])) [(.tmp 24),(.tmp 28)] oNil)))))))))
def K88r8:OpsF:=(oVal (.tmp 4) (kMove (.con (.int .i64 4))) oNil)
def K88r9:OpsF:=(oVal (.tmp 13) (kMove (.tmp 5)) (oVal (.tmp 14) (kInt aAdd (.tmp 13) (.con (.int .i64 1))) (oVal (.tmp 5) (kMove (.tmp 14)) oNil)))
def K88l0:K:=(kSeq (kSeq (kRegion K88r4 [12]) (kCond (.tmp 12) kSkip (kExit 0))) (kSeq (kBlock 1 (kSeq (kSeq (kRegionD K88r5 [21]) (kCond (.tmp 21) (kSeq (kRegion K88r6 [4]) kRet) kSkip)) (kSeq (kRegionD K88r7 [29]) (kCond (.tmp 29) (kSeq (kRegion K88r8 [4]) kRet) kSkip)))) (kRegion K88r9 [5])))
def K88r10:OpsF:=(oVal (.tmp 4) (kMove (.con (.int .i64 0))) oNil)
theorem res88:Try.f88.results.toList=[.tmp 4]:=by kernel_rfl
def K88:K:=(kSeq (kRegion K88r0 [2,4]) (kSeq (kSeq (kRegion K88r1 [8]) (kCond (.tmp 8) (kSeq (kRegion K88r2 [4]) kRet) kSkip)) (kSeq (kSeq (kRegion K88r3 [5]) (kBlock 0 (kLoop K88l0))) (kSeq (kRegion K88r10 [4]) kRet))))
theorem enter88 (cl:CallF) (a0 a1:AV) (s:St):enterA Try.prog X cl 88 [a0,a1] s Try.f88=finA Try.prog Try.f88 (K88 cl ⟨88,none,Try.f88.ntmps,X 88⟩ (paramsEnv 0 [a0,a1] .nil) [] s) :=
  enterA_eq (b:=Try.f88.body.getD .skip) (by kernel_rfl) (by kernel_rfl) (by kernel_rfl) (by kernel_rfl) (by kernel_rfl)
def K99r0:OpsF:=(oVal (.tmp 2) (kBox (tag 30) (.tmp 0)) (oVal (.tmp 3) (kBox (tag 27) (.tmp 1)) (oVal (.tmp 4) (kMove (.con (.bool false))) oNil)))
def K99r1s13:OpsF:=(oVal (.tmp 18) (kPick (.tmp 11) (.tmp 17) (.con (.bool false))) (oVal (.tmp 4) (kMove (.tmp 18)) oNil))
def K99r1s12:OpsF:=(oIf 11 true (oCall (.tmp 17) (.con (.func 87 [] [])) [(.tmp 13),(.con (.int .i64 0)),(.tmp 16)] K99r1s13) (oSkip (.tmp 17) K99r1s13))
def K99r1s11:OpsF:=(oIf 11 true (oVal (.tmp 16) (kInt aSub (.tmp 15) (.con (.int .i64 1))) K99r1s12) (oSkip (.tmp 16) K99r1s12))
def K99r1s10:OpsF:=(oIf 11 true (oVal (.tmp 15) (kLoad none (.tmp 14)) K99r1s11) (oSkip (.tmp 15) K99r1s11))
def K99r1s9:OpsF:=(oIf 11 true (oVal (.tmp 14) (kUn (fadA 1) (.tmp 2)) K99r1s10) (oSkip (.tmp 14) K99r1s10))
def K99r1s8:OpsF:=(oIf 11 true (oVal (.tmp 13) (kLoad none (.tmp 12)) K99r1s9) (oSkip (.tmp 13) K99r1s9))
def K99r1:OpsF:=(oVal (.tmp 5) (kUn (fadA 0) (.tmp 3)) (oVal (.tmp 6) (kLoad none (.tmp 5)) (oVal (.tmp 7) (kUn (fadA 0) (.tmp 2)) (oVal (.tmp 8) (kLoad none (.tmp 7)) (oVal (.tmp 9) (kInt aSub (.tmp 8) (.con (.int .i64 1))) (oCall (.tmp 10) (.con (.func 87 [] [])) [(.tmp 6),(.con (.int .i64 0)),(.tmp 9)] (oVal (.tmp 11) (kMove (.tmp 10)) (oIf 11 true (oVal (.tmp 12) (kUn (fadA 1) (.tmp 3)) K99r1s8) (oSkip (.tmp 12) K99r1s8)))))))))
theorem res99:Try.f99.results.toList=[.tmp 4]:=by kernel_rfl
def K99:K:=(kSeq (kRegion K99r0 [2,3,4]) (kSeq (kRegion K99r1 [4]) kRet))
theorem enter99 (cl:CallF) (a0 a1:AV) (s:St):enterA Try.prog X cl 99 [a0,a1] s Try.f99=finA Try.prog Try.f99 (K99 cl ⟨99,none,Try.f99.ntmps,X 99⟩ (paramsEnv 0 [a0,a1] .nil) [] s) :=
  enterA_eq (b:=Try.f99.body.getD .skip) (by kernel_rfl) (by kernel_rfl) (by kernel_rfl) (by kernel_rfl) (by kernel_rfl)
def K100r0:OpsF:=(oVal (.tmp 3) (kBox (tag 27) (.tmp 1)) (oVal (.tmp 4) (kMove (.con (.bool false))) oNil))
def K100r1:OpsF:=(oVal (.tmp 5) (kMove (.con (.int .i64 0))) oNil)
def K100r2:OpsF:=(oVal (.tmp 6) (kMove (.tmp 5)) (oVal (.tmp 7) (kMove (.tmp 0)) (oVal (.tmp 8) (kUn lenSlA (.tmp 7)) (oVal (.tmp 9) (kInt aLss (.tmp 6) (.tmp 8)) oNil))))
def K100r3:OpsF:=(oEnd [] (oVal (.tmp 12) (kMove (.tmp 0)) (oVal (.tmp 13) (kMove (.tmp 5)) (oVal (.tmp 14) (kTwo (ixsA 2) (.tmp 12) (.tmp 13)) (oVal (.tmp 15) (kLoad (some 2) (.tmp 14)) (oVal (.tmp 16) (kLoad (some 2) (.tmp 3)) (oVal (.tmp 17) (kEql (.row [(0,none,.int),(1,none,.int)]) false (.tmp 15) (.tmp 16)) oNil)))))))
def K100r4:OpsF:=(oVal (.tmp 4) (kMove (.con (.bool true))) oNil)
def K100r5:OpsF:=(oVal (.tmp 10) (kMove (.tmp 5)) (oVal (.tmp 11) (kInt aAdd (.tmp 10) (.con (.int .i64 1))) (oVal (.tmp 5) (kMove (.tmp 11)) oNil)))
def K100l0:K:=(kSeq (kSeq (kRegion K100r2 [9]) (kCond (.tmp 9) kSkip (kExit 0))) (kSeq (kBlock 1 (kSeq (kRegionD K100r3 [17]) (kCond (.tmp 17) (kSeq (kRegion K100r4 [4]) kRet) kSkip))) (kRegion K100r5 [5])))
def K100r6:OpsF:=(oVal (.tmp 4) (kMove (.con (.bool false))) oNil)
theorem res100:Try.f100.results.toList=[.tmp 4]:=by kernel_rfl
def K100:K:=(kSeq (kRegion K100r0 [3,4]) (kSeq (kSeq (kRegion K100r1 [5]) (kBlock 0 (kLoop K100l0))) (kSeq (kRegion K100r6 [4]) kRet)))
theorem enter100 (cl:CallF) (a0 a1:AV) (s:St):enterA Try.prog X cl 100 [a0,a1] s Try.f100=finA Try.prog Try.f100 (K100 cl ⟨100,none,Try.f100.ntmps,X 100⟩ (paramsEnv 0 [a0,a1] .nil) [] s) :=
  enterA_eq (b:=Try.f100.body.getD .skip) (by kernel_rfl) (by kernel_rfl) (by kernel_rfl) (by kernel_rfl) (by kernel_rfl)
def K87r0:OpsF:=(oVal (.tmp 6) (kMove (.con (.bool false))) oNil)
def K87r1s7:OpsF:=(oVal (.tmp 14) (kPick (.tmp 10) (.tmp 13) (.con (.bool false))) (oVal (.tmp 6) (kMove (.tmp 14)) oNil))
def K87r1s6:OpsF:=(oIf 10 true (oVal (.tmp 13) (kInt aLeq (.tmp 11) (.tmp 12)) K87r1s7) (oSkip (.tmp 13) K87r1s7))
def K87r1s5:OpsF:=(oIf 10 true (oVal (.tmp 12) (kMove (.tmp 2)) K87r1s6) (oSkip (.tmp 12) K87r1s6))
def K87r1:OpsF:=(oVal (.tmp 7) (kMove (.tmp 0)) (oVal (.tmp 8) (kMove (.tmp 1)) (oVal (.tmp 9) (kInt aGeq (.tmp 7) (.tmp 8)) (oVal (.tmp 10) (kMove (.tmp 9)) (oIf 10 true (oVal (.tmp 11) (kMove (.tmp 0)) K87r1s5) (oSkip (.tmp 11) K87r1s5))))))
theorem res87:Try.f87.results.toList=[.tmp 6]:=by kernel_rfl
def K87:K:=(kSeq (kRegion K87r0 [6]) (kSeq (kRegion K87r1 [6]) kRet))
theorem enter87 (cl:CallF) (a0 a1 a2:AV) (s:St):enterA Try.prog X cl 87 [a0,a1,a2] s Try.f87=finA Try.prog Try.f87 (K87 cl ⟨87,none,Try.f87.ntmps,X 87⟩ (paramsEnv 0 [a0,a1,a2] .nil) [] s) :=
  enterA_eq (b:=Try.f87.body.getD .skip) (by kernel_rfl) (by kernel_rfl) (by kernel_rfl) (by kernel_rfl) (by kernel_rfl)
def K89r0:OpsF:=(oVal (.tmp 2) (kBox (tag 30) (.tmp 0)) (oVal (.tmp 3) (kBox (tag 49) (.tmp 1)) (oVal (.tmp 4) (kMove (.con (.int .i64 0))) oNil)))
def K89r1s11:OpsF:=(oVal (.tmp 17) (kPick (.tmp 11) (.con (.bool true)) (.tmp 16)) oNil)
def K89r1s10:OpsF:=(oIf 11 false (oVal (.tmp 16) (kUn notA (.tmp 15)) K89r1s11) (oSkip (.tmp 16) K89r1s11))
def K89r1s9:OpsF:=(oIf 11 false (oCall (.tmp 15) (.con (.func 87 [] [])) [(.tmp 14),(.con (.int .i64 0)),(.con (.int .i64 1000000))] K89r1s10) (oSkip (.tmp 15) K89r1s10))
def K89r1s8:OpsF:=(oIf 11 false (oVal (.tmp 14) (kLoad none (.tmp 13)) K89r1s9) (oSkip (.tmp 14) K89r1s9))
def K89r1s7:OpsF:=(oIf 11 false (oVal (.tmp 13) (kUn (fadA 1) (.tmp 12)) K89r1s8) (oSkip (.tmp 13) K89r1s8))
def K89r1:OpsF:=(oVal (.tmp 6) (kUn (fadA 0) (.tmp 3)) (oVal (.tmp 7) (kUn (fadA 0) (.tmp 6)) (oVal (.tmp 8) (kLoad none (.tmp 7)) (oCall (.tmp 9) (.con (.func 87 [] [])) [(.tmp 8),(.con (.int .i64 0)),(.con (.int .i64 1000000))] (oVal (.tmp 10) (kUn notA (.tmp 9)) (oVal (.tmp 11) (kMove (.tmp 10)) (oIf 11 false (oVal (.tmp 12) (kUn (fadA 0) (.tmp 3)) K89r1s7) (oSkip (.tmp 12) K89r1s7))))))))
def K89r2:OpsF:=(oVal (.tmp 4) (kMove (.con (.int .i64 1))) oNil)
def K89r3:OpsF:=(oVal (.tmp 18) (kUn (fadA 0) (.tmp 3)) (oVal (.tmp 19) (kUn (fadA 0) (.tmp 18)) (oVal (.tmp 20) (kLoad none (.tmp 19)) (oVal (.tmp 21) (kUn (fadA 0) (.tmp 3)) (oVal (.tmp 22) (kUn (fadA 1) (.tmp 21)) (oVal (.tmp 23) (kLoad none (.tmp 22)) (oVal (.tmp 24) (kGtr (.tmp 20) (.tmp 23)) oNil)))))))
def K89r4:OpsF:=(oVal (.tmp 4) (kMove (.con (.int .i64 5))) oNil)
def K89r5:OpsF:=(oVal (.tmp 25) (kUn (fadA 3) (.tmp 3)) (oVal (.tmp 26) (kLoad none (.tmp 25)) (oVal (.tmp 27) (kUn lenSlA (.tmp 26)) (oVal (.tmp 28) (kUn (fadA 7) (.tmp 2)) (oVal (.tmp 29) (kLoad none (.tmp 28)) (oVal (.tmp 30) (kUn lenSlA (.tmp 29)) (oVal (.tmp 31) (kInt aNeq (.tmp 27) (.tmp 30)) oNil)))))))
def K89r6:OpsF:=(oVal (.tmp 4) (kMove (.con (.int .i64 2))) oNil)
def K89r7:OpsF:=(oVal (.tmp 5) (kMove (.con (.int .i64 0))) oNil)
def K89r8:OpsF:=(oVal (.tmp 32) (kMove (.tmp 5)) (oVal (.tmp 33) (kUn (fadA 3) (.tmp 3)) (oVal (.tmp 34) (kLoad none (.tmp 33)) (oVal (.tmp 35) (kUn lenSlA (.tmp 34)) (oVal (.tmp 36) (kInt aLss (.tmp 32) (.tmp 35)) oNil)))))
def K89r9:OpsF:=(oVal (.tmp 39) (kUn (fadA 3) (.tmp 3)) (oVal (.tmp 40) (kLoad none (.tmp 39)) (oVal (.tmp 41) (kMove (.tmp 5)) (oVal (.tmp 42) (kTwo (ixsA 1) (.tmp 40) (.tmp 41)) (oVal (.tmp 43) (kLoad none (.tmp 42)) (oCall (.tmp 44) (.con (.func 87 [] [])) [(.tmp 43),(.con (.int .i64 0)),(.con (.int .i64 9))] (oVal (.tmp 45) (kUn notA (.tmp 44)) oNil)))))))
def K89r10:OpsF:=(oVal (.tmp 4) (kMove (.con (.int .i64 1))) oNil)
def K89r11:OpsF:=(oVal (.tmp 37) (kMove (.tmp 5)) (oVal (.tmp 38) (kInt aAdd (.tmp 37) (.con (.int .i64 1))) (oVal (.tmp 5) (kMove (.tmp 38)) oNil)))
def K89l0:K:=(kSeq (kSeq (kRegion K89r8 [36]) (kCond (.tmp 36) kSkip (kExit 0))) (kSeq (kBlock 1 (kSeq (kRegion K89r9 [45]) (kCond (.tmp 45) (kSeq (kRegion K89r10 [4]) kRet) kSkip))) (kRegion K89r11 [5])))
def K89r12s9:OpsF:=(oVal (.tmp 55) (kPick (.tmp 50) (.con (.bool true)) (.tmp 54)) oNil)
def K89r12s8:OpsF:=(oIf 50 false (oVal (.tmp 54) (kUn notA (.tmp 53)) K89r12s9) (oSkip (.tmp 54) K89r12s9))
def K89r12s7:OpsF:=(oIf 50 false (oCall (.tmp 53) (.con (.func 87 [] [])) [(.tmp 52),(.con (.int .i64 0)),(.con (.int .i64 24))] K89r12s8) (oSkip (.tmp 53) K89r12s8))
def K89r12s6:OpsF:=(oIf 50 false (oVal (.tmp 52) (kLoad none (.tmp 51)) K89r12s7) (oSkip (.tmp 52) K89r12s7))
def K89r12:OpsF:=(oVal (.tmp 46) (kUn (fadA 4) (.tmp 3)) (oVal (.tmp 47) (kLoad none (.tmp 46)) (oCall (.tmp 48) (.con (.func 87 [] [])) [(.tmp 47),(.con (.int .i64 0)),(.con (.int .i64 1000000))] (oVal (.tmp 49) (kUn notA (.tmp 48)) (oVal (.tmp 50) (kMove (.tmp 49)) (oIf 50 false (oVal (.tmp 51) (kUn (fadA 5) (.tmp 3)) K89r12s6) (oSkip (.tmp 51) K89r12s6)))))))
def K89r13:OpsF:=(oVal (.tmp 4) (kMove (.con (.int .i64 1))) oNil)
def K89r14:OpsF:=(oVal (.tmp 4) (kMove (.con (.int .i64 0))) oNil)
theorem res89:Try.f89.results.toList=[.tmp 4]:=by kernel_rfl
def K89:K:=(kSeq (kRegion K89r0 [2,3,4]) (kSeq (kSeq (kRegion K89r1 [17]) (kCond (.tmp 17) (kSeq (kRegion K89r2 [4]) kRet) kSkip)) (kSeq (kSeq (kRegion K89r3 [24]) (kCond (.tmp 24) (kSeq (kRegion K89r4 [4]) kRet) kSkip)) (kSeq (kSeq (kRegion K89r5 [31]) (kCond (.tmp 31) (kSeq (kRegion K89r6 [4]) kRet) kSkip)) (kSeq (kSeq (kRegion K89r7 [5]) (kBlock 0 (kLoop K89l0))) (kSeq (kSeq (kRegion K89r12 [55]) (kCond (.tmp 55) (kSeq (kRegion K89r13 [4]) kRet) kSkip)) (kSeq (kRegion K89r14 [4]) kRet)))))))
theorem enter89 (cl:CallF) (a0 a1:AV) (s:St):enterA Try.prog X cl 89 [a0,a1] s Try.f89=finA Try.prog Try.f89 (K89 cl ⟨89,none,Try.f89.ntmps,X 89⟩ (paramsEnv 0 [a0,a1] .nil) [] s) :=
  enterA_eq (b:=Try.f89.body.getD .skip) (by kernel_rfl) (by kernel_rfl) (by kernel_rfl) (by kernel_rfl) (by kernel_rfl)
def K61r0:OpsF:=(oVal (.tmp 2) (kBox (tag 30) (.tmp 0)) (oVal (.tmp 4) (kMove (.con (.int .i64 0))) oNil))
def K61r1:OpsF:=(oVal (.tmp 9) (kMove (.tmp 1)) (oVal (.tmp 10) (kUn lenSlA (.tmp 9)) (oVal (.tmp 11) (kGtr (.tmp 10) (.con (.int .i64 24))) oNil)))
def K61r2:OpsF:=(oVal (.tmp 4) (kMove (.con (.int .i64 6))) oNil)
def K61r3:OpsF:=(oVal (.tmp 12) (kUn (fadA 7) (.tmp 2)) (oVal (.tmp 13) (kLoad none (.tmp 12)) (oVal (.tmp 14) (kUn lenSlA (.tmp 13)) (oVal (.tmp 15) (kMake [(.int .i64 0)] 8 (.tmp 14) (.tmp 14)) (oVal (.tmp 5) (kMove (.tmp 15)) oNil)))))
def K61r4:OpsF:=(oVal (.tmp 6) (kMove (.con (.int .i64 0))) oNil)
def K61r5:OpsF:=(oVal (.tmp 16) (kMove (.tmp 6)) (oVal (.tmp 17) (kMove (.tmp 1)) (oVal (.tmp 18) (kUn lenSlA (.tmp 17)) (oVal (.tmp 19) (kInt aLss (.tmp 16) (.tmp 18)) oNil))))
def K61r6:OpsF:=(oEnd [] (oVal (.tmp 22) (kLoad (some 8) (.tmp 2)) (oVal (.tmp 23) (kMove (.tmp 1)) (oVal (.tmp 24) (kMove (.tmp 6)) (oVal (.tmp 25) (kSlice (sliceVal 3) (.tmp 23) none (some (.tmp 24))) (oVal (.tmp 26) (kMove (.tmp 1)) (oVal (.tmp 27) (kMove (.tmp 6)) (oVal (.tmp 28) (kTwo (ixsA 3) (.tmp 26) (.tmp 27)) (oVal (.tmp 29) (kLoad (some 3) (.tmp 28)) (oCall (.tmp 30) (.con (.func 90 [] [])) [(.tmp 22),(.tmp 25),(.tmp 29)] (oVal (.tmp 7) (kMove (.tmp 30)) oNil)))))))))))
def K61r7:OpsF:=(oVal (.tmp 31) (kMove (.tmp 7)) (oVal (.tmp 32) (kInt aNeq (.tmp 31) (.con (.int .i64 0))) oNil))
def K61r8:OpsF:=(oVal (.tmp 33) (kMove (.tmp 7)) (oVal (.tmp 4) (kMove (.tmp 33)) oNil))
def K61r9:OpsF:=(oVal (.tmp 34) (kMove (.tmp 5)) (oVal (.tmp 35) (kMove (.tmp 1)) (oVal (.tmp 36) (kMove (.tmp 6)) (oVal (.tmp 37) (kTwo (ixsA 3) (.tmp 35) (.tmp 36)) (oVal (.tmp 38) (kUn (fadA 2) (.tmp 37)) (oVal (.tmp 39) (kLoad none (.tmp 38)) (oVal (.tmp 40) (kTwo (ixsA 1) (.tmp 34) (.tmp 39)) (oVal (.tmp 41) (kLoad none (.tmp 40)) (oVal (.tmp 42) (kInt aAdd (.tmp 41) (.con (.int .i64 1))) (oVal (.tmp 43) (kTwo (ixsA 1) (.tmp 34) (.tmp 39)) (oVal .none (kStore 1 (.tmp 43) (.tmp 42)) oNil)))))))))))
def K61r10:OpsF:=(oVal (.tmp 20) (kMove (.tmp 6)) (oVal (.tmp 21) (kInt aAdd (.tmp 20) (.con (.int .i64 1))) (oVal (.tmp 6) (kMove (.tmp 21)) oNil)))
def K61l0:K:=(kSeq (kSeq (kRegion K61r5 [19]) (kCond (.tmp 19) kSkip (kExit 0))) (kSeq (kBlock 1 (kSeq (kSeq (kRegionD K61r6 [7]) (kSeq (kRegion K61r7 [32]) (kCond (.tmp 32) (kSeq (kRegion K61r8 [4]) kRet) kSkip))) (kRegion K61r9 []))) (kRegion K61r10 [6])))
def K61r11:OpsF:=(oVal (.tmp 8) (kMove (.con (.int .i64 0))) oNil)
def K61r12:OpsF:=(oVal (.tmp 44) (kMove (.tmp 8)) (oVal (.tmp 45) (kMove (.tmp 5)) (oVal (.tmp 46) (kUn lenSlA (.tmp 45)) (oVal (.tmp 47) (kInt aLss (.tmp 44) (.tmp 46)) oNil))))
def K61r13:OpsF:=(oEnd [] (oVal (.tmp 50) (kMove (.tmp 5)) (oVal (.tmp 51) (kMove (.tmp 8)) (oVal (.tmp 52) (kTwo (ixsA 1) (.tmp 50) (.tmp 51)) (oVal (.tmp 53) (kLoad none (.tmp 52)) (oVal (.tmp 54) (kUn (fadA 7) (.tmp 2)) (oVal (.tmp 55) (kLoad none (.tmp 54)) (oVal (.tmp 56) (kMove (.tmp 8)) (oVal (.tmp 57) (kTwo (ixsA 6) (.tmp 55) (.tmp 56)) (oVal (.tmp 58) (kUn (fadA 5) (.tmp 57)) (oVal (.tmp 59) (kLoad none (.tmp 58)) (oVal (.tmp 60) (kGtr (.tmp 53) (.tmp 59)) oNil))))))))))))
def K61r14:OpsF:=(oVal (.tmp 4) (kMove (.con (.int .i64 13))) oNil)
def K61r15:OpsF:=(oVal (.tmp 48) (kMove (.tmp 8)) (oVal (.tmp 49) (kInt aAdd (.tmp 48) (.con (.int .i64 1))) (oVal (.tmp 8) (kMove (.tmp 49)) oNil)))
def K61l1:K:=(kSeq (kSeq (kRegion K61r12 [47]) (kCond (.tmp 47) kSkip (kExit 2))) (kSeq (kBlock 3 (kSeq (kRegionD K61r13 [60]) (kCond (.tmp 60) (kSeq (kRegion K61r14 [4]) kRet) kSkip))) (kRegion K61r15 [8])))
def K61r16:OpsF:=(oVal (.tmp 4) (kMove (.con (.int .i64 0))) oNil)
theorem res61:Try.f61.results.toList=[.tmp 4]:=by kernel_rfl
def K61:K:=(kSeq (kRegion K61r0 [2,4]) (kSeq (kSeq (kRegion K61r1 [11]) (kCond (.tmp 11) (kSeq (kRegion K61r2 [4]) kRet) kSkip)) (kSeq (kRegion K61r3 [5]) (kSeq (kSeq (kRegion K61r4 [6]) (kBlock 0 (kLoop K61l0))) (kSeq (kSeq (kRegion K61r11 [8]) (kBlock 2 (kLoop K61l1))) (kSeq (kRegion K61r16 [4]) kRet))))))
theorem enter61 (cl:CallF) (a0 a1:AV) (s:St):enterA Try.prog X cl 61 [a0,a1] s Try.f61=finA Try.prog Try.f61 (K61 cl ⟨61,none,Try.f61.ntmps,X 61⟩ (paramsEnv 0 [a0,a1] .nil) [] s) :=
  enterA_eq (b:=Try.f61.body.getD .skip) (by kernel_rfl) (by kernel_rfl) (by kernel_rfl) (by kernel_rfl) (by kernel_rfl)
def K90r0:OpsF:=(oVal (.tmp 3) (kBox (tag 30) (.tmp 0)) (oVal (.tmp 5) (kBox (tag 51) (.tmp 2)) (oVal (.tmp 6) (kMove (.con (.int .i64 0))) oNil)))
def K90r1:OpsF:=(oVal (.tmp 10) (kLoad (some 8) (.tmp 3)) (oVal (.tmp 11) (kUn (fadA 0) (.tmp 5)) (oVal (.tmp 12) (kLoad (some 2) (.tmp 11)) (oCall (.tmp 13) (.con (.func 99 [] [])) [(.tmp 10),(.tmp 12)] (oVal (.tmp 14) (kUn notA (.tmp 13)) oNil)))))
def K90r2:OpsF:=(oVal (.tmp 6) (kMove (.con (.int .i64 3))) oNil)
def K90r3:OpsF:=(oVal (.tmp 15) (kUn (fadA 3) (.tmp 3)) (oVal (.tmp 16) (kLoad none (.tmp 15)) (oVal (.tmp 17) (kUn (fadA 0) (.tmp 5)) (oVal (.tmp 18) (kLoad (some 2) (.tmp 17)) (oCall (.tmp 19) (.con (.func 100 [] [])) [(.tmp 16),(.tmp 18)] oNil)))))
def K90r4:OpsF:=(oVal (.tmp 6) (kMove (.con (.int .i64 11))) oNil)
def K90r5:OpsF:=(oVal (.tmp 20) (kUn (fadA 2) (.tmp 5)) (oVal (.tmp 21) (kLoad none (.tmp 20)) (oVal (.tmp 22) (kUn (fadA 7) (.tmp 3)) (oVal (.tmp 23) (kLoad none (.tmp 22)) (oVal (.tmp 24) (kUn lenSlA (.tmp 23)) (oVal (.tmp 25) (kInt aSub (.tmp 24) (.con (.int .i64 1))) (oCall (.tmp 26) (.con (.func 87 [] [])) [(.tmp 21),(.con (.int .i64 0)),(.tmp 25)] (oVal (.tmp 27) (kUn notA (.tmp 26)) oNil))))))))
def K90r6:OpsF:=(oVal (.tmp 6) (kMove (.con (.int .i64 8))) oNil)
def K90r7:OpsF:=(oVal (.tmp 7) (kMove (.con (.int .i64 0))) oNil)
def K90r8:OpsF:=(oVal (.tmp 28) (kMove (.tmp 7)) (oVal (.tmp 29) (kMove (.tmp 1)) (oVal (.tmp 30) (kUn lenSlA (.tmp 29)) (oVal (.tmp 31) (kInt aLss (.tmp 28) (.tmp 30)) oNil))))
def K90r9:OpsF:=(oEnd [] (oVal (.tmp 34) (kMove (.tmp 1)) (oVal (.tmp 35) (kMove (.tmp 7)) (oVal (.tmp 36) (kTwo (ixsA 3) (.tmp 34) (.tmp 35)) (oVal (.tmp 37) (kUn (fadA 0) (.tmp 36)) (oVal (.tmp 38) (kLoad (some 2) (.tmp 37)) (oVal (.tmp 39) (kUn (fadA 0) (.tmp 5)) (oVal (.tmp 40) (kLoad (some 2) (.tmp 39)) (oVal (.tmp 41) (kEql (.row [(0,none,.int),(1,none,.int)]) false (.tmp 38) (.tmp 40)) oNil)))))))))
def K90r10:OpsF:=(oVal (.tmp 6) (kMove (.con (.int .i64 4))) oNil)
def K90r11:OpsF:=(oVal (.tmp 32) (kMove (.tmp 7)) (oVal (.tmp 33) (kInt aAdd (.tmp 32) (.con (.int .i64 1))) (oVal (.tmp 7) (kMove (.tmp 33)) oNil)))
def K90l0:K:=(kSeq (kSeq (kRegion K90r8 [31]) (kCond (.tmp 31) kSkip (kExit 0))) (kSeq (kBlock 1 (kSeq (kRegionD K90r9 [41]) (kCond (.tmp 41) (kSeq (kRegion K90r10 [6]) kRet) kSkip))) (kRegion K90r11 [7])))
def K90r12s14:OpsF:=(oVal (.tmp 56) (kPick (.tmp 49) (.tmp 55) (.con (.bool false))) oNil)
def K90r12s13:OpsF:=(oIf 49 true (oVal (.tmp 55) (kUn notA (.tmp 54)) K90r12s14) (oSkip (.tmp 55) K90r12s14))
def K90r12s12:OpsF:=(oIf 49 true (oCall (.tmp 54) (.con (.func 100 [] [])) [(.tmp 51),(.tmp 53)] K90r12s13) (oSkip (.tmp 54) K90r12s13))
def K90r12s11:OpsF:=(oIf 49 true (oVal (.tmp 53) (kLoad (some 2) (.tmp 52)) K90r12s12) (oSkip (.tmp 53) K90r12s12))
def K90r12s10:OpsF:=(oIf 49 true (oVal (.tmp 52) (kUn (fadA 0) (.tmp 5)) K90r12s11) (oSkip (.tmp 52) K90r12s11))
def K90r12s9:OpsF:=(oIf 49 true (oVal (.tmp 51) (kLoad none (.tmp 50)) K90r12s10) (oSkip (.tmp 51) K90r12s10))
def K90r12:OpsF:=(oVal (.tmp 42) (kUn (fadA 7) (.tmp 3)) (oVal (.tmp 43) (kLoad none (.tmp 42)) (oVal (.tmp 44) (kUn (fadA 2) (.tmp 5)) (oVal (.tmp 45) (kLoad none (.tmp 44)) (oVal (.tmp 46) (kTwo (ixsA 6) (.tmp 43) (.tmp 45)) (oVal (.tmp 47) (kUn (fadA 2) (.tmp 46)) (oVal (.tmp 48) (kLoad none (.tmp 47)) (oVal (.tmp 49) (kMove (.tmp 48)) (oIf 49 true (oVal (.tmp 50) (kUn (fadA 2) (.tmp 3)) K90r12s9) (oSkip (.tmp 50) K90r12s9))))))))))
def K90r13:OpsF:=(oVal (.tmp 6) (kMove (.con (.int .i64 7))) oNil)
def K90r14:OpsF:=(oVal (.tmp 8) (kMove (.con (.int .i64 0))) oNil)
def K90r15:OpsF:=(oVal (.tmp 57) (kMove (.tmp 8)) (oVal (.tmp 58) (kMove (.tmp 1)) (oVal (.tmp 59) (kUn lenSlA (.tmp 58)) (oVal (.tmp 60) (kInt aLss (.tmp 57) (.tmp 59)) oNil))))
def K90r16:OpsF:=(oVal (.tmp 63) (kMove (.tmp 1)) (oVal (.tmp 64) (kMove (.tmp 8)) (oVal (.tmp 65) (kTwo (ixsA 3) (.tmp 63) (.tmp 64)) (oVal (.tmp 66) (kLoad (some 3) (.tmp 65)) (oVal (.tmp 9) (kAlloc [(.int .i64 0),(.int .i64 0),(.int .i64 0)] (tag 51)) (oVal .none (kStore 3 (.tmp 9) (.tmp 66)) oNil))))))
def K90r17:OpsF:=(oEnd [] (oVal (.tmp 67) (kUn (fadA 0) (.tmp 9)) (oVal (.tmp 68) (kLoad (some 2) (.tmp 67)) (oVal (.tmp 69) (kUn (fadA 0) (.tmp 5)) (oVal (.tmp 70) (kLoad (some 2) (.tmp 69)) (oCallT (some [72,74,77,79,81,83,85,88,90,92]) (.tmp 71) (.con (.func 101 [] [])) [(.tmp 68),(.tmp 70)] (oVal (.tmp 72) (kUn (fadA 7) (.tmp 3)) (oVal (.tmp 73) (kLoad none (.tmp 72)) (oVal (.tmp 74) (kUn (fadA 2) (.tmp 5)) (oVal (.tmp 75) (kLoad none (.tmp 74)) (oVal (.tmp 76) (kTwo (ixsA 6) (.tmp 73) (.tmp 75)) (oVal (.tmp 77) (kUn (fadA 3) (.tmp 76)) (oVal (.tmp 78) (kLoad none (.tmp 77)) (oVal (.tmp 79) (kUn (fadA 2) (.tmp 9)) (oVal (.tmp 80) (kLoad none (.tmp 79)) (oVal (.tmp 81) (kTwo (ixsA 1) (.tmp 78) (.tmp 80)) (oVal (.tmp 82) (kLoad none (.tmp 81)) (oVal (.tmp 83) (kUn (fadA 7) (.tmp 3)) (oVal (.tmp 84) (kLoad none (.tmp 83)) (oVal (.tmp 85) (kUn (fadA 2) (.tmp 9)) (oVal (.tmp 86) (kLoad none (.tmp 85)) (oVal (.tmp 87) (kTwo (ixsA 6) (.tmp 84) (.tmp 86)) (oVal (.tmp 88) (kUn (fadA 3) (.tmp 87)) (oVal (.tmp 89) (kLoad none (.tmp 88)) (oVal (.tmp 90) (kUn (fadA 2) (.tmp 5)) (oVal (.tmp 91) (kLoad none (.tmp 90)) (oVal (.tmp 92) (kTwo (ixsA 1) (.tmp 89) (.tmp 91)) (oVal (.tmp 93) (kLoad none (.tmp 92)) (oVal (.tmp 94) (kFold maxA (.tmp 82) [(.tmp 93)]) (oVal (.tmp 95) (kInt aLss (.tmp 71) (.tmp 94)) oNil))))))))))))))))))))))))))))))
def K90r18:OpsF:=(oVal (.tmp 6) (kMove (.con (.int .i64 9))) oNil)
def K90r19:OpsF:=(oVal (.tmp 61) (kMove (.tmp 8)) (oVal (.tmp 62) (kInt aAdd (.tmp 61) (.con (.int .i64 1))) (oVal (.tmp 8) (kMove (.tmp 62)) oNil)))
def K90l1:K:=(kSeq (kSeq (kRegion K90r15 [60]) (kCond (.tmp 60) kSkip (kExit 2))) (kSeq (kBlock 3 (kSeq (kRegion K90r16 [9]) (kSeq (kRegionD K90r17 [95]) (kCond (.tmp 95) (kSeq (kRegion K90r18 [6]) kRet) kSkip)))) (kRegion K90r19 [8])))
def K90r20:OpsF:=(oVal (.tmp 6) (kMove (.con (.int .i64 0))) oNil)
theorem res90:Try.f90.results.toList=[.tmp 6]:=by kernel_rfl
def K90:K:=(kSeq (kRegion K90r0 [3,5,6]) (kSeq (kSeq (kRegion K90r1 [14]) (kCond (.tmp 14) (kSeq (kRegion K90r2 [6]) kRet) kSkip)) (kSeq (kSeq (kRegion K90r3 [19]) (kCond (.tmp 19) (kSeq (kRegion K90r4 [6]) kRet) kSkip)) (kSeq (kSeq (kRegion K90r5 [27]) (kCond (.tmp 27) (kSeq (kRegion K90r6 [6]) kRet) kSkip)) (kSeq (kSeq (kRegion K90r7 [7]) (kBlock 0 (kLoop K90l0))) (kSeq (kSeq (kRegion K90r12 [56]) (kCond (.tmp 56) (kSeq (kRegion K90r13 [6]) kRet) kSkip)) (kSeq (kSeq (kRegion K90r14 [8]) (kBlock 2 (kLoop K90l1))) (kSeq (kRegion K90r20 [6]) kRet))))))))
theorem enter90 (cl:CallF) (a0 a1 a2:AV) (s:St):enterA Try.prog X cl 90 [a0,a1,a2] s Try.f90=finA Try.prog Try.f90 (K90 cl ⟨90,none,Try.f90.ntmps,X 90⟩ (paramsEnv 0 [a0,a1,a2] .nil) [] s) :=
  enterA_eq (b:=Try.f90.body.getD .skip) (by kernel_rfl) (by kernel_rfl) (by kernel_rfl) (by kernel_rfl) (by kernel_rfl)
def K101r0:OpsF:=(oVal (.tmp 2) (kBox (tag 27) (.tmp 0)) (oVal (.tmp 3) (kBox (tag 27) (.tmp 1)) (oVal (.tmp 4) (kMove (.con (.int .i64 0))) oNil)))
def K101r1:OpsF:=(oVal (.tmp 5) (kUn (fadA 0) (.tmp 2)) (oVal (.tmp 6) (kLoad none (.tmp 5)) (oVal (.tmp 7) (kUn (fadA 0) (.tmp 3)) (oVal (.tmp 8) (kLoad none (.tmp 7)) (oVal (.tmp 9) (kInt aSub (.tmp 6) (.tmp 8)) (oVal (.tmp 10) (kUn (fadA 0) (.tmp 3)) (oVal (.tmp 11) (kLoad none (.tmp 10)) (oVal (.tmp 12) (kUn (fadA 0) (.tmp 2)) (oVal (.tmp 13) (kLoad none (.tmp 12)) (oVal (.tmp 14) (kInt aSub (.tmp 11) (.tmp 13)) (oVal (.tmp 15) (kFold maxA (.tmp 9) [(.tmp 14)]) (oVal (.tmp 16) (kUn (fadA 1) (.tmp 2)) (oVal (.tmp 17) (kLoad none (.tmp 16)) (oVal (.tmp 18) (kUn (fadA 1) (.tmp 3)) (oVal (.tmp 19) (kLoad none (.tmp 18)) (oVal (.tmp 20) (kInt aSub (.tmp 17) (.tmp 19)) (oVal (.tmp 21) (kUn (fadA 1) (.tmp 3)) (oVal (.tmp 22) (kLoad none (.tmp 21)) (oVal (.tmp 23) (kUn (fadA 1) (.tmp 2)) (oVal (.tmp 24) (kLoad none (.tmp 23)) (oVal (.tmp 25) (kInt aSub (.tmp 22) (.tmp 24)) (oVal (.tmp 26) (kFold maxA (.tmp 20) [(.tmp 25)]) (oVal (.tmp 27) (kInt aAdd (.tmp 15) (.tmp 26)) (oVal (.tmp 4) (kMove (.tmp 27)) oNil))))))))))))))))))))))))
theorem res101:Try.f101.results.toList=[.tmp 4]:=by kernel_rfl
def K101:K:=(kSeq (kRegion K101r0 [2,3,4]) (kSeq (kRegion K101r1 [4]) kRet))
theorem enter101 (cl:CallF) (a0 a1:AV) (s:St):enterA Try.prog X cl 101 [a0,a1] s Try.f101=finA Try.prog Try.f101 (K101 cl ⟨101,none,Try.f101.ntmps,X 101⟩ (paramsEnv 0 [a0,a1] .nil) [] s) :=
  enterA_eq (b:=Try.f101.body.getD .skip) (by kernel_rfl) (by kernel_rfl) (by kernel_rfl) (by kernel_rfl) (by kernel_rfl)
end
end Go.Proofs.Ytoklbkgcclkejaa.code
set_option maxRecDepth 100000
namespace Go.Proofs.Ytoklbkgcclkejaa.code
open Go.Abs
noncomputable section
end
end Go.Proofs.Ytoklbkgcclkejaa.code
set_option maxRecDepth 100000
namespace Go.Proofs.Ytoklbkgcclkejaa.code
open Go.Abs
noncomputable section
end
end Go.Proofs.Ytoklbkgcclkejaa.code
set_option maxRecDepth 100000
namespace Go.Proofs.Ytoklbkgcclkejaa.code
open Go.Abs
noncomputable section
def K6r2:OpsF:=(oVal (.tmp 17) (kMove (.tmp 3)) (oCall (.tmp 18) (.con (.func 11 [] [])) [(.tmp 17),(.con (.int .i64 4)),(.con (.int .i64 3)),(.con (.int .i64 3))] (oVal (.tmp 4) (kAlloc [(.int .i64 0),(.int .i64 0),.nilslice,.nilslice,(.int .i64 0),(.int .i64 0),.nilslice,.nilslice] (tag 30)) (oVal .none (kStore 8 (.tmp 4) (.tmp 18)) oNil))))
def K6r3:OpsF:=(oVal (.tmp 19) (kMove (.tmp 3)) (oVal (.tmp 20) (kLoad (some 8) (.tmp 4)) (oCall (.tmp 21) (.con (.func 12 [] [])) [(.tmp 19),(.tmp 20),(.con (.int .i64 5))] (oVal (.tmp 5) (kMove (.tmp 21)) oNil))))
def K6r4:OpsF:=(oVal (.tmp 22) (kMove (.tmp 3)) (oVal (.tmp 23) (kUn (fadA 7) (.tmp 4)) (oVal (.tmp 24) (kLoad none (.tmp 23)) (oVal (.tmp 25) (kUn lenSlA (.tmp 24)) (oCall (.tmp 26) (.con (.func 25 [] [])) [(.tmp 22),(.tmp 25)] (oVal (.tmp 6) (kMove (.tmp 26)) oNil))))))
def K6r5:OpsF:=(oVal (.tmp 28) (kLoad (some 8) (.tmp 4)) (oVal (.tmp 29) (kMove (.tmp 5)) (oVal (.tmp 30) (kMove (.tmp 6)) (oCall (.tmp 31) (.con (.func 26 [] [])) [(.tmp 28),(.tmp 29),(.tmp 30)] (oVal (.tmp 27) (kMove (.tmp 31)) (oVal (.tmp 32) (kUn (extA 0) (.tmp 27)) (oVal (.tmp 33) (kUn (extA 1) (.tmp 27)) (oVal (.tmp 7) (kMove (.tmp 32)) (oVal (.tmp 8) (kMove (.tmp 33)) oNil)))))))))
def K6r6:OpsF:=(oVal (.tmp 34) (kMove (.tmp 8)) (oVal (.tmp 35) (kInt aNeq (.tmp 34) (.con (.int .i64 0))) oNil))
def K6r7:OpsF:=(oVal (.tmp 2) (kMove (.con (.bool false))) oNil)
def K6r8:OpsF:=(oVal (.tmp 9) (kMove (.con (.int .i64 0))) oNil)
def K6r9:OpsF:=(oVal (.tmp 10) (kMove (.con (.int .i64 (-1)))) oNil)
def K6r10:OpsF:=(oVal (.tmp 36) (kMove (.tmp 10)) (oVal (.tmp 37) (kUn (fadA 1) (.tmp 4)) (oVal (.tmp 38) (kLoad none (.tmp 37)) (oVal (.tmp 39) (kInt aLeq (.tmp 36) (.tmp 38)) oNil))))
def K6r11:OpsF:=(oVal (.tmp 11) (kMove (.con (.int .i64 (-1)))) oNil)
def K6r12:OpsF:=(oVal (.tmp 42) (kMove (.tmp 11)) (oVal (.tmp 43) (kUn (fadA 0) (.tmp 4)) (oVal (.tmp 44) (kLoad none (.tmp 43)) (oVal (.tmp 45) (kInt aLeq (.tmp 42) (.tmp 44)) oNil))))
def K6r13:OpsF:=(oVal (.tmp 48) (kMove (.tmp 5)) (oCall (.tmp 49) (.con (.func 27 [] [])) [(.tmp 48)] (oVal (.tmp 50) (kMove (.tmp 6)) (oVal (.tmp 51) (kMove (.tmp 11)) (oVal (.tmp 52) (kMove (.tmp 10)) (oCall (.tmp 53) (.con (.func 28 [] [])) [(.tmp 50),(.tmp 51),(.tmp 52)] (oVal (.tmp 54) (kBuildSlice [(.int .i64 0),(.int .i64 0),(.int .i64 0)] 1 [(0,3,(.tmp 53))]) (oVal (.tmp 55) (kTwo (appendA false 3 24 (tag 51)) (.tmp 49) (.tmp 54)) (oVal (.tmp 12) (kMove (.tmp 55)) oNil)))))))))
def K6r14:OpsF:=(oVal (.tmp 57) (kLoad (some 8) (.tmp 4)) (oVal (.tmp 58) (kMove (.tmp 12)) (oCall (.tmp 59) (.con (.func 14 [] [])) [(.tmp 57),(.tmp 58)] (oVal (.tmp 56) (kMove (.tmp 59)) (oVal (.tmp 60) (kUn (extA 0) (.tmp 56)) (oVal (.tmp 61) (kUn (extA 1) (.tmp 56)) (oVal (.tmp 13) (kMove (.tmp 60)) (oVal (.tmp 14) (kMove (.tmp 61)) oNil))))))))
def K6r15s5:OpsF:=(oVal (.tmp 67) (kPick (.tmp 64) (.con (.bool true)) (.tmp 66)) oNil)
def K6r15s4:OpsF:=(oIf 64 false (oVal (.tmp 66) (kInt aNeq (.tmp 65) (.con (.int .i64 1))) K6r15s5) (oSkip (.tmp 66) K6r15s5))
def K6r15:OpsF:=(oVal (.tmp 62) (kMove (.tmp 14)) (oVal (.tmp 63) (kInt aNeq (.tmp 62) (.con (.int .i64 0))) (oVal (.tmp 64) (kMove (.tmp 63)) (oIf 64 false (oVal (.tmp 65) (kMove (.tmp 13)) K6r15s4) (oSkip (.tmp 65) K6r15s4)))))
def K6r16s13:OpsF:=(oVal (.tmp 81) (kPick (.tmp 72) (.con (.bool true)) (.tmp 80)) oNil)
def K6r16s12:OpsF:=(oIf 72 false (oVal (.tmp 80) (kEql (.row [(0,none,.int),(1,none,.int)]) true (.tmp 76) (.tmp 79)) K6r16s13) (oSkip (.tmp 80) K6r16s13))
def K6r16s11:OpsF:=(oIf 72 false (oVal (.tmp 79) (kBuild [(.int .i64 0),(.int .i64 0)] [(0,1,(.tmp 77)),(1,1,(.tmp 78))]) K6r16s12) (oSkip (.tmp 79) K6r16s12))
def K6r16s10:OpsF:=(oIf 72 false (oVal (.tmp 78) (kMove (.tmp 10)) K6r16s11) (oSkip (.tmp 78) K6r16s11))
def K6r16s9:OpsF:=(oIf 72 false (oVal (.tmp 77) (kMove (.tmp 11)) K6r16s10) (oSkip (.tmp 77) K6r16s10))
def K6r16s8:OpsF:=(oIf 72 false (oVal (.tmp 76) (kLoad (some 2) (.tmp 75)) K6r16s9) (oSkip (.tmp 76) K6r16s9))
def K6r16s7:OpsF:=(oIf 72 false (oVal (.tmp 75) (kTwo (ixsA 2) (.tmp 73) (.tmp 74)) K6r16s8) (oSkip (.tmp 75) K6r16s8))
def K6r16s6:OpsF:=(oIf 72 false (oVal (.tmp 74) (kMove (.tmp 9)) K6r16s7) (oSkip (.tmp 74) K6r16s7))
def K6r16:OpsF:=(oVal (.tmp 68) (kMove (.tmp 9)) (oVal (.tmp 69) (kMove (.tmp 7)) (oVal (.tmp 70) (kUn lenSlA (.tmp 69)) (oVal (.tmp 71) (kInt aGeq (.tmp 68) (.tmp 70)) (oVal (.tmp 72) (kMove (.tmp 71)) (oIf 72 false (oVal (.tmp 73) (kMove (.tmp 7)) K6r16s6) (oSkip (.tmp 73) K6r16s6)))))))
def K6r17:OpsF:=(oVal (.tmp 2) (kMove (.con (.bool false))) oNil)
def K6r18:OpsF:=(oVal (.tmp 82) (kMove (.tmp 9)) (oVal (.tmp 83) (kInt aAdd (.tmp 82) (.con (.int .i64 1))) (oVal (.tmp 9) (kMove (.tmp 83)) oNil)))
def K6r19:OpsF:=(oVal (.tmp 46) (kMove (.tmp 11)) (oVal (.tmp 47) (kInt aAdd (.tmp 46) (.con (.int .i64 1))) (oVal (.tmp 11) (kMove (.tmp 47)) oNil)))
def K6l0:K:=(kSeq (kSeq (kRegion K6r12 [45]) (kCond (.tmp 45) kSkip (kExit 2))) (kSeq (kBlock 3 (kSeq (kRegion K6r13 [12]) (kSeq (kRegion K6r14 [13,14]) (kSeq (kSeq (kRegion K6r15 [67]) (kCond (.tmp 67) (kExit 3) kSkip)) (kSeq (kSeq (kRegion K6r16 [81]) (kCond (.tmp 81) (kSeq (kRegion K6r17 [2]) kRet) kSkip)) (kRegion K6r18 [9])))))) (kRegion K6r19 [11])))
def K6r20:OpsF:=(oVal (.tmp 40) (kMove (.tmp 10)) (oVal (.tmp 41) (kInt aAdd (.tmp 40) (.con (.int .i64 1))) (oVal (.tmp 10) (kMove (.tmp 41)) oNil)))
def K6l1:K:=(kSeq (kSeq (kRegion K6r10 [39]) (kCond (.tmp 39) kSkip (kExit 0))) (kSeq (kBlock 1 (kSeq (kRegion K6r11 [11]) (kBlock 2 (kLoop K6l0)))) (kRegion K6r20 [10])))
def K6r21s6:OpsF:=(oVal (.tmp 90) (kPick (.tmp 88) (.tmp 89) (.con (.bool false))) (oVal (.tmp 2) (kMove (.tmp 90)) oNil))
def K6r21:OpsF:=(oVal (.tmp 84) (kMove (.tmp 9)) (oVal (.tmp 85) (kMove (.tmp 7)) (oVal (.tmp 86) (kUn lenSlA (.tmp 85)) (oVal (.tmp 87) (kInt aEql (.tmp 84) (.tmp 86)) (oVal (.tmp 88) (kMove (.tmp 87)) (oIf 88 true (oCall (.tmp 89) (.con (.func 19 [] [])) [] K6r21s6) (oSkip (.tmp 89) K6r21s6)))))))
theorem res6:Try.f6.results.toList=[.tmp 2]:=by kernel_rfl
def K26r0:OpsF:=(oVal (.tmp 3) (kBox (tag 30) (.tmp 0)) (oVal (.tmp 4) (kBox (tag 32) (.tmp 1)) (oVal (.tmp 5) (kBox (tag 3) (.tmp 2)) (oVal (.tmp 6) (kMove (.con .nilslice)) (oVal (.tmp 7) (kMove (.con (.int .i64 0))) oNil)))))
def K26r1:OpsF:=(oEnd [] (oVal (.tmp 12) (kLoad (some 8) (.tmp 3)) (oVal (.tmp 13) (kLoad none (.tmp 4)) (oCallT (some [3,5]) (.tmp 14) (.con (.func 43 [] [])) [(.tmp 12),(.tmp 13)] (oVal (.tmp 15) (kLoad (some 8) (.tmp 3)) (oVal (.tmp 16) (kLoad none (.tmp 5)) (oCall (.tmp 17) (.con (.func 52 [] [])) [(.tmp 15),(.tmp 16)] (oVal (.tmp 18) (kBuildSlice [(.int .i64 0),(.int .i64 0)] 2 [(0,1,(.tmp 14)),(1,1,(.tmp 17))]) (oCall (.tmp 19) (.con (.func 51 [] [])) [(.tmp 18)] (oVal (.tmp 8) (kMove (.tmp 19)) oNil))))))))))
def K26r2:OpsF:=(oVal (.tmp 20) (kMove (.tmp 8)) (oVal (.tmp 21) (kInt aNeq (.tmp 20) (.con (.int .i64 0))) oNil))
def K26r3:OpsF:=(oVal (.tmp 22) (kMove (.tmp 8)) (oVal (.tmp 6) (kMove (.con .nilslice)) (oVal (.tmp 7) (kMove (.tmp 22)) oNil)))
def K26r4:OpsF:=(oVal (.tmp 23) (kLoad (some 8) (.tmp 3)) (oCall (.tmp 24) (.con (.func 44 [] [])) [(.tmp 23)] (oVal (.tmp 9) (kAlloc [.nilptr] (tag 78)) (oVal .none (kStore 1 (.tmp 9) (.tmp 24)) oNil))))
def K26r5:OpsF:=(oVal (.tmp 25) (kLoad none (.tmp 9)) (oVal (.tmp 26) (kLoad none (.tmp 4)) (oCall (.tmp 27) (.con (.func 46 [] [])) [(.tmp 25),(.tmp 26)] (oVal (.tmp 28) (kInt aNeq (.tmp 27) (.con (.int .i64 1))) oNil))))
def K26r6:OpsF:=(oVal (.tmp 6) (kMove (.con .nilslice)) (oVal (.tmp 7) (kMove (.con (.int .i64 0))) oNil))
def K26r7:OpsF:=(oVal (.tmp 10) (kAlloc [.nilslice] (tag 25)) oNil)
def K26r8:OpsF:=(oVal (.tmp 29) (kLoad (some 8) (.tmp 3)) (oCall (.tmp 30) (.con (.func 53 [] [])) [(.tmp 29)] oNil))
def K26r9:OpsF:=(oVal (.tmp 42) (kLoad none (.tmp 10)) (oVal (.tmp 6) (kMove (.tmp 42)) (oVal (.tmp 7) (kMove (.con (.int .i64 0))) oNil)))
theorem res26:Try.f26.results.toList=[.tmp 6,.tmp 7]:=by kernel_rfl
def K26:K:=(kSeq (kRegion K26r0 [3,4,5,6,7]) (kSeq (kSeq (kRegionD K26r1 [8]) (kSeq (kRegion K26r2 [21]) (kCond (.tmp 21) (kSeq (kRegion K26r3 [6,7]) kRet) kSkip))) (kSeq (kRegion K26r4 [9]) (kSeq (kSeq (kRegion K26r5 [28]) (kCond (.tmp 28) (kSeq (kRegion K26r6 [6,7]) kRet) kSkip)) (kSeq (kRegion K26r7 [10]) (kSeq (kSeq (kRegion K26r8 [30]) (kBlock 0 (kRange (.tmp 30) [31] (rangeAt Try.f26 0).1 (rangeAt Try.f26 0).2))) (kSeq (kRegion K26r9 [6,7]) kRet)))))))
theorem enter26 (cl:CallF) (a0 a1 a2:AV) (s:St):enterA Try.prog X cl 26 [a0,a1,a2] s Try.f26=finA Try.prog Try.f26 (K26 cl ⟨26,none,Try.f26.ntmps,X 26⟩ (paramsEnv 0 [a0,a1,a2] .nil) [] s) :=
  enterA_eq (b:=Try.f26.body.getD .skip) (by kernel_rfl) (by kernel_rfl) (by kernel_rfl) (by kernel_rfl) (by kernel_rfl)
def K26a0r0:OpsF:=(oVal (.tmp 11) (kAlloc [(.int .i64 0),(.int .i64 0)] (tag 27)) (oVal .none (kStore 2 (.tmp 11) (.tmp 31)) oNil))
def K26a0:K:=(kRegion K26a0r0 [11])
theorem code26a0:codeK Try.prog (X 26) Try.f26.ntmps (rangeAt Try.f26 0).1=some K26a0:=by kernel_rfl
def K26b0r0:OpsF:=(oVal (.tmp 32) (kLoad none (.tmp 9)) (oVal (.tmp 33) (kLoad none (.tmp 4)) (oVal (.tmp 34) (kLoad (some 2) (.tmp 11)) (oVal (.tmp 35) (kLoad none (.tmp 5)) (oVal (.tmp 36) (kBuild [(.int .i64 0),(.int .i64 0),(.int .i64 0)] [(0,2,(.tmp 34)),(2,1,(.tmp 35))]) (oCall (.tmp 37) (.con (.func 54 [] [])) [(.tmp 32),(.tmp 33),(.tmp 36)] oNil))))))
def K26b0r1:OpsF:=(oVal (.tmp 38) (kLoad none (.tmp 10)) (oVal (.tmp 39) (kLoad (some 2) (.tmp 11)) (oVal (.tmp 40) (kBuildSlice [(.int .i64 0),(.int .i64 0)] 1 [(0,2,(.tmp 39))]) (oVal (.tmp 41) (kTwo (appendA false 2 16 (tag 27)) (.tmp 38) (.tmp 40)) (oVal .none (kStore 1 (.tmp 10) (.tmp 41)) oNil)))))
def K26b0:K:=(kBlock 1 (kSeq (kRegion K26b0r0 [37]) (kCond (.tmp 37) (kRegion K26b0r1 []) kSkip)))
theorem code26b0:codeK Try.prog (X 26) Try.f26.ntmps (rangeAt Try.f26 0).2=some K26b0:=by kernel_rfl
def K54r0:OpsF:=(oVal (.tmp 5) (kBox (tag 51) (.tmp 2)) (oVal (.tmp 6) (kMove (.con (.bool false))) oNil))
def K54r1s21:OpsF:=(oVal (.tmp 28) (kPick (.tmp 23) (.tmp 27) (.con (.bool false))) (oVal (.tmp 6) (kMove (.tmp 28)) oNil))
def K54r1s20:OpsF:=(oIf 23 true (oCall (.tmp 27) (.con (.func 76 [] [])) [(.tmp 24),(.tmp 25),(.tmp 26)] K54r1s21) (oSkip (.tmp 27) K54r1s21))
def K54r1s19:OpsF:=(oIf 23 true (oVal (.tmp 26) (kLoad (some 3) (.tmp 5)) K54r1s20) (oSkip (.tmp 26) K54r1s20))
def K54r1s18:OpsF:=(oIf 23 true (oVal (.tmp 25) (kMove (.tmp 1)) K54r1s19) (oSkip (.tmp 25) K54r1s19))
def K54r1s15:OpsF:=(oVal (.tmp 22) (kPick (.tmp 12) (.tmp 21) (.con (.bool false))) (oVal (.tmp 23) (kMove (.tmp 22)) (oIf 23 true (oVal (.tmp 24) (kMove (.tmp 0)) K54r1s18) (oSkip (.tmp 24) K54r1s18))))
def K54r1s14:OpsF:=(oIf 12 true (oVal (.tmp 21) (kInt aLss (.tmp 16) (.tmp 20)) K54r1s15) (oSkip (.tmp 21) K54r1s15))
def K54r1s13:OpsF:=(oIf 12 true (oVal (.tmp 20) (kUn (fldA none 5) (.tmp 19)) K54r1s14) (oSkip (.tmp 20) K54r1s14))
def K54r1s12:OpsF:=(oIf 12 true (oCall (.tmp 19) (.con (.func 74 [] [])) [(.tmp 17),(.tmp 18)] K54r1s13) (oSkip (.tmp 19) K54r1s13))
def K54r1s11:OpsF:=(oIf 12 true (oVal (.tmp 18) (kLoad (some 3) (.tmp 5)) K54r1s12) (oSkip (.tmp 18) K54r1s12))
def K54r1s10:OpsF:=(oIf 12 true (oVal (.tmp 17) (kMove (.tmp 0)) K54r1s11) (oSkip (.tmp 17) K54r1s11))
def K54r1s9:OpsF:=(oIf 12 true (oCallT (some [5]) (.tmp 16) (.con (.func 64 [] [])) [(.tmp 13),(.tmp 15)] K54r1s10) (oSkip (.tmp 16) K54r1s10))
def K54r1s8:OpsF:=(oIf 12 true (oVal (.tmp 15) (kLoad none (.tmp 14)) K54r1s9) (oSkip (.tmp 15) K54r1s9))
def K54r1s7:OpsF:=(oIf 12 true (oVal (.tmp 14) (kUn (fadA 2) (.tmp 5)) K54r1s8) (oSkip (.tmp 14) K54r1s8))
def K54r1:OpsF:=(oEnd [] (oVal (.tmp 7) (kMove (.tmp 0)) (oVal (.tmp 8) (kMove (.tmp 1)) (oVal (.tmp 9) (kLoad (some 3) (.tmp 5)) (oCall (.tmp 10) (.con (.func 63 [] [])) [(.tmp 7),(.tmp 8),(.tmp 9)] (oVal (.tmp 11) (kInt aEql (.tmp 10) (.con (.int .i64 0))) (oVal (.tmp 12) (kMove (.tmp 11)) (oIf 12 true (oVal (.tmp 13) (kMove (.tmp 1)) K54r1s7) (oSkip (.tmp 13) K54r1s7)))))))))
theorem res54:Try.f54.results.toList=[.tmp 6]:=by kernel_rfl
def K54:K:=(kSeq (kRegion K54r0 [5,6]) (kSeq (kRegionD K54r1 [6]) kRet))
theorem enter54 (cl:CallF) (a0 a1 a2:AV) (s:St):enterA Try.prog X cl 54 [a0,a1,a2] s Try.f54=finA Try.prog Try.f54 (K54 cl ⟨54,none,Try.f54.ntmps,X 54⟩ (paramsEnv 0 [a0,a1,a2] .nil) [] s) :=
  enterA_eq (b:=Try.f54.body.getD .skip) (by kernel_rfl) (by kernel_rfl) (by kernel_rfl) (by kernel_rfl) (by kernel_rfl)
def K76r0:OpsF:=(oVal (.tmp 5) (kBox (tag 51) (.tmp 2)) (oVal (.tmp 6) (kMove (.con (.bool false))) oNil))
def K76r1:OpsF:=(oVal (.tmp 11) (kMove (.tmp 0)) (oVal (.tmp 12) (kLoad (some 3) (.tmp 5)) (oCall (.tmp 13) (.con (.func 72 [] [])) [(.tmp 11),(.tmp 12)] (oVal (.tmp 14) (kUn (fldA none 2) (.tmp 13)) (oVal (.tmp 7) (kMove (.tmp 14)) oNil)))))
def K76r2:OpsF:=(oVal (.tmp 15) (kMove (.tmp 0)) (oVal (.tmp 16) (kLoad (some 3) (.tmp 5)) (oCall (.tmp 17) (.con (.func 74 [] [])) [(.tmp 15),(.tmp 16)] (oVal (.tmp 18) (kUn (fldA (some 2) 0) (.tmp 17)) (oVal (.tmp 8) (kAlloc [(.int .i64 0),(.int .i64 0)] (tag 44)) (oVal .none (kStore 2 (.tmp 8) (.tmp 18)) oNil))))))
def K76r3:OpsF:=(oVal (.tmp 19) (kMove (.tmp 1)) (oVal (.tmp 20) (kUn lenSlA (.tmp 19)) (oVal (.tmp 21) (kMove (.con (.int .i64 0))) oNil)))
def K76r4:OpsF:=(oVal (.tmp 22) (kInt aLss (.tmp 21) (.tmp 20)) oNil)
def K76r5:OpsF:=(oVal (.tmp 23) (kTwo (ixsA 3) (.tmp 19) (.tmp 21)) (oVal (.tmp 24) (kLoad (some 3) (.tmp 23)) (oVal (.tmp 10) (kAlloc [(.int .i64 0),(.int .i64 0),(.int .i64 0)] (tag 51)) (oVal .none (kStore 3 (.tmp 10) (.tmp 24)) oNil))))
def K76r6:OpsF:=(oVal (.tmp 25) (kMove (.tmp 0)) (oVal (.tmp 26) (kLoad (some 3) (.tmp 10)) (oCall (.tmp 27) (.con (.func 72 [] [])) [(.tmp 25),(.tmp 26)] (oVal (.tmp 28) (kUn (fldA none 2) (.tmp 27)) (oVal (.tmp 29) (kMove (.tmp 7)) (oVal (.tmp 30) (kInt aEql (.tmp 28) (.tmp 29)) oNil))))))
def K76r7:OpsF:=(oEnd [] (oVal (.tmp 31) (kLoad (some 2) (.tmp 8)) (oVal (.tmp 32) (kMove (.tmp 0)) (oVal (.tmp 33) (kLoad (some 3) (.tmp 10)) (oCallT (some [8]) (.tmp 34) (.con (.func 74 [] [])) [(.tmp 32),(.tmp 33)] (oVal (.tmp 35) (kUn (fldA (some 2) 0) (.tmp 34)) (oVal (.tmp 36) (kBuildSlice [(.int .i64 0),(.int .i64 0),(.int .i64 0),(.int .i64 0)] 2 [(0,2,(.tmp 31)),(2,2,(.tmp 35))]) (oCall (.tmp 37) (.con (.func 73 [] [])) [(.tmp 36)] (oVal .none (kStore 2 (.tmp 8) (.tmp 37)) oNil)))))))))
def K76r8:OpsF:=(oVal (.tmp 38) (kInt aAdd (.tmp 21) (.con (.int .i64 1))) (oVal (.tmp 21) (kMove (.tmp 38)) oNil))
def K76l0:K:=(kSeq (kRegion K76r4 [22]) (kSeq (kCond (.tmp 22) kSkip (kExit 0)) (kSeq (kBlock 1 (kSeq (kRegion K76r5 [10]) (kSeq (kRegion K76r6 [30]) (kCond (.tmp 30) (kRegionD K76r7 []) kSkip)))) (kRegion K76r8 [21]))))
def K76r9:OpsF:=(oEnd [] (oVal (.tmp 39) (kUn (fadA 1) (.tmp 8)) (oVal (.tmp 40) (kLoad none (.tmp 39)) (oVal (.tmp 41) (kMove (.tmp 0)) (oVal (.tmp 42) (kUn nilA (.tmp 41)) (oVal (.tmp 43) (kUn (fadA 0) (.tmp 42)) (oVal (.tmp 44) (kUn (fadA 6) (.tmp 43)) (oVal (.tmp 45) (kLoad none (.tmp 44)) (oVal (.tmp 46) (kMove (.tmp 7)) (oVal (.tmp 47) (kTwo (ixsA 1) (.tmp 45) (.tmp 46)) (oVal (.tmp 48) (kLoad none (.tmp 47)) (oVal (.tmp 49) (kInt aLeq (.tmp 40) (.tmp 48)) (oVal (.tmp 6) (kMove (.tmp 49)) oNil)))))))))))))
theorem res76:Try.f76.results.toList=[.tmp 6]:=by kernel_rfl
def K76:K:=(kSeq (kRegion K76r0 [5,6]) (kSeq (kRegion K76r1 [7]) (kSeq (kRegion K76r2 [8]) (kSeq (kSeq (kRegion K76r3 [19,20,21]) (kBlock 0 (kLoop K76l0))) (kSeq (kRegionD K76r9 [6]) kRet)))))
theorem enter76 (cl:CallF) (a0 a1 a2:AV) (s:St):enterA Try.prog X cl 76 [a0,a1,a2] s Try.f76=finA Try.prog Try.f76 (K76 cl ⟨76,none,Try.f76.ntmps,X 76⟩ (paramsEnv 0 [a0,a1,a2] .nil) [] s) :=
  enterA_eq (b:=Try.f76.body.getD .skip) (by kernel_rfl) (by kernel_rfl) (by kernel_rfl) (by kernel_rfl) (by kernel_rfl)
def K28r0:OpsF:=(oVal (.tmp 6) (kAlloc [(.int .i64 0),(.int .i64 0),(.int .i64 0)] (tag 51)) oNil)
def K28r1:OpsF:=(oVal (.tmp 7) (kMove (.tmp 1)) (oVal (.tmp 8) (kMove (.tmp 2)) (oVal (.tmp 9) (kBuild [(.int .i64 0),(.int .i64 0)] [(0,1,(.tmp 7)),(1,1,(.tmp 8))]) (oVal (.tmp 10) (kMove (.tmp 0)) (oVal (.tmp 11) (kBuild [(.int .i64 0),(.int .i64 0),(.int .i64 0)] [(0,2,(.tmp 9)),(2,1,(.tmp 10))]) (oVal .none (kStore 3 (.tmp 6) (.tmp 11)) oNil))))))
theorem res28:Try.f28.results.toList=[.cell 6 51]:=by kernel_rfl
def K28:K:=(kSeq (kRegion K28r0 [6]) (kSeq (kRegion K28r1 []) kRet))
theorem enter28 (cl:CallF) (a0 a1 a2:AV) (s:St):enterA Try.prog X cl 28 [a0,a1,a2] s Try.f28=finA Try.prog Try.f28 (K28 cl ⟨28,none,Try.f28.ntmps,X 28⟩ (paramsEnv 0 [a0,a1,a2] .nil) [] s) :=
  enterA_eq (b:=Try.f28.body.getD .skip) (by kernel_rfl) (by kernel_rfl) (by kernel_rfl) (by kernel_rfl) (by kernel_rfl)
end
end Go.Proofs.Ytoklbkgcclkejaa.code
