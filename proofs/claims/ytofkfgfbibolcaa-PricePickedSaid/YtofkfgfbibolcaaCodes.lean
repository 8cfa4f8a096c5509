/- The code of functions as the interpreter has it, region by region. -/
import Derived.Test.YtofkfgfbibolcaaAbsTab
import Derived.Test.YtofkfgfbibolcaaAbsWalk
import Derived.KernelRfl
set_option maxRecDepth 100000
namespace Go.Proofs.Ytofkfgfbibolcaa.code
open Go.Abs
noncomputable section
def K15r0:OpsF:=(oVal (.tmp 2) (kMove (.con (.int .i64 0))) oNil)
def K15r1:OpsF:=(oVal (.tmp 3) (kMove (.con (.int .i64 0))) oNil)
def K15r2:OpsF:=(oVal (.tmp 6) (kMove (.tmp 0)) (oVal (.tmp 7) (kUn lenSlA (.tmp 6)) (oVal (.tmp 8) (kMove (.con (.int .i64 0))) oNil)))
def K15r3:OpsF:=(oVal (.tmp 9) (kInt aLss (.tmp 8) (.tmp 7)) oNil)
def K15r4:OpsF:=(oVal (.tmp 10) (kTwo (ixsA 1) (.tmp 6) (.tmp 8)) (oVal (.tmp 11) (kLoad none (.tmp 10)) (oVal (.tmp 5) (kMove (.tmp 11)) oNil)))
def K15r5:OpsF:=(oVal (.tmp 12) (kMove (.tmp 5)) (oVal (.tmp 13) (kMove (.tmp 3)) (oVal (.tmp 14) (kInt aNeq (.tmp 12) (.tmp 13)) oNil)))
def K15r6:OpsF:=(oVal (.tmp 15) (kMove (.tmp 5)) (oVal (.tmp 2) (kMove (.tmp 15)) oNil))
def K15r7:OpsF:=(oVal (.tmp 16) (kInt aAdd (.tmp 8) (.con (.int .i64 1))) (oVal (.tmp 8) (kMove (.tmp 16)) oNil))
def K15l0:K:=(kSeq (kRegion K15r3 [9]) (kSeq (kCond (.tmp 9) kSkip (kExit 0)) (kSeq (kBlock 1 (kSeq (kRegion K15r4 [5]) (kSeq (kRegion K15r5 [14]) (kCond (.tmp 14) (kSeq (kRegion K15r6 [2]) kRet) kSkip)))) (kRegion K15r7 [8]))))
def K15r8:OpsF:=(oVal (.tmp 17) (kMove (.tmp 3)) (oVal (.tmp 2) (kMove (.tmp 17)) oNil))
theorem res15:Try.f15.results.toList=[.tmp 2]:=by kernel_rfl
def K15:K:=(kSeq (kRegion K15r0 [2]) (kSeq (kRegion K15r1 [3]) (kSeq (kSeq (kRegion K15r2 [6,7,8]) (kBlock 0 (kLoop K15l0))) (kSeq (kRegion K15r8 [2]) kRet))))
theorem enter15 (cl:CallF) (a0:AV) (s:St):enterA Try.prog X cl 15 [a0] s Try.f15=finA Try.prog Try.f15 (K15 cl ⟨15,none,Try.f15.ntmps,X 15⟩ (paramsEnv 0 [a0] .nil) [] s) :=
  enterA_eq (b:=Try.f15.body.getD .skip) (by kernel_rfl) (by kernel_rfl) (by kernel_rfl) (by kernel_rfl) (by kernel_rfl)
def K42r0:OpsF:=(oVal (.tmp 6) (kMove (.con (.int .i64 0))) oNil)
def K42r1:OpsF:=(oVal (.tmp 8) (kMove (.tmp 0)) (oVal (.tmp 9) (kMove (.tmp 1)) (oVal (.tmp 10) (kInt aLss (.tmp 8) (.tmp 9)) (oVal (.tmp 7) (kMove (.tmp 10)) oNil))))
def K42r2:OpsF:=(oVal (.tmp 6) (kMove (.con (.int .i64 7))) oNil)
def K42r3:OpsF:=(oVal (.tmp 12) (kMove (.tmp 0)) (oVal (.tmp 13) (kMove (.tmp 2)) (oVal (.tmp 14) (kGtr (.tmp 12) (.tmp 13)) (oVal (.tmp 11) (kMove (.tmp 14)) oNil))))
def K42r4:OpsF:=(oVal (.tmp 6) (kMove (.con (.int .i64 6))) oNil)
def K42r5:OpsF:=(oVal (.tmp 6) (kMove (.con (.int .i64 0))) oNil)
theorem res42:Try.f42.results.toList=[.tmp 6]:=by kernel_rfl
def K42:K:=(kSeq (kRegion K42r0 [6]) (kSeq (kBlock 0 (kSeq (kRegion K42r1 [7]) (kCond (.tmp 7) (kSeq (kRegion K42r2 [6]) kRet) (kSeq (kRegion K42r3 [11]) (kCond (.tmp 11) (kSeq (kRegion K42r4 [6]) kRet) kSkip))))) (kSeq (kRegion K42r5 [6]) kRet)))
theorem enter42 (cl:CallF) (a0 a1 a2:AV) (s:St):enterA Try.prog X cl 42 [a0,a1,a2] s Try.f42=finA Try.prog Try.f42 (K42 cl ⟨42,none,Try.f42.ntmps,X 42⟩ (paramsEnv 0 [a0,a1,a2] .nil) [] s) :=
  enterA_eq (b:=Try.f42.body.getD .skip) (by kernel_rfl) (by kernel_rfl) (by kernel_rfl) (by kernel_rfl) (by kernel_rfl)
def K28r0:OpsF:=(oVal (.tmp 4) (kMove (.con (.int .i64 0))) oNil)
def K28r1s6:OpsF:=(oVal (.tmp 11) (kPick (.tmp 7) (.con (.bool true)) (.tmp 10)) oNil)
def K28r1s5:OpsF:=(oIf 7 false (oVal (.tmp 10) (kInt aGeq (.tmp 8) (.tmp 9)) K28r1s6) (oSkip (.tmp 10) K28r1s6))
def K28r1s4:OpsF:=(oIf 7 false (oVal (.tmp 9) (kMove (.tmp 1)) K28r1s5) (oSkip (.tmp 9) K28r1s5))
def K28r1:OpsF:=(oVal (.tmp 5) (kMove (.tmp 0)) (oVal (.tmp 6) (kInt aLss (.tmp 5) (.con (.int .i64 0))) (oVal (.tmp 7) (kMove (.tmp 6)) (oIf 7 false (oVal (.tmp 8) (kMove (.tmp 0)) K28r1s4) (oSkip (.tmp 8) K28r1s4)))))
def K28r2:OpsF:=(oVal (.tmp 4) (kMove (.con (.int .i64 3))) oNil)
def K28r3:OpsF:=(oVal (.tmp 4) (kMove (.con (.int .i64 0))) oNil)
theorem res28:Try.f28.results.toList=[.tmp 4]:=by kernel_rfl
def K28:K:=(kSeq (kRegion K28r0 [4]) (kSeq (kSeq (kRegion K28r1 [11]) (kCond (.tmp 11) (kSeq (kRegion K28r2 [4]) kRet) kSkip)) (kSeq (kRegion K28r3 [4]) kRet)))
theorem enter28 (cl:CallF) (a0 a1:AV) (s:St):enterA Try.prog X cl 28 [a0,a1] s Try.f28=finA Try.prog Try.f28 (K28 cl ⟨28,none,Try.f28.ntmps,X 28⟩ (paramsEnv 0 [a0,a1] .nil) [] s) :=
  enterA_eq (b:=Try.f28.body.getD .skip) (by kernel_rfl) (by kernel_rfl) (by kernel_rfl) (by kernel_rfl) (by kernel_rfl)
def K43r0:OpsF:=(oVal (.tmp 3) (kBox (tag 45) (.tmp 0)) (oVal (.tmp 6) (kMove (.con (.int .i64 0))) oNil))
def K43r1:OpsF:=(oEnd [] (oVal (.tmp 8) (kUn (fadA 0) (.tmp 3)) (oVal (.tmp 9) (kLoad none (.tmp 8)) (oVal (.tmp 10) (kMove (.tmp 1)) (oVal (.tmp 11) (kMove (.tmp 2)) (oCallT (some [13]) (.tmp 12) (.con (.func 17 [] [])) [(.tmp 9),(.tmp 10),(.tmp 11)] (oVal (.tmp 13) (kUn (fadA 1) (.tmp 3)) (oVal (.tmp 14) (kLoad none (.tmp 13)) (oVal (.tmp 15) (kMove (.tmp 1)) (oVal (.tmp 16) (kMove (.tmp 2)) (oCall (.tmp 17) (.con (.func 17 [] [])) [(.tmp 14),(.tmp 15),(.tmp 16)] (oVal (.tmp 18) (kBuildSlice [(.int .i64 0),(.int .i64 0)] 2 [(0,1,(.tmp 12)),(1,1,(.tmp 17))]) (oCall (.tmp 19) (.con (.func 15 [] [])) [(.tmp 18)] (oVal (.tmp 7) (kMove (.tmp 19)) oNil))))))))))))))
def K43r2:OpsF:=(oVal (.tmp 20) (kMove (.tmp 7)) (oVal (.tmp 21) (kInt aNeq (.tmp 20) (.con (.int .i64 0))) oNil))
def K43r3:OpsF:=(oVal (.tmp 22) (kMove (.tmp 7)) (oVal (.tmp 6) (kMove (.tmp 22)) oNil))
def K43r4:OpsF:=(oVal (.tmp 23) (kUn (fadA 0) (.tmp 3)) (oVal (.tmp 24) (kLoad none (.tmp 23)) (oVal (.tmp 25) (kUn (fadA 1) (.tmp 3)) (oVal (.tmp 26) (kLoad none (.tmp 25)) (oVal (.tmp 27) (kGtr (.tmp 24) (.tmp 26)) oNil)))))
def K43r5:OpsF:=(oVal (.tmp 6) (kMove (.con (.int .i64 5))) oNil)
def K43r6:OpsF:=(oVal (.tmp 6) (kMove (.con (.int .i64 0))) oNil)
theorem res43:Try.f43.results.toList=[.tmp 6]:=by kernel_rfl
def K43:K:=(kSeq (kRegion K43r0 [3,6]) (kSeq (kSeq (kRegionD K43r1 [7]) (kSeq (kRegion K43r2 [21]) (kCond (.tmp 21) (kSeq (kRegion K43r3 [6]) kRet) kSkip))) (kSeq (kSeq (kRegion K43r4 [27]) (kCond (.tmp 27) (kSeq (kRegion K43r5 [6]) kRet) kSkip)) (kSeq (kRegion K43r6 [6]) kRet))))
theorem enter43 (cl:CallF) (a0 a1 a2:AV) (s:St):enterA Try.prog X cl 43 [a0,a1,a2] s Try.f43=finA Try.prog Try.f43 (K43 cl ⟨43,none,Try.f43.ntmps,X 43⟩ (paramsEnv 0 [a0,a1,a2] .nil) [] s) :=
  enterA_eq (b:=Try.f43.body.getD .skip) (by kernel_rfl) (by kernel_rfl) (by kernel_rfl) (by kernel_rfl) (by kernel_rfl)
def K17r0:OpsF:=(oVal (.tmp 6) (kMove (.con (.int .i64 0))) oNil)
def K17r1s7:OpsF:=(oVal (.tmp 14) (kPick (.tmp 10) (.con (.bool true)) (.tmp 13)) oNil)
def K17r1s6:OpsF:=(oIf 10 false (oVal (.tmp 13) (kGtr (.tmp 11) (.tmp 12)) K17r1s7) (oSkip (.tmp 13) K17r1s7))
def K17r1s5:OpsF:=(oIf 10 false (oVal (.tmp 12) (kMove (.tmp 2)) K17r1s6) (oSkip (.tmp 12) K17r1s6))
def K17r1:OpsF:=(oVal (.tmp 7) (kMove (.tmp 0)) (oVal (.tmp 8) (kMove (.tmp 1)) (oVal (.tmp 9) (kInt aLss (.tmp 7) (.tmp 8)) (oVal (.tmp 10) (kMove (.tmp 9)) (oIf 10 false (oVal (.tmp 11) (kMove (.tmp 0)) K17r1s5) (oSkip (.tmp 11) K17r1s5))))))
def K17r2:OpsF:=(oVal (.tmp 6) (kMove (.con (.int .i64 1))) oNil)
def K17r3:OpsF:=(oVal (.tmp 6) (kMove (.con (.int .i64 0))) oNil)
theorem res17:Try.f17.results.toList=[.tmp 6]:=by kernel_rfl
def K17:K:=(kSeq (kRegion K17r0 [6]) (kSeq (kSeq (kRegion K17r1 [14]) (kCond (.tmp 14) (kSeq (kRegion K17r2 [6]) kRet) kSkip)) (kSeq (kRegion K17r3 [6]) kRet)))
theorem enter17 (cl:CallF) (a0 a1 a2:AV) (s:St):enterA Try.prog X cl 17 [a0,a1,a2] s Try.f17=finA Try.prog Try.f17 (K17 cl ⟨17,none,Try.f17.ntmps,X 17⟩ (paramsEnv 0 [a0,a1,a2] .nil) [] s) :=
  enterA_eq (b:=Try.f17.body.getD .skip) (by kernel_rfl) (by kernel_rfl) (by kernel_rfl) (by kernel_rfl) (by kernel_rfl)
def K16r0:OpsF:=(oVal (.tmp 1) (kBox (tag 27) (.tmp 0)) (oVal (.tmp 2) (kMove (.con (.int .i64 0))) oNil))
def K16r1:OpsF:=(oEnd [] (oVal (.tmp 3) (kUn (fadA 0) (.tmp 1)) (oVal (.tmp 4) (kLoad none (.tmp 3)) (oCallT (some [6,1]) (.tmp 5) (.con (.func 17 [] [])) [(.tmp 4),(.con (.int .i64 1)),(.con (.int .i64 8))] (oVal (.tmp 6) (kUn (fadA 1) (.tmp 1)) (oVal (.tmp 7) (kLoad none (.tmp 6)) (oCallT (some [1]) (.tmp 8) (.con (.func 17 [] [])) [(.tmp 7),(.con (.int .i64 1)),(.con (.int .i64 8))] (oVal (.tmp 9) (kLoad (some 3) (.tmp 1)) (oCall (.tmp 10) (.con (.func 27 [] [])) [(.tmp 9)] (oVal (.tmp 11) (kBuildSlice [(.int .i64 0),(.int .i64 0),(.int .i64 0)] 3 [(0,1,(.tmp 5)),(1,1,(.tmp 8)),(2,1,(.tmp 10))]) (oCall (.tmp 12) (.con (.func 15 [] [])) [(.tmp 11)] (oVal (.tmp 2) (kMove (.tmp 12)) oNil))))))))))))
theorem res16:Try.f16.results.toList=[.tmp 2]:=by kernel_rfl
def K16:K:=(kSeq (kRegion K16r0 [1,2]) (kSeq (kRegionD K16r1 [2]) kRet))
theorem enter16 (cl:CallF) (a0:AV) (s:St):enterA Try.prog X cl 16 [a0] s Try.f16=finA Try.prog Try.f16 (K16 cl ⟨16,none,Try.f16.ntmps,X 16⟩ (paramsEnv 0 [a0] .nil) [] s) :=
  enterA_eq (b:=Try.f16.body.getD .skip) (by kernel_rfl) (by kernel_rfl) (by kernel_rfl) (by kernel_rfl) (by kernel_rfl)
def K27r0:OpsF:=(oVal (.tmp 1) (kBox (tag 27) (.tmp 0)) (oVal (.tmp 2) (kMove (.con (.int .i64 0))) oNil))
def K27r1:OpsF:=(oVal (.tmp 7) (kUn (fadA 2) (.tmp 1)) (oVal (.tmp 8) (kLoad none (.tmp 7)) (oVal (.tmp 9) (kUn lenSlA (.tmp 8)) (oCall (.tmp 10) (.con (.func 42 [] [])) [(.tmp 9),(.con (.int .i64 0)),(.con (.int .i64 40))] (oVal (.tmp 3) (kMove (.tmp 10)) oNil)))))
def K27r2:OpsF:=(oVal (.tmp 11) (kMove (.tmp 3)) (oVal (.tmp 12) (kInt aNeq (.tmp 11) (.con (.int .i64 0))) oNil))
def K27r3:OpsF:=(oVal (.tmp 13) (kMove (.tmp 3)) (oVal (.tmp 2) (kMove (.tmp 13)) oNil))
def K27r4:OpsF:=(oVal (.tmp 14) (kUn (fadA 2) (.tmp 1)) (oVal (.tmp 15) (kLoad none (.tmp 14)) (oVal (.tmp 16) (kUn lenSlA (.tmp 15)) (oVal (.tmp 17) (kMove (.con (.int .i64 0))) oNil))))
def K27r5:OpsF:=(oVal (.tmp 18) (kInt aLss (.tmp 17) (.tmp 16)) oNil)
def K27r6:OpsF:=(oVal (.tmp 19) (kTwo (ixsA 6) (.tmp 15) (.tmp 17)) (oVal (.tmp 20) (kLoad (some 6) (.tmp 19)) (oVal (.tmp 5) (kAlloc [(.int .i64 0),(.int .i64 0),(.int .i64 0),(.int .i64 0),(.int .i64 0),(.int .i64 0)] (tag 48)) (oVal .none (kStore 6 (.tmp 5) (.tmp 20)) oNil))))
def K27r7:OpsF:=(oEnd [] (oVal (.tmp 21) (kUn (fadA 0) (.tmp 5)) (oVal (.tmp 22) (kLoad none (.tmp 21)) (oVal (.tmp 23) (kUn (fadA 0) (.tmp 1)) (oVal (.tmp 24) (kLoad none (.tmp 23)) (oCallT (some [26,28,31,34]) (.tmp 25) (.con (.func 28 [] [])) [(.tmp 22),(.tmp 24)] (oVal (.tmp 26) (kUn (fadA 1) (.tmp 5)) (oVal (.tmp 27) (kLoad none (.tmp 26)) (oVal (.tmp 28) (kUn (fadA 1) (.tmp 1)) (oVal (.tmp 29) (kLoad none (.tmp 28)) (oCallT (some [31,34]) (.tmp 30) (.con (.func 28 [] [])) [(.tmp 27),(.tmp 29)] (oVal (.tmp 31) (kUn (fadA 2) (.tmp 5)) (oVal (.tmp 32) (kLoad (some 2) (.tmp 31)) (oCallT (some [34]) (.tmp 33) (.con (.func 43 [] [])) [(.tmp 32),(.con (.int .i64 0)),(.con (.int .i64 100000))] (oVal (.tmp 34) (kUn (fadA 4) (.tmp 5)) (oVal (.tmp 35) (kLoad (some 2) (.tmp 34)) (oCall (.tmp 36) (.con (.func 43 [] [])) [(.tmp 35),(.con (.int .i64 0)),(.con (.int .i64 100000))] (oVal (.tmp 37) (kBuildSlice [(.int .i64 0),(.int .i64 0),(.int .i64 0),(.int .i64 0)] 4 [(0,1,(.tmp 25)),(1,1,(.tmp 30)),(2,1,(.tmp 33)),(3,1,(.tmp 36))]) (oCall (.tmp 38) (.con (.func 15 [] [])) [(.tmp 37)] (oVal (.tmp 6) (kMove (.tmp 38)) oNil))))))))))))))))))))
def K27r8:OpsF:=(oVal (.tmp 39) (kMove (.tmp 6)) (oVal (.tmp 40) (kInt aNeq (.tmp 39) (.con (.int .i64 0))) oNil))
def K27r9:OpsF:=(oVal (.tmp 41) (kMove (.tmp 6)) (oVal (.tmp 2) (kMove (.tmp 41)) oNil))
def K27r10:OpsF:=(oVal (.tmp 42) (kInt aAdd (.tmp 17) (.con (.int .i64 1))) (oVal (.tmp 17) (kMove (.tmp 42)) oNil))
def K27l0:K:=(kSeq (kRegion K27r5 [18]) (kSeq (kCond (.tmp 18) kSkip (kExit 0)) (kSeq (kBlock 1 (kSeq (kRegion K27r6 [5]) (kSeq (kRegionD K27r7 [6]) (kSeq (kRegion K27r8 [40]) (kCond (.tmp 40) (kSeq (kRegion K27r9 [2]) kRet) kSkip))))) (kRegion K27r10 [17]))))
def K27r11:OpsF:=(oVal (.tmp 2) (kMove (.con (.int .i64 0))) oNil)
theorem res27:Try.f27.results.toList=[.tmp 2]:=by kernel_rfl
def K27:K:=(kSeq (kRegion K27r0 [1,2]) (kSeq (kSeq (kRegion K27r1 [3]) (kSeq (kRegion K27r2 [12]) (kCond (.tmp 12) (kSeq (kRegion K27r3 [2]) kRet) kSkip))) (kSeq (kSeq (kRegion K27r4 [15,16,17]) (kBlock 0 (kLoop K27l0))) (kSeq (kRegion K27r11 [2]) kRet))))
theorem enter27 (cl:CallF) (a0:AV) (s:St):enterA Try.prog X cl 27 [a0] s Try.f27=finA Try.prog Try.f27 (K27 cl ⟨27,none,Try.f27.ntmps,X 27⟩ (paramsEnv 0 [a0] .nil) [] s) :=
  enterA_eq (b:=Try.f27.body.getD .skip) (by kernel_rfl) (by kernel_rfl) (by kernel_rfl) (by kernel_rfl) (by kernel_rfl)
end
end Go.Proofs.Ytofkfgfbibolcaa.code
set_option maxRecDepth 100000
namespace Go.Proofs.Ytofkfgfbibolcaa.code
open Go.Abs
noncomputable section
def K7r0:OpsF:=(oVal (.tmp 3) (kBox (tag 27) (.tmp 0)) (oVal (.tmp 6) (kMove (.con .nilslice)) (oVal (.tmp 7) (kMove (.con (.int .i64 0))) oNil)))
def K7r1:OpsF:=(oEnd [] (oVal (.tmp 13) (kLoad (some 3) (.tmp 3)) (oCallT (some [18,19]) (.tmp 14) (.con (.func 16 [] [])) [(.tmp 13)] (oVal (.tmp 15) (kMove (.tmp 1)) (oCallT (some [18,19]) (.tmp 16) (.con (.func 17 [] [])) [(.tmp 15),(.con (.int .i64 0)),(.con (.int .i64 1000000000))] (oVal (.tmp 17) (kMove (.tmp 2)) (oVal (.tmp 18) (kUn (fadA 2) (.tmp 3)) (oVal (.tmp 19) (kLoad none (.tmp 18)) (oVal (.tmp 20) (kUn lenSlA (.tmp 19)) (oVal (.tmp 21) (kFold minA (.con (.int .i64 10)) [(.tmp 20)]) (oCall (.tmp 22) (.con (.func 17 [] [])) [(.tmp 17),(.con (.int .i64 0)),(.tmp 21)] (oVal (.tmp 23) (kBuildSlice [(.int .i64 0),(.int .i64 0),(.int .i64 0)] 3 [(0,1,(.tmp 14)),(1,1,(.tmp 16)),(2,1,(.tmp 22))]) (oCall (.tmp 24) (.con (.func 15 [] [])) [(.tmp 23)] (oVal (.tmp 8) (kMove (.tmp 24)) oNil))))))))))))))
def K7r2:OpsF:=(oVal (.tmp 25) (kMove (.tmp 8)) (oVal (.tmp 26) (kInt aNeq (.tmp 25) (.con (.int .i64 0))) oNil))
def K7r3:OpsF:=(oVal (.tmp 27) (kMove (.tmp 8)) (oVal (.tmp 6) (kMove (.con .nilslice)) (oVal (.tmp 7) (kMove (.tmp 27)) oNil)))
def K7r4:OpsF:=(oVal (.tmp 28) (kUn (fadA 2) (.tmp 3)) (oVal (.tmp 29) (kLoad none (.tmp 28)) (oVal (.tmp 30) (kUn lenSlA (.tmp 29)) (oVal (.tmp 31) (kMake [(.int .i64 0)] 8 (.tmp 30) (.tmp 30)) (oVal (.tmp 9) (kMove (.tmp 31)) oNil)))))
def K7r5:OpsF:=(oVal (.tmp 32) (kMove (.tmp 9)) (oVal (.tmp 33) (kUn lenSlA (.tmp 32)) (oVal (.tmp 34) (kMove (.con (.int .i64 0))) oNil)))
def K7r6:OpsF:=(oVal (.tmp 35) (kInt aLss (.tmp 34) (.tmp 33)) oNil)
def K7r7:OpsF:=(oVal (.tmp 36) (kMove (.tmp 34)) (oVal (.tmp 10) (kMove (.tmp 36)) oNil))
def K7r8:OpsF:=(oVal (.tmp 37) (kMove (.tmp 9)) (oVal (.tmp 38) (kMove (.tmp 10)) (oVal (.tmp 39) (kMove (.tmp 10)) (oVal (.tmp 40) (kTwo (ixsA 1) (.tmp 37) (.tmp 38)) (oVal .none (kStore 1 (.tmp 40) (.tmp 39)) oNil)))))
def K7r9:OpsF:=(oVal (.tmp 41) (kInt aAdd (.tmp 34) (.con (.int .i64 1))) (oVal (.tmp 34) (kMove (.tmp 41)) oNil))
def K7l0:K:=(kSeq (kRegion K7r6 [35]) (kSeq (kCond (.tmp 35) kSkip (kExit 0)) (kSeq (kBlock 1 (kSeq (kRegion K7r7 [10]) (kRegion K7r8 []))) (kRegion K7r9 [34]))))
def K7r10:OpsF:=(oVal (.tmp 11) (kMove (.con .nilslice)) oNil)
def K7r11:OpsF:=(oVal (.tmp 42) (kMove (.tmp 2)) (oVal (.tmp 43) (kMove (.con (.int .i64 0))) oNil))
def K7r12:OpsF:=(oVal (.tmp 44) (kInt aLss (.tmp 43) (.tmp 42)) oNil)
def K7r13:OpsF:=(oVal (.tmp 45) (kMove (.tmp 1)) (oVal (.tmp 46) (kMove (.tmp 9)) (oVal (.tmp 47) (kUn lenSlA (.tmp 46)) (oVal (.tmp 48) (kInt aRem (.tmp 45) (.tmp 47)) (oVal (.tmp 12) (kMove (.tmp 48)) oNil)))))
def K7r14:OpsF:=(oVal (.tmp 49) (kMove (.tmp 1)) (oVal (.tmp 50) (kMove (.tmp 9)) (oVal (.tmp 51) (kUn lenSlA (.tmp 50)) (oVal (.tmp 52) (kInt aQuo (.tmp 49) (.tmp 51)) (oVal (.tmp 1) (kMove (.tmp 52)) oNil)))))
def K7r15:OpsF:=(oVal (.tmp 53) (kMove (.tmp 11)) (oVal (.tmp 54) (kMove (.tmp 9)) (oVal (.tmp 55) (kMove (.tmp 12)) (oVal (.tmp 56) (kTwo (ixsA 1) (.tmp 54) (.tmp 55)) (oVal (.tmp 57) (kLoad none (.tmp 56)) (oVal (.tmp 58) (kBuildSlice [(.int .i64 0)] 1 [(0,1,(.tmp 57))]) (oVal (.tmp 59) (kTwo (appendA false 1 8 (tag 3)) (.tmp 53) (.tmp 58)) (oVal (.tmp 11) (kMove (.tmp 59)) oNil))))))))
def K7r16:OpsF:=(oVal (.tmp 60) (kMove (.tmp 9)) (oVal (.tmp 61) (kMove (.tmp 12)) (oVal (.tmp 62) (kMove (.tmp 12)) (oVal (.tmp 63) (kInt aAdd (.tmp 62) (.con (.int .i64 1))) (oCall (.tmp 64) (.con (.func 18 [] [])) [(.tmp 60),(.tmp 61),(.tmp 63)] (oVal (.tmp 9) (kMove (.tmp 64)) oNil))))))
def K7r17:OpsF:=(oVal (.tmp 65) (kInt aAdd (.tmp 43) (.con (.int .i64 1))) (oVal (.tmp 43) (kMove (.tmp 65)) oNil))
def K7l1:K:=(kSeq (kRegion K7r12 [44]) (kSeq (kCond (.tmp 44) kSkip (kExit 2)) (kSeq (kBlock 3 (kSeq (kRegion K7r13 [12]) (kSeq (kRegion K7r14 [1]) (kSeq (kRegion K7r15 [11]) (kRegion K7r16 [9]))))) (kRegion K7r17 [43]))))
def K7r18:OpsF:=(oVal (.tmp 66) (kMove (.tmp 11)) (oVal (.tmp 6) (kMove (.tmp 66)) (oVal (.tmp 7) (kMove (.con (.int .i64 0))) oNil)))
theorem res7:Try.f7.results.toList=[.tmp 6,.tmp 7]:=by kernel_rfl
def K7:K:=(kSeq (kRegion K7r0 [3,6,7]) (kSeq (kRegionD K7r1 [8]) (kSeq (kSeq (kRegion K7r2 [26]) (kCond (.tmp 26) (kSeq (kRegion K7r3 [6,7]) kRet) kSkip)) (kSeq (kRegion K7r4 [9]) (kSeq (kSeq (kRegion K7r5 [33,34]) (kBlock 0 (kLoop K7l0))) (kSeq (kRegion K7r10 [11]) (kSeq (kSeq (kRegion K7r11 [42,43]) (kBlock 2 (kLoop K7l1))) (kSeq (kRegion K7r18 [6,7]) kRet))))))))
theorem enter7 (cl:CallF) (a0 a1 a2:AV) (s:St):enterA Try.prog X cl 7 [a0,a1,a2] s Try.f7=finA Try.prog Try.f7 (K7 cl ⟨7,none,Try.f7.ntmps,X 7⟩ (paramsEnv 0 [a0,a1,a2] .nil) [] s) :=
  enterA_eq (b:=Try.f7.body.getD .skip) (by kernel_rfl) (by kernel_rfl) (by kernel_rfl) (by kernel_rfl) (by kernel_rfl)
def K18r0:OpsF:=(oVal (.tmp 6) (kMove (.con .nilslice)) oNil)
def K18r1:OpsF:=(oVal (.tmp 8) (kMove (.tmp 0)) (oVal (.tmp 9) (kMove (.tmp 1)) (oVal (.tmp 10) (kMove (.tmp 2)) (oVal (.tmp 11) (kMove (.tmp 0)) (oVal (.tmp 12) (kUn lenSlA (.tmp 11)) (oVal (.tmp 13) (kSlice3 (.tmp 8) (some (.tmp 9)) (.tmp 10) (.tmp 12)) oNil))))))
def K18r2:OpsF:=(oVal (.tmp 14) (kMove (.tmp 1)) (oVal (.tmp 15) (kMove (.tmp 2)) (oVal (.tmp 16) (kInt aEql (.tmp 14) (.tmp 15)) oNil)))
def K18r3:OpsF:=(oVal (.tmp 17) (kMove (.tmp 0)) (oVal (.tmp 6) (kMove (.tmp 17)) oNil))
def K18r4:OpsF:=(oVal (.tmp 18) (kMove (.tmp 0)) (oVal (.tmp 19) (kUn lenSlA (.tmp 18)) (oVal (.tmp 7) (kMove (.tmp 19)) oNil)))
def K18r5:OpsF:=(oEnd [] (oVal (.tmp 20) (kMove (.tmp 0)) (oVal (.tmp 21) (kMove (.tmp 1)) (oVal (.tmp 22) (kSlice (sliceVal 1) (.tmp 20) none (some (.tmp 21))) (oVal (.tmp 23) (kMove (.tmp 0)) (oVal (.tmp 24) (kMove (.tmp 2)) (oVal (.tmp 25) (kSlice (sliceVal 1) (.tmp 23) (some (.tmp 24)) none) (oVal (.tmp 26) (kTwo (appendA false 1 8 (tag 3)) (.tmp 22) (.tmp 25)) (oVal (.tmp 0) (kMove (.tmp 26)) oNil)))))))))
def K18r6:OpsF:=(oVal (.tmp 27) (kMove (.tmp 0)) (oVal (.tmp 28) (kMove (.tmp 0)) (oVal (.tmp 29) (kUn lenSlA (.tmp 28)) (oVal (.tmp 30) (kMove (.tmp 7)) (oVal (.tmp 31) (kSlice (sliceVal 1) (.tmp 27) (some (.tmp 29)) (some (.tmp 30))) (oVal .none (kUn (clearA [(.int .i64 0)]) (.tmp 31)) oNil))))))
def K18r7:OpsF:=(oVal (.tmp 32) (kMove (.tmp 0)) (oVal (.tmp 6) (kMove (.tmp 32)) oNil))
theorem res18:Try.f18.results.toList=[.tmp 6]:=by kernel_rfl
def K18:K:=(kSeq (kRegion K18r0 [6]) (kSeq (kRegion K18r1 []) (kSeq (kSeq (kRegion K18r2 [16]) (kCond (.tmp 16) (kSeq (kRegion K18r3 [6]) kRet) kSkip)) (kSeq (kRegion K18r4 [7]) (kSeq (kRegionD K18r5 [0]) (kSeq (kRegion K18r6 []) (kSeq (kRegion K18r7 [6]) kRet)))))))
theorem enter18 (cl:CallF) (a0 a1 a2:AV) (s:St):enterA Try.prog X cl 18 [a0,a1,a2] s Try.f18=finA Try.prog Try.f18 (K18 cl ⟨18,none,Try.f18.ntmps,X 18⟩ (paramsEnv 0 [a0,a1,a2] .nil) [] s) :=
  enterA_eq (b:=Try.f18.body.getD .skip) (by kernel_rfl) (by kernel_rfl) (by kernel_rfl) (by kernel_rfl) (by kernel_rfl)
end
end Go.Proofs.Ytofkfgfbibolcaa.code
set_option maxRecDepth 100000
namespace Go.Proofs.Ytofkfgfbibolcaa.code
open Go.Abs
noncomputable section
def K11r0:OpsF:=(oVal (.tmp 2) (kMove (.con (.int .u64 0))) oNil)
def K11r1:OpsF:=(oVal (.tmp 4) (kMove (.tmp 0)) (oVal (.tmp 5) (kMove (.tmp 0)) (oVal (.tmp 6) (kUn nilA (.tmp 5)) (oVal (.tmp 7) (kUn (fadA 0) (.tmp 6)) (oVal (.tmp 8) (kLoad none (.tmp 7)) (oVal (.tmp 9) (kInt aAdd (.tmp 8) (.con (.int .u64 11562461410679940143))) (oVal (.tmp 10) (kUn nilA (.tmp 4)) (oVal (.tmp 11) (kUn (fadA 0) (.tmp 10)) (oVal .none (kStore 1 (.tmp 11) (.tmp 9)) oNil)))))))))
def K11r2:OpsF:=(oVal (.tmp 12) (kMove (.tmp 0)) (oVal (.tmp 13) (kUn nilA (.tmp 12)) (oVal (.tmp 14) (kUn (fadA 0) (.tmp 13)) (oVal (.tmp 15) (kLoad none (.tmp 14)) (oVal (.tmp 3) (kMove (.tmp 15)) oNil)))))
def K11r3:OpsF:=(oVal (.tmp 16) (kMove (.tmp 3)) (oVal (.tmp 17) (kMove (.tmp 3)) (oVal (.tmp 18) (kShr (.tmp 17) (.con (.int .u64 30))) (oVal (.tmp 19) (kInt aXor (.tmp 16) (.tmp 18)) (oVal (.tmp 20) (kInt aMul (.tmp 19) (.con (.int .u64 13787848793156543929))) (oVal (.tmp 3) (kMove (.tmp 20)) oNil))))))
def K11r4:OpsF:=(oVal (.tmp 21) (kMove (.tmp 3)) (oVal (.tmp 22) (kMove (.tmp 3)) (oVal (.tmp 23) (kShr (.tmp 22) (.con (.int .u64 27))) (oVal (.tmp 24) (kInt aXor (.tmp 21) (.tmp 23)) (oVal (.tmp 25) (kInt aMul (.tmp 24) (.con (.int .u64 10723151780598845931))) (oVal (.tmp 3) (kMove (.tmp 25)) oNil))))))
def K11r5:OpsF:=(oVal (.tmp 26) (kMove (.tmp 3)) (oVal (.tmp 27) (kMove (.tmp 3)) (oVal (.tmp 28) (kShr (.tmp 27) (.con (.int .u64 31))) (oVal (.tmp 29) (kInt aXor (.tmp 26) (.tmp 28)) (oVal (.tmp 2) (kMove (.tmp 29)) oNil)))))
theorem res11:Try.f11.results.toList=[.tmp 2]:=by kernel_rfl
def K11:K:=(kSeq (kRegion K11r0 [2]) (kSeq (kRegion K11r1 []) (kSeq (kRegion K11r2 [3]) (kSeq (kRegion K11r3 [3]) (kSeq (kRegion K11r4 [3]) (kSeq (kRegion K11r5 [2]) kRet))))))
theorem enter11 (cl:CallF) (a0:AV) (s:St):enterA Try.prog X cl 11 [a0] s Try.f11=finA Try.prog Try.f11 (K11 cl ⟨11,none,Try.f11.ntmps,X 11⟩ (paramsEnv 0 [a0] .nil) [] s) :=
  enterA_eq (b:=Try.f11.body.getD .skip) (by kernel_rfl) (by kernel_rfl) (by kernel_rfl) (by kernel_rfl) (by kernel_rfl)
def K6r0:OpsF:=(oVal (.tmp 4) (kMove (.con (.int .i64 0))) oNil)
def K6r1:OpsF:=(oVal (.tmp 5) (kMove (.tmp 1)) (oVal (.tmp 6) (kInt aLss (.tmp 5) (.con (.int .i64 2))) oNil))
def K6r2:OpsF:=(oVal (.tmp 4) (kMove (.con (.int .i64 0))) oNil)
def K6r3:OpsF:=(oVal (.tmp 7) (kMove (.tmp 0)) (oCall (.tmp 8) (.con (.func 11 [] [])) [(.tmp 7)] (oVal (.tmp 9) (kShr (.tmp 8) (.con (.int .u64 2))) (oVal (.tmp 10) (kMove (.tmp 1)) (oVal (.tmp 11) (kUn (cviA .u64) (.tmp 10)) (oVal (.tmp 12) (kInt aRem (.tmp 9) (.tmp 11)) (oVal (.tmp 13) (kUn (cviA .i64) (.tmp 12)) (oVal (.tmp 4) (kMove (.tmp 13)) oNil))))))))
theorem res6:Try.f6.results.toList=[.tmp 4]:=by kernel_rfl
def K6:K:=(kSeq (kRegion K6r0 [4]) (kSeq (kSeq (kRegion K6r1 [6]) (kCond (.tmp 6) (kSeq (kRegion K6r2 [4]) kRet) kSkip)) (kSeq (kRegion K6r3 [4]) kRet)))
theorem enter6 (cl:CallF) (a0 a1:AV) (s:St):enterA Try.prog X cl 6 [a0,a1] s Try.f6=finA Try.prog Try.f6 (K6 cl ⟨6,none,Try.f6.ntmps,X 6⟩ (paramsEnv 0 [a0,a1] .nil) [] s) :=
  enterA_eq (b:=Try.f6.body.getD .skip) (by kernel_rfl) (by kernel_rfl) (by kernel_rfl) (by kernel_rfl) (by kernel_rfl)
def K12r0:OpsF:=(oVal (.tmp 6) (kMove (.con (.int .i64 0))) oNil)
def K12r1:OpsF:=(oVal (.tmp 7) (kMove (.tmp 1)) (oVal (.tmp 8) (kMove (.tmp 0)) (oVal (.tmp 9) (kMove (.tmp 2)) (oVal (.tmp 10) (kMove (.tmp 1)) (oVal (.tmp 11) (kInt aSub (.tmp 9) (.tmp 10)) (oVal (.tmp 12) (kInt aAdd (.tmp 11) (.con (.int .i64 1))) (oCall (.tmp 13) (.con (.func 6 [] [])) [(.tmp 8),(.tmp 12)] (oVal (.tmp 14) (kInt aAdd (.tmp 7) (.tmp 13)) (oVal (.tmp 6) (kMove (.tmp 14)) oNil)))))))))
theorem res12:Try.f12.results.toList=[.tmp 6]:=by kernel_rfl
def K12:K:=(kSeq (kRegion K12r0 [6]) (kSeq (kRegion K12r1 [6]) kRet))
theorem enter12 (cl:CallF) (a0 a1 a2:AV) (s:St):enterA Try.prog X cl 12 [a0,a1,a2] s Try.f12=finA Try.prog Try.f12 (K12 cl ⟨12,none,Try.f12.ntmps,X 12⟩ (paramsEnv 0 [a0,a1,a2] .nil) [] s) :=
  enterA_eq (b:=Try.f12.body.getD .skip) (by kernel_rfl) (by kernel_rfl) (by kernel_rfl) (by kernel_rfl) (by kernel_rfl)
def K13r0:OpsF:=(oVal (.tmp 4) (kMove (.con (.int .i64 0))) oNil)
def K13r1:OpsF:=(oVal (.tmp 5) (kMove (.tmp 1)) (oVal (.tmp 6) (kUn lenSlA (.tmp 5)) (oVal (.tmp 7) (kInt aEql (.tmp 6) (.con (.int .i64 0))) oNil)))
def K13r2:OpsF:=(oVal (.tmp 4) (kMove (.con (.int .i64 0))) oNil)
def K13r3:OpsF:=(oVal (.tmp 8) (kMove (.tmp 1)) (oVal (.tmp 9) (kMove (.tmp 0)) (oVal (.tmp 10) (kMove (.tmp 1)) (oVal (.tmp 11) (kUn lenSlA (.tmp 10)) (oCall (.tmp 12) (.con (.func 6 [] [])) [(.tmp 9),(.tmp 11)] (oVal (.tmp 13) (kTwo (ixsA 1) (.tmp 8) (.tmp 12)) (oVal (.tmp 14) (kLoad none (.tmp 13)) (oVal (.tmp 4) (kMove (.tmp 14)) oNil))))))))
theorem res13:Try.f13.results.toList=[.tmp 4]:=by kernel_rfl
def K13:K:=(kSeq (kRegion K13r0 [4]) (kSeq (kSeq (kRegion K13r1 [7]) (kCond (.tmp 7) (kSeq (kRegion K13r2 [4]) kRet) kSkip)) (kSeq (kRegion K13r3 [4]) kRet)))
theorem enter13 (cl:CallF) (a0 a1:AV) (s:St):enterA Try.prog X cl 13 [a0,a1] s Try.f13=finA Try.prog Try.f13 (K13 cl ⟨13,none,Try.f13.ntmps,X 13⟩ (paramsEnv 0 [a0,a1] .nil) [] s) :=
  enterA_eq (b:=Try.f13.body.getD .skip) (by kernel_rfl) (by kernel_rfl) (by kernel_rfl) (by kernel_rfl) (by kernel_rfl)
def K14r0:OpsF:=(oVal (.tmp 6) (kAlloc [(.int .i64 0),(.int .i64 0)] (tag 45)) oNil)
def K14r1:OpsF:=(oVal (.tmp 9) (kMove (.tmp 0)) (oVal (.tmp 10) (kMove (.tmp 1)) (oVal (.tmp 11) (kMove (.tmp 2)) (oCall (.tmp 12) (.con (.func 12 [] [])) [(.tmp 9),(.tmp 10),(.tmp 11)] (oVal (.tmp 7) (kMove (.tmp 12)) oNil)))))
def K14r2:OpsF:=(oVal (.tmp 13) (kMove (.tmp 0)) (oVal (.tmp 14) (kMove (.tmp 7)) (oVal (.tmp 15) (kMove (.tmp 2)) (oVal (.tmp 16) (kMove (.tmp 7)) (oVal (.tmp 17) (kInt aAdd (.tmp 16) (.con (.int .i64 4))) (oVal (.tmp 18) (kFold minA (.tmp 15) [(.tmp 17)]) (oVal (.tmp 19) (kMove (.tmp 2)) (oVal (.tmp 20) (kBuildSlice [(.int .i64 0),(.int .i64 0),(.int .i64 0)] 3 [(0,1,(.tmp 14)),(1,1,(.tmp 18)),(2,1,(.tmp 19))]) (oCall (.tmp 21) (.con (.func 13 [] [])) [(.tmp 13),(.tmp 20)] (oVal (.tmp 8) (kMove (.tmp 21)) oNil))))))))))
def K14r3:OpsF:=(oVal (.tmp 22) (kMove (.tmp 7)) (oVal (.tmp 23) (kMove (.tmp 0)) (oVal (.tmp 24) (kMove (.tmp 7)) (oVal (.tmp 25) (kMove (.tmp 8)) (oCall (.tmp 26) (.con (.func 12 [] [])) [(.tmp 23),(.tmp 24),(.tmp 25)] (oVal (.tmp 27) (kBuild [(.int .i64 0),(.int .i64 0)] [(0,1,(.tmp 22)),(1,1,(.tmp 26))]) (oVal .none (kStore 2 (.tmp 6) (.tmp 27)) oNil)))))))
theorem res14:Try.f14.results.toList=[.cell 6 45]:=by kernel_rfl
def K14:K:=(kSeq (kRegion K14r0 [6]) (kSeq (kRegion K14r1 [7]) (kSeq (kRegion K14r2 [8]) (kSeq (kRegion K14r3 []) kRet))))
theorem enter14 (cl:CallF) (a0 a1 a2:AV) (s:St):enterA Try.prog X cl 14 [a0,a1,a2] s Try.f14=finA Try.prog Try.f14 (K14 cl ⟨14,none,Try.f14.ntmps,X 14⟩ (paramsEnv 0 [a0,a1,a2] .nil) [] s) :=
  enterA_eq (b:=Try.f14.body.getD .skip) (by kernel_rfl) (by kernel_rfl) (by kernel_rfl) (by kernel_rfl) (by kernel_rfl)
end
end Go.Proofs.Ytofkfgfbibolcaa.code
set_option maxRecDepth 100000
namespace Go.Proofs.Ytofkfgfbibolcaa.code
open Go.Abs
noncomputable section
def K5r0:OpsF:=(oVal (.tmp 8) (kAlloc [(.int .i64 0),(.int .i64 0),.nilslice] (tag 27)) oNil)
def K5r1:OpsF:=(oVal (.tmp 13) (kMove (.tmp 0)) (oVal (.tmp 14) (kMove (.tmp 1)) (oCall (.tmp 15) (.con (.func 12 [] [])) [(.tmp 13),(.con (.int .i64 1)),(.tmp 14)] (oVal (.tmp 16) (kMove (.tmp 0)) (oVal (.tmp 17) (kMove (.tmp 2)) (oCall (.tmp 18) (.con (.func 12 [] [])) [(.tmp 16),(.con (.int .i64 1)),(.tmp 17)] (oVal (.tmp 19) (kBuild [(.int .i64 0),(.int .i64 0),.nilslice] [(0,1,(.tmp 15)),(1,1,(.tmp 18))]) (oVal (.tmp 9) (kAlloc [(.int .i64 0),(.int .i64 0),.nilslice] (tag 27)) (oVal .none (kStore 3 (.tmp 9) (.tmp 19)) oNil)))))))))
def K5r2:OpsF:=(oVal (.tmp 20) (kMove (.tmp 0)) (oVal (.tmp 21) (kBuildSlice [(.int .i64 0),(.int .i64 0),(.int .i64 0)] 3 [(0,1,(.con (.int .i64 6))),(1,1,(.con (.int .i64 100))),(2,1,(.con (.int .i64 5000)))]) (oCall (.tmp 22) (.con (.func 13 [] [])) [(.tmp 20),(.tmp 21)] (oVal (.tmp 23) (kMove (.tmp 0)) (oVal (.tmp 24) (kBuildSlice [(.int .i64 0),(.int .i64 0),(.int .i64 0)] 3 [(0,1,(.con (.int .i64 6))),(1,1,(.con (.int .i64 30))),(2,1,(.con (.int .i64 2000)))]) (oCall (.tmp 25) (.con (.func 13 [] [])) [(.tmp 23),(.tmp 24)] (oVal (.tmp 10) (kMove (.tmp 22)) (oVal (.tmp 11) (kMove (.tmp 25)) oNil))))))))
def K5r3:OpsF:=(oVal (.tmp 26) (kMove (.tmp 0)) (oVal (.tmp 27) (kMove (.tmp 3)) (oVal (.tmp 28) (kInt aAdd (.tmp 27) (.con (.int .i64 1))) (oCall (.tmp 29) (.con (.func 6 [] [])) [(.tmp 26),(.tmp 28)] (oVal (.tmp 12) (kMove (.tmp 29)) oNil)))))
def K5r4:OpsF:=(oVal (.tmp 30) (kMove (.tmp 12)) (oVal (.tmp 31) (kGtr (.tmp 30) (.con (.int .i64 0))) oNil))
def K5r5:OpsF:=(oEnd [] (oVal (.tmp 34) (kUn (fadA 2) (.tmp 9)) (oVal (.tmp 35) (kLoad none (.tmp 34)) (oVal (.tmp 36) (kMove (.tmp 0)) (oVal (.tmp 37) (kUn (fadA 0) (.tmp 9)) (oVal (.tmp 38) (kLoad none (.tmp 37)) (oCallT (some [34,41]) (.tmp 39) (.con (.func 6 [] [])) [(.tmp 36),(.tmp 38)] (oVal (.tmp 40) (kMove (.tmp 0)) (oVal (.tmp 41) (kUn (fadA 1) (.tmp 9)) (oVal (.tmp 42) (kLoad none (.tmp 41)) (oCallT (some [34]) (.tmp 43) (.con (.func 6 [] [])) [(.tmp 40),(.tmp 42)] (oVal (.tmp 44) (kMove (.tmp 0)) (oVal (.tmp 45) (kMove (.tmp 10)) (oCallT (some [34]) (.tmp 46) (.con (.func 14 [] [])) [(.tmp 44),(.con (.int .i64 0)),(.tmp 45)] (oVal (.tmp 47) (kMove (.tmp 0)) (oVal (.tmp 48) (kMove (.tmp 11)) (oCallT (some [34]) (.tmp 49) (.con (.func 14 [] [])) [(.tmp 47),(.con (.int .i64 0)),(.tmp 48)] (oVal (.tmp 50) (kBuild [(.int .i64 0),(.int .i64 0),(.int .i64 0),(.int .i64 0),(.int .i64 0),(.int .i64 0)] [(0,1,(.tmp 39)),(1,1,(.tmp 43)),(2,2,(.tmp 46)),(4,2,(.tmp 49))]) (oVal (.tmp 51) (kBuildSlice [(.int .i64 0),(.int .i64 0),(.int .i64 0),(.int .i64 0),(.int .i64 0),(.int .i64 0)] 1 [(0,6,(.tmp 50))]) (oVal (.tmp 52) (kTwo (appendA false 6 48 (tag 48)) (.tmp 35) (.tmp 51)) (oVal (.tmp 53) (kUn (fadA 2) (.tmp 9)) (oVal .none (kStore 1 (.tmp 53) (.tmp 52)) oNil))))))))))))))))))))))
def K5r6:OpsF:=(oVal (.tmp 32) (kMove (.tmp 12)) (oVal (.tmp 33) (kInt aSub (.tmp 32) (.con (.int .i64 1))) (oVal (.tmp 12) (kMove (.tmp 33)) oNil)))
def K5l0:K:=(kSeq (kSeq (kRegion K5r4 [31]) (kCond (.tmp 31) kSkip (kExit 0))) (kSeq (kBlock 1 (kRegionD K5r5 [])) (kRegion K5r6 [12])))
def K5r7:OpsF:=(oVal (.tmp 54) (kLoad (some 3) (.tmp 9)) (oVal .none (kStore 3 (.tmp 8) (.tmp 54)) oNil))
theorem res5:Try.f5.results.toList=[.cell 8 27]:=by kernel_rfl
def K5:K:=(kSeq (kRegion K5r0 [8]) (kSeq (kRegion K5r1 [9]) (kSeq (kRegion K5r2 [10,11]) (kSeq (kSeq (kRegion K5r3 [12]) (kBlock 0 (kLoop K5l0))) (kSeq (kRegion K5r7 []) kRet)))))
theorem enter5 (cl:CallF) (a0 a1 a2 a3:AV) (s:St):enterA Try.prog X cl 5 [a0,a1,a2,a3] s Try.f5=finA Try.prog Try.f5 (K5 cl ⟨5,none,Try.f5.ntmps,X 5⟩ (paramsEnv 0 [a0,a1,a2,a3] .nil) [] s) :=
  enterA_eq (b:=Try.f5.body.getD .skip) (by kernel_rfl) (by kernel_rfl) (by kernel_rfl) (by kernel_rfl) (by kernel_rfl)
end
end Go.Proofs.Ytofkfgfbibolcaa.code
set_option maxRecDepth 100000
namespace Go.Proofs.Ytofkfgfbibolcaa.code
open Go.Abs
noncomputable section
def K3r0:OpsF:=(oVal (.tmp 2) (kMove (.con (.bool false))) oNil)
def K3r1:OpsF:=(oVal (.tmp 15) (kMove (.tmp 0)) (oCall (.tmp 16) (.con (.func 4 [] [])) [(.tmp 15)] (oVal (.tmp 3) (kMove (.tmp 16)) oNil)))
def K3r2:OpsF:=(oVal (.tmp 17) (kMove (.tmp 3)) (oCall (.tmp 18) (.con (.func 5 [] [])) [(.tmp 17),(.con (.int .i64 3)),(.con (.int .i64 3)),(.con (.int .i64 5))] (oVal (.tmp 4) (kAlloc [(.int .i64 0),(.int .i64 0),.nilslice] (tag 27)) (oVal .none (kStore 3 (.tmp 4) (.tmp 18)) oNil))))
def K3r3:OpsF:=(oVal (.tmp 19) (kMove (.tmp 3)) (oVal (.tmp 20) (kUn (fadA 2) (.tmp 4)) (oVal (.tmp 21) (kLoad none (.tmp 20)) (oVal (.tmp 22) (kUn lenSlA (.tmp 21)) (oVal (.tmp 23) (kFold minA (.con (.int .i64 3)) [(.tmp 22)]) (oVal (.tmp 24) (kInt aAdd (.tmp 23) (.con (.int .i64 1))) (oCall (.tmp 25) (.con (.func 6 [] [])) [(.tmp 19),(.tmp 24)] (oVal (.tmp 5) (kMove (.tmp 25)) oNil))))))))
def K3r4:OpsF:=(oVal (.tmp 6) (kMove (.con (.int .i64 1))) oNil)
def K3r5:OpsF:=(oVal (.tmp 7) (kMove (.con (.int .i64 0))) oNil)
def K3r6:OpsF:=(oVal (.tmp 26) (kMove (.tmp 7)) (oVal (.tmp 27) (kMove (.tmp 5)) (oVal (.tmp 28) (kInt aLss (.tmp 26) (.tmp 27)) oNil)))
def K3r7:OpsF:=(oVal (.tmp 31) (kMove (.tmp 6)) (oVal (.tmp 32) (kUn (fadA 2) (.tmp 4)) (oVal (.tmp 33) (kLoad none (.tmp 32)) (oVal (.tmp 34) (kUn lenSlA (.tmp 33)) (oVal (.tmp 35) (kMove (.tmp 7)) (oVal (.tmp 36) (kInt aSub (.tmp 34) (.tmp 35)) (oVal (.tmp 37) (kInt aMul (.tmp 31) (.tmp 36)) (oVal (.tmp 6) (kMove (.tmp 37)) oNil))))))))
def K3r8:OpsF:=(oVal (.tmp 29) (kMove (.tmp 7)) (oVal (.tmp 30) (kInt aAdd (.tmp 29) (.con (.int .i64 1))) (oVal (.tmp 7) (kMove (.tmp 30)) oNil)))
def K3l0:K:=(kSeq (kSeq (kRegion K3r6 [28]) (kCond (.tmp 28) kSkip (kExit 0))) (kSeq (kBlock 1 (kRegion K3r7 [6])) (kRegion K3r8 [7])))
def K3r9:OpsF:=(oVal (.tmp 38) (kMove (.tmp 3)) (oVal (.tmp 39) (kMove (.tmp 6)) (oVal (.tmp 40) (kInt aSub (.con (.int .i64 1000000000)) (.tmp 39)) (oCall (.tmp 41) (.con (.func 6 [] [])) [(.tmp 38),(.tmp 40)] (oVal (.tmp 8) (kMove (.tmp 41)) oNil)))))
def K3r10:OpsF:=(oVal (.tmp 9) (kMove (.con .nilslice)) oNil)
def K3r11:OpsF:=(oVal (.tmp 10) (kMove (.con (.int .i64 0))) oNil)
def K3r12:OpsF:=(oVal (.tmp 42) (kMove (.tmp 10)) (oVal (.tmp 43) (kMove (.tmp 6)) (oVal (.tmp 44) (kInt aLss (.tmp 42) (.tmp 43)) oNil)))
def K3r13:OpsF:=(oVal (.tmp 48) (kLoad (some 3) (.tmp 4)) (oVal (.tmp 49) (kMove (.tmp 8)) (oVal (.tmp 50) (kMove (.tmp 10)) (oVal (.tmp 51) (kInt aAdd (.tmp 49) (.tmp 50)) (oVal (.tmp 52) (kMove (.tmp 5)) (oCall (.tmp 53) (.con (.func 7 [] [])) [(.tmp 48),(.tmp 51),(.tmp 52)] (oVal (.tmp 47) (kMove (.tmp 53)) (oVal (.tmp 54) (kUn (extA 0) (.tmp 47)) (oVal (.tmp 55) (kUn (extA 1) (.tmp 47)) (oVal (.tmp 11) (kMove (.tmp 54)) (oVal (.tmp 12) (kMove (.tmp 55)) oNil)))))))))))
def K3r14s7:OpsF:=(oVal (.tmp 63) (kPick (.tmp 58) (.con (.bool true)) (.tmp 62)) oNil)
def K3r14s6:OpsF:=(oIf 58 false (oVal (.tmp 62) (kInt aNeq (.tmp 60) (.tmp 61)) K3r14s7) (oSkip (.tmp 62) K3r14s7))
def K3r14s5:OpsF:=(oIf 58 false (oVal (.tmp 61) (kMove (.tmp 5)) K3r14s6) (oSkip (.tmp 61) K3r14s6))
def K3r14s4:OpsF:=(oIf 58 false (oVal (.tmp 60) (kUn lenSlA (.tmp 59)) K3r14s5) (oSkip (.tmp 60) K3r14s5))
def K3r14:OpsF:=(oVal (.tmp 56) (kMove (.tmp 12)) (oVal (.tmp 57) (kInt aNeq (.tmp 56) (.con (.int .i64 0))) (oVal (.tmp 58) (kMove (.tmp 57)) (oIf 58 false (oVal (.tmp 59) (kMove (.tmp 11)) K3r14s4) (oSkip (.tmp 59) K3r14s4)))))
def K3r15:OpsF:=(oVal (.tmp 2) (kMove (.con (.bool false))) oNil)
def K3r16:OpsF:=(oVal (.tmp 13) (kMove (.con (.int .i64 0))) oNil)
def K3r17:OpsF:=(oVal (.tmp 64) (kMove (.tmp 13)) (oVal (.tmp 65) (kMove (.tmp 11)) (oVal (.tmp 66) (kUn lenSlA (.tmp 65)) (oVal (.tmp 67) (kInt aLss (.tmp 64) (.tmp 66)) oNil))))
def K3r18s24:OpsF:=(oVal (.tmp 94) (kPick (.tmp 85) (.con (.bool true)) (.tmp 93)) oNil)
def K3r18s23:OpsF:=(oIf 85 false (oCall (.tmp 93) (.con (.func 8 [] [])) [(.tmp 88),(.tmp 92)] K3r18s24) (oSkip (.tmp 93) K3r18s24))
def K3r18s22:OpsF:=(oIf 85 false (oVal (.tmp 92) (kLoad none (.tmp 91)) K3r18s23) (oSkip (.tmp 92) K3r18s23))
def K3r18s21:OpsF:=(oIf 85 false (oVal (.tmp 91) (kTwo (ixsA 1) (.tmp 89) (.tmp 90)) K3r18s22) (oSkip (.tmp 91) K3r18s22))
def K3r18s20:OpsF:=(oIf 85 false (oVal (.tmp 90) (kMove (.tmp 13)) K3r18s21) (oSkip (.tmp 90) K3r18s21))
def K3r18s19:OpsF:=(oIf 85 false (oVal (.tmp 89) (kMove (.tmp 11)) K3r18s20) (oSkip (.tmp 89) K3r18s20))
def K3r18s18:OpsF:=(oIf 85 false (oVal (.tmp 88) (kSlice (sliceVal 1) (.tmp 86) none (some (.tmp 87))) K3r18s19) (oSkip (.tmp 88) K3r18s19))
def K3r18s17:OpsF:=(oIf 85 false (oVal (.tmp 87) (kMove (.tmp 13)) K3r18s18) (oSkip (.tmp 87) K3r18s18))
def K3r18s14:OpsF:=(oVal (.tmp 84) (kPick (.tmp 75) (.con (.bool true)) (.tmp 83)) (oVal (.tmp 85) (kMove (.tmp 84)) (oIf 85 false (oVal (.tmp 86) (kMove (.tmp 11)) K3r18s17) (oSkip (.tmp 86) K3r18s17))))
def K3r18s13:OpsF:=(oIf 75 false (oVal (.tmp 83) (kInt aGeq (.tmp 79) (.tmp 82)) K3r18s14) (oSkip (.tmp 83) K3r18s14))
def K3r18s12:OpsF:=(oIf 75 false (oVal (.tmp 82) (kUn lenSlA (.tmp 81)) K3r18s13) (oSkip (.tmp 82) K3r18s13))
def K3r18s11:OpsF:=(oIf 75 false (oVal (.tmp 81) (kLoad none (.tmp 80)) K3r18s12) (oSkip (.tmp 81) K3r18s12))
def K3r18s10:OpsF:=(oIf 75 false (oVal (.tmp 80) (kUn (fadA 2) (.tmp 4)) K3r18s11) (oSkip (.tmp 80) K3r18s11))
def K3r18s9:OpsF:=(oIf 75 false (oVal (.tmp 79) (kLoad none (.tmp 78)) K3r18s10) (oSkip (.tmp 79) K3r18s10))
def K3r18s8:OpsF:=(oIf 75 false (oVal (.tmp 78) (kTwo (ixsA 1) (.tmp 76) (.tmp 77)) K3r18s9) (oSkip (.tmp 78) K3r18s9))
def K3r18s7:OpsF:=(oIf 75 false (oVal (.tmp 77) (kMove (.tmp 13)) K3r18s8) (oSkip (.tmp 77) K3r18s8))
def K3r18:OpsF:=(oEnd [] (oVal (.tmp 70) (kMove (.tmp 11)) (oVal (.tmp 71) (kMove (.tmp 13)) (oVal (.tmp 72) (kTwo (ixsA 1) (.tmp 70) (.tmp 71)) (oVal (.tmp 73) (kLoad none (.tmp 72)) (oVal (.tmp 74) (kInt aLss (.tmp 73) (.con (.int .i64 0))) (oVal (.tmp 75) (kMove (.tmp 74)) (oIf 75 false (oVal (.tmp 76) (kMove (.tmp 11)) K3r18s7) (oSkip (.tmp 76) K3r18s7)))))))))
def K3r19:OpsF:=(oVal (.tmp 2) (kMove (.con (.bool false))) oNil)
def K3r20:OpsF:=(oVal (.tmp 68) (kMove (.tmp 13)) (oVal (.tmp 69) (kInt aAdd (.tmp 68) (.con (.int .i64 1))) (oVal (.tmp 13) (kMove (.tmp 69)) oNil)))
def K3l1:K:=(kSeq (kSeq (kRegion K3r17 [67]) (kCond (.tmp 67) kSkip (kExit 4))) (kSeq (kBlock 5 (kSeq (kRegionD K3r18 [94]) (kCond (.tmp 94) (kSeq (kRegion K3r19 [2]) kRet) kSkip))) (kRegion K3r20 [13])))
def K3r21:OpsF:=(oVal (.tmp 14) (kMove (.con (.int .i64 0))) oNil)
def K3r22:OpsF:=(oVal (.tmp 95) (kMove (.tmp 14)) (oVal (.tmp 96) (kMove (.tmp 9)) (oVal (.tmp 97) (kUn lenSlA (.tmp 96)) (oVal (.tmp 98) (kInt aLss (.tmp 95) (.tmp 97)) oNil))))
def K3r23:OpsF:=(oVal (.tmp 101) (kMove (.tmp 9)) (oVal (.tmp 102) (kMove (.tmp 14)) (oVal (.tmp 103) (kTwo (ixsA 1) (.tmp 101) (.tmp 102)) (oVal (.tmp 104) (kLoad none (.tmp 103)) (oVal (.tmp 105) (kMove (.tmp 11)) (oCall (.tmp 106) (.con (.func 9 [] [])) [(.tmp 104),(.tmp 105)] oNil))))))
def K3r24:OpsF:=(oVal (.tmp 2) (kMove (.con (.bool false))) oNil)
def K3r25:OpsF:=(oVal (.tmp 99) (kMove (.tmp 14)) (oVal (.tmp 100) (kInt aAdd (.tmp 99) (.con (.int .i64 1))) (oVal (.tmp 14) (kMove (.tmp 100)) oNil)))
def K3l2:K:=(kSeq (kSeq (kRegion K3r22 [98]) (kCond (.tmp 98) kSkip (kExit 6))) (kSeq (kBlock 7 (kSeq (kRegion K3r23 [106]) (kCond (.tmp 106) (kSeq (kRegion K3r24 [2]) kRet) kSkip))) (kRegion K3r25 [14])))
def K3r26:OpsF:=(oVal (.tmp 107) (kMove (.tmp 9)) (oVal (.tmp 108) (kMove (.tmp 11)) (oVal (.tmp 109) (kBuildSlice [.nilslice] 1 [(0,1,(.tmp 108))]) (oVal (.tmp 110) (kTwo (appendA false 1 24 (tag 22)) (.tmp 107) (.tmp 109)) (oVal (.tmp 9) (kMove (.tmp 110)) oNil)))))
def K3r27:OpsF:=(oVal (.tmp 45) (kMove (.tmp 10)) (oVal (.tmp 46) (kInt aAdd (.tmp 45) (.con (.int .i64 1))) (oVal (.tmp 10) (kMove (.tmp 46)) oNil)))
def K3l3:K:=(kSeq (kSeq (kRegion K3r12 [44]) (kCond (.tmp 44) kSkip (kExit 2))) (kSeq (kBlock 3 (kSeq (kRegion K3r13 [11,12]) (kSeq (kSeq (kRegion K3r14 [63]) (kCond (.tmp 63) (kSeq (kRegion K3r15 [2]) kRet) kSkip)) (kSeq (kSeq (kRegion K3r16 [13]) (kBlock 4 (kLoop K3l1))) (kSeq (kSeq (kRegion K3r21 [14]) (kBlock 6 (kLoop K3l2))) (kRegion K3r26 [9])))))) (kRegion K3r27 [10])))
def K3r28:OpsF:=(oCall (.tmp 111) (.con (.func 10 [] [])) [] (oVal (.tmp 2) (kMove (.tmp 111)) oNil))
theorem res3:Try.f3.results.toList=[.tmp 2]:=by kernel_rfl
def K3:K:=(kSeq (kRegion K3r0 [2]) (kSeq (kRegion K3r1 [3]) (kSeq (kRegion K3r2 [4]) (kSeq (kRegion K3r3 [5]) (kSeq (kRegion K3r4 [6]) (kSeq (kSeq (kRegion K3r5 [7]) (kBlock 0 (kLoop K3l0))) (kSeq (kRegion K3r9 [8]) (kSeq (kRegion K3r10 [9]) (kSeq (kSeq (kRegion K3r11 [10]) (kBlock 2 (kLoop K3l3))) (kSeq (kRegion K3r28 [2]) kRet))))))))))
def K8r0:OpsF:=(oVal (.tmp 4) (kMove (.con (.bool false))) oNil)
def K8r1:OpsF:=(oVal (.tmp 5) (kMove (.con (.int .i64 0))) oNil)
def K8r2:OpsF:=(oVal (.tmp 6) (kMove (.tmp 5)) (oVal (.tmp 7) (kMove (.tmp 0)) (oVal (.tmp 8) (kUn lenSlA (.tmp 7)) (oVal (.tmp 9) (kInt aLss (.tmp 6) (.tmp 8)) oNil))))
def K8r3:OpsF:=(oVal (.tmp 12) (kMove (.tmp 0)) (oVal (.tmp 13) (kMove (.tmp 5)) (oVal (.tmp 14) (kTwo (ixsA 1) (.tmp 12) (.tmp 13)) (oVal (.tmp 15) (kLoad none (.tmp 14)) (oVal (.tmp 16) (kMove (.tmp 1)) (oVal (.tmp 17) (kInt aEql (.tmp 15) (.tmp 16)) oNil))))))
def K8r4:OpsF:=(oVal (.tmp 4) (kMove (.con (.bool true))) oNil)
def K8r5:OpsF:=(oVal (.tmp 10) (kMove (.tmp 5)) (oVal (.tmp 11) (kInt aAdd (.tmp 10) (.con (.int .i64 1))) (oVal (.tmp 5) (kMove (.tmp 11)) oNil)))
def K8l0:K:=(kSeq (kSeq (kRegion K8r2 [9]) (kCond (.tmp 9) kSkip (kExit 0))) (kSeq (kBlock 1 (kSeq (kRegion K8r3 [17]) (kCond (.tmp 17) (kSeq (kRegion K8r4 [4]) kRet) kSkip))) (kRegion K8r5 [5])))
def K8r6:OpsF:=(oVal (.tmp 4) (kMove (.con (.bool false))) oNil)
theorem res8:Try.f8.results.toList=[.tmp 4]:=by kernel_rfl
def K8:K:=(kSeq (kRegion K8r0 [4]) (kSeq (kSeq (kRegion K8r1 [5]) (kBlock 0 (kLoop K8l0))) (kSeq (kRegion K8r6 [4]) kRet)))
theorem enter8 (cl:CallF) (a0 a1:AV) (s:St):enterA Try.prog X cl 8 [a0,a1] s Try.f8=finA Try.prog Try.f8 (K8 cl ⟨8,none,Try.f8.ntmps,X 8⟩ (paramsEnv 0 [a0,a1] .nil) [] s) :=
  enterA_eq (b:=Try.f8.body.getD .skip) (by kernel_rfl) (by kernel_rfl) (by kernel_rfl) (by kernel_rfl) (by kernel_rfl)
def K9r0:OpsF:=(oVal (.tmp 4) (kMove (.con (.bool false))) oNil)
def K9r1:OpsF:=(oVal (.tmp 7) (kMove (.tmp 0)) (oVal (.tmp 8) (kUn lenSlA (.tmp 7)) (oVal (.tmp 9) (kMove (.tmp 1)) (oVal (.tmp 10) (kUn lenSlA (.tmp 9)) (oVal (.tmp 11) (kInt aEql (.tmp 8) (.tmp 10)) (oVal (.tmp 5) (kMove (.tmp 11)) oNil))))))
def K9r2:OpsF:=(oVal (.tmp 6) (kMove (.con (.int .i64 0))) oNil)
def K9r3s6:OpsF:=(oVal (.tmp 18) (kPick (.tmp 13) (.tmp 17) (.con (.bool false))) oNil)
def K9r3s5:OpsF:=(oIf 13 true (oVal (.tmp 17) (kInt aLss (.tmp 14) (.tmp 16)) K9r3s6) (oSkip (.tmp 17) K9r3s6))
def K9r3s4:OpsF:=(oIf 13 true (oVal (.tmp 16) (kUn lenSlA (.tmp 15)) K9r3s5) (oSkip (.tmp 16) K9r3s5))
def K9r3s3:OpsF:=(oIf 13 true (oVal (.tmp 15) (kMove (.tmp 0)) K9r3s4) (oSkip (.tmp 15) K9r3s4))
def K9r3:OpsF:=(oVal (.tmp 12) (kMove (.tmp 5)) (oVal (.tmp 13) (kMove (.tmp 12)) (oIf 13 true (oVal (.tmp 14) (kMove (.tmp 6)) K9r3s3) (oSkip (.tmp 14) K9r3s3))))
def K9r4:OpsF:=(oEnd [] (oVal (.tmp 21) (kMove (.tmp 0)) (oVal (.tmp 22) (kMove (.tmp 6)) (oVal (.tmp 23) (kTwo (ixsA 1) (.tmp 21) (.tmp 22)) (oVal (.tmp 24) (kLoad none (.tmp 23)) (oVal (.tmp 25) (kMove (.tmp 1)) (oVal (.tmp 26) (kMove (.tmp 6)) (oVal (.tmp 27) (kTwo (ixsA 1) (.tmp 25) (.tmp 26)) (oVal (.tmp 28) (kLoad none (.tmp 27)) (oVal (.tmp 29) (kInt aEql (.tmp 24) (.tmp 28)) (oVal (.tmp 5) (kMove (.tmp 29)) oNil)))))))))))
def K9r5:OpsF:=(oVal (.tmp 19) (kMove (.tmp 6)) (oVal (.tmp 20) (kInt aAdd (.tmp 19) (.con (.int .i64 1))) (oVal (.tmp 6) (kMove (.tmp 20)) oNil)))
def K9l0:K:=(kSeq (kSeq (kRegion K9r3 [18]) (kCond (.tmp 18) kSkip (kExit 0))) (kSeq (kBlock 1 (kRegionD K9r4 [5])) (kRegion K9r5 [6])))
def K9r6:OpsF:=(oVal (.tmp 30) (kMove (.tmp 5)) (oVal (.tmp 4) (kMove (.tmp 30)) oNil))
theorem res9:Try.f9.results.toList=[.tmp 4]:=by kernel_rfl
def K9:K:=(kSeq (kRegion K9r0 [4]) (kSeq (kRegion K9r1 [5]) (kSeq (kSeq (kRegion K9r2 [6]) (kBlock 0 (kLoop K9l0))) (kSeq (kRegion K9r6 [4]) kRet))))
theorem enter9 (cl:CallF) (a0 a1:AV) (s:St):enterA Try.prog X cl 9 [a0,a1] s Try.f9=finA Try.prog Try.f9 (K9 cl ⟨9,none,Try.f9.ntmps,X 9⟩ (paramsEnv 0 [a0,a1] .nil) [] s) :=
  enterA_eq (b:=Try.f9.body.getD .skip) (by kernel_rfl) (by kernel_rfl) (by kernel_rfl) (by kernel_rfl) (by kernel_rfl)
end
end Go.Proofs.Ytofkfgfbibolcaa.code
