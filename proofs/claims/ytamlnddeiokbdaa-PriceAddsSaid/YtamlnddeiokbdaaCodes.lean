/- The code of functions as the interpreter has it, region by region. -/
import Derived.Test.YtamlnddeiokbdaaAbsTab
import Derived.Test.YtamlnddeiokbdaaAbsWalk
import Derived.KernelRfl
set_option maxRecDepth 100000
namespace Go.Proofs.Ytamlnddeiokbdaa.code
open Go.Abs
noncomputable section
def K35r0:OpsF:=(oVal (.tmp 2) (kMove (.con (.int .i64 0))) oNil)
def K35r1:OpsF:=(oVal (.tmp 3) (kMove (.con (.int .i64 0))) oNil)
def K35r2:OpsF:=(oVal (.tmp 6) (kMove (.tmp 0)) (oVal (.tmp 7) (kUn lenSlA (.tmp 6)) (oVal (.tmp 8) (kMove (.con (.int .i64 0))) oNil)))
def K35r3:OpsF:=(oVal (.tmp 9) (kInt aLss (.tmp 8) (.tmp 7)) oNil)
def K35r4:OpsF:=(oVal (.tmp 10) (kTwo (ixsA 1) (.tmp 6) (.tmp 8)) (oVal (.tmp 11) (kLoad none (.tmp 10)) (oVal (.tmp 5) (kMove (.tmp 11)) oNil)))
def K35r5:OpsF:=(oVal (.tmp 12) (kMove (.tmp 5)) (oVal (.tmp 13) (kMove (.tmp 3)) (oVal (.tmp 14) (kInt aNeq (.tmp 12) (.tmp 13)) oNil)))
def K35r6:OpsF:=(oVal (.tmp 15) (kMove (.tmp 5)) (oVal (.tmp 2) (kMove (.tmp 15)) oNil))
def K35r7:OpsF:=(oVal (.tmp 16) (kInt aAdd (.tmp 8) (.con (.int .i64 1))) (oVal (.tmp 8) (kMove (.tmp 16)) oNil))
def K35l0:K:=(kSeq (kRegion K35r3 [9]) (kSeq (kCond (.tmp 9) kSkip (kExit 0)) (kSeq (kBlock 1 (kSeq (kRegion K35r4 [5]) (kSeq (kRegion K35r5 [14]) (kCond (.tmp 14) (kSeq (kRegion K35r6 [2]) kRet) kSkip)))) (kRegion K35r7 [8]))))
def K35r8:OpsF:=(oVal (.tmp 17) (kMove (.tmp 3)) (oVal (.tmp 2) (kMove (.tmp 17)) oNil))
theorem res35:Try.f35.results.toList=[.tmp 2]:=by kernel_rfl
def K35:K:=(kSeq (kRegion K35r0 [2]) (kSeq (kRegion K35r1 [3]) (kSeq (kSeq (kRegion K35r2 [6,7,8]) (kBlock 0 (kLoop K35l0))) (kSeq (kRegion K35r8 [2]) kRet))))
theorem enter35 (cl:CallF) (a0:AV) (s:St):enterA Try.prog X cl 35 [a0] s Try.f35=finA Try.prog Try.f35 (K35 cl ⟨35,none,Try.f35.ntmps,X 35⟩ (paramsEnv 0 [a0] .nil) [] s) :=
  enterA_eq (b:=Try.f35.body.getD .skip) (by kernel_rfl) (by kernel_rfl) (by kernel_rfl) (by kernel_rfl) (by kernel_rfl)
def K58r0:OpsF:=(oVal (.tmp 6) (kMove (.con (.int .i64 0))) oNil)
def K58r1:OpsF:=(oVal (.tmp 8) (kMove (.tmp 0)) (oVal (.tmp 9) (kMove (.tmp 1)) (oVal (.tmp 10) (kInt aLss (.tmp 8) (.tmp 9)) (oVal (.tmp 7) (kMove (.tmp 10)) oNil))))
def K58r2:OpsF:=(oVal (.tmp 6) (kMove (.con (.int .i64 7))) oNil)
def K58r3:OpsF:=(oVal (.tmp 12) (kMove (.tmp 0)) (oVal (.tmp 13) (kMove (.tmp 2)) (oVal (.tmp 14) (kGtr (.tmp 12) (.tmp 13)) (oVal (.tmp 11) (kMove (.tmp 14)) oNil))))
def K58r4:OpsF:=(oVal (.tmp 6) (kMove (.con (.int .i64 6))) oNil)
def K58r5:OpsF:=(oVal (.tmp 6) (kMove (.con (.int .i64 0))) oNil)
theorem res58:Try.f58.results.toList=[.tmp 6]:=by kernel_rfl
def K58:K:=(kSeq (kRegion K58r0 [6]) (kSeq (kBlock 0 (kSeq (kRegion K58r1 [7]) (kCond (.tmp 7) (kSeq (kRegion K58r2 [6]) kRet) (kSeq (kRegion K58r3 [11]) (kCond (.tmp 11) (kSeq (kRegion K58r4 [6]) kRet) kSkip))))) (kSeq (kRegion K58r5 [6]) kRet)))
theorem enter58 (cl:CallF) (a0 a1 a2:AV) (s:St):enterA Try.prog X cl 58 [a0,a1,a2] s Try.f58=finA Try.prog Try.f58 (K58 cl ⟨58,none,Try.f58.ntmps,X 58⟩ (paramsEnv 0 [a0,a1,a2] .nil) [] s) :=
  enterA_eq (b:=Try.f58.body.getD .skip) (by kernel_rfl) (by kernel_rfl) (by kernel_rfl) (by kernel_rfl) (by kernel_rfl)
def K43r0:OpsF:=(oVal (.tmp 4) (kMove (.con (.int .i64 0))) oNil)
def K43r1s6:OpsF:=(oVal (.tmp 11) (kPick (.tmp 7) (.con (.bool true)) (.tmp 10)) oNil)
def K43r1s5:OpsF:=(oIf 7 false (oVal (.tmp 10) (kInt aGeq (.tmp 8) (.tmp 9)) K43r1s6) (oSkip (.tmp 10) K43r1s6))
def K43r1s4:OpsF:=(oIf 7 false (oVal (.tmp 9) (kMove (.tmp 1)) K43r1s5) (oSkip (.tmp 9) K43r1s5))
def K43r1:OpsF:=(oVal (.tmp 5) (kMove (.tmp 0)) (oVal (.tmp 6) (kInt aLss (.tmp 5) (.con (.int .i64 0))) (oVal (.tmp 7) (kMove (.tmp 6)) (oIf 7 false (oVal (.tmp 8) (kMove (.tmp 0)) K43r1s4) (oSkip (.tmp 8) K43r1s4)))))
def K43r2:OpsF:=(oVal (.tmp 4) (kMove (.con (.int .i64 3))) oNil)
def K43r3:OpsF:=(oVal (.tmp 4) (kMove (.con (.int .i64 0))) oNil)
theorem res43:Try.f43.results.toList=[.tmp 4]:=by kernel_rfl
def K43:K:=(kSeq (kRegion K43r0 [4]) (kSeq (kSeq (kRegion K43r1 [11]) (kCond (.tmp 11) (kSeq (kRegion K43r2 [4]) kRet) kSkip)) (kSeq (kRegion K43r3 [4]) kRet)))
theorem enter43 (cl:CallF) (a0 a1:AV) (s:St):enterA Try.prog X cl 43 [a0,a1] s Try.f43=finA Try.prog Try.f43 (K43 cl ⟨43,none,Try.f43.ntmps,X 43⟩ (paramsEnv 0 [a0,a1] .nil) [] s) :=
  enterA_eq (b:=Try.f43.body.getD .skip) (by kernel_rfl) (by kernel_rfl) (by kernel_rfl) (by kernel_rfl) (by kernel_rfl)
def K71r0:OpsF:=(oVal (.tmp 3) (kBox (tag 38) (.tmp 0)) (oVal (.tmp 6) (kMove (.con (.int .i64 0))) oNil))
def K71r1:OpsF:=(oEnd [] (oVal (.tmp 8) (kUn (fadA 0) (.tmp 3)) (oVal (.tmp 9) (kLoad none (.tmp 8)) (oVal (.tmp 10) (kMove (.tmp 1)) (oVal (.tmp 11) (kMove (.tmp 2)) (oCallT (some [13]) (.tmp 12) (.con (.func 56 [] [])) [(.tmp 9),(.tmp 10),(.tmp 11)] (oVal (.tmp 13) (kUn (fadA 1) (.tmp 3)) (oVal (.tmp 14) (kLoad none (.tmp 13)) (oVal (.tmp 15) (kMove (.tmp 1)) (oVal (.tmp 16) (kMove (.tmp 2)) (oCall (.tmp 17) (.con (.func 56 [] [])) [(.tmp 14),(.tmp 15),(.tmp 16)] (oVal (.tmp 18) (kBuildSlice [(.int .i64 0),(.int .i64 0)] 2 [(0,1,(.tmp 12)),(1,1,(.tmp 17))]) (oCall (.tmp 19) (.con (.func 35 [] [])) [(.tmp 18)] (oVal (.tmp 7) (kMove (.tmp 19)) oNil))))))))))))))
def K71r2:OpsF:=(oVal (.tmp 20) (kMove (.tmp 7)) (oVal (.tmp 21) (kInt aNeq (.tmp 20) (.con (.int .i64 0))) oNil))
def K71r3:OpsF:=(oVal (.tmp 22) (kMove (.tmp 7)) (oVal (.tmp 6) (kMove (.tmp 22)) oNil))
def K71r4:OpsF:=(oVal (.tmp 23) (kUn (fadA 0) (.tmp 3)) (oVal (.tmp 24) (kLoad none (.tmp 23)) (oVal (.tmp 25) (kUn (fadA 1) (.tmp 3)) (oVal (.tmp 26) (kLoad none (.tmp 25)) (oVal (.tmp 27) (kGtr (.tmp 24) (.tmp 26)) oNil)))))
def K71r5:OpsF:=(oVal (.tmp 6) (kMove (.con (.int .i64 5))) oNil)
def K71r6:OpsF:=(oVal (.tmp 6) (kMove (.con (.int .i64 0))) oNil)
theorem res71:Try.f71.results.toList=[.tmp 6]:=by kernel_rfl
def K71:K:=(kSeq (kRegion K71r0 [3,6]) (kSeq (kSeq (kRegionD K71r1 [7]) (kSeq (kRegion K71r2 [21]) (kCond (.tmp 21) (kSeq (kRegion K71r3 [6]) kRet) kSkip))) (kSeq (kSeq (kRegion K71r4 [27]) (kCond (.tmp 27) (kSeq (kRegion K71r5 [6]) kRet) kSkip)) (kSeq (kRegion K71r6 [6]) kRet))))
theorem enter71 (cl:CallF) (a0 a1 a2:AV) (s:St):enterA Try.prog X cl 71 [a0,a1,a2] s Try.f71=finA Try.prog Try.f71 (K71 cl ⟨71,none,Try.f71.ntmps,X 71⟩ (paramsEnv 0 [a0,a1,a2] .nil) [] s) :=
  enterA_eq (b:=Try.f71.body.getD .skip) (by kernel_rfl) (by kernel_rfl) (by kernel_rfl) (by kernel_rfl) (by kernel_rfl)
def K56r0:OpsF:=(oVal (.tmp 6) (kMove (.con (.int .i64 0))) oNil)
def K56r1s7:OpsF:=(oVal (.tmp 14) (kPick (.tmp 10) (.con (.bool true)) (.tmp 13)) oNil)
def K56r1s6:OpsF:=(oIf 10 false (oVal (.tmp 13) (kGtr (.tmp 11) (.tmp 12)) K56r1s7) (oSkip (.tmp 13) K56r1s7))
def K56r1s5:OpsF:=(oIf 10 false (oVal (.tmp 12) (kMove (.tmp 2)) K56r1s6) (oSkip (.tmp 12) K56r1s6))
def K56r1:OpsF:=(oVal (.tmp 7) (kMove (.tmp 0)) (oVal (.tmp 8) (kMove (.tmp 1)) (oVal (.tmp 9) (kInt aLss (.tmp 7) (.tmp 8)) (oVal (.tmp 10) (kMove (.tmp 9)) (oIf 10 false (oVal (.tmp 11) (kMove (.tmp 0)) K56r1s5) (oSkip (.tmp 11) K56r1s5))))))
def K56r2:OpsF:=(oVal (.tmp 6) (kMove (.con (.int .i64 1))) oNil)
def K56r3:OpsF:=(oVal (.tmp 6) (kMove (.con (.int .i64 0))) oNil)
theorem res56:Try.f56.results.toList=[.tmp 6]:=by kernel_rfl
def K56:K:=(kSeq (kRegion K56r0 [6]) (kSeq (kSeq (kRegion K56r1 [14]) (kCond (.tmp 14) (kSeq (kRegion K56r2 [6]) kRet) kSkip)) (kSeq (kRegion K56r3 [6]) kRet)))
theorem enter56 (cl:CallF) (a0 a1 a2:AV) (s:St):enterA Try.prog X cl 56 [a0,a1,a2] s Try.f56=finA Try.prog Try.f56 (K56 cl ⟨56,none,Try.f56.ntmps,X 56⟩ (paramsEnv 0 [a0,a1,a2] .nil) [] s) :=
  enterA_eq (b:=Try.f56.body.getD .skip) (by kernel_rfl) (by kernel_rfl) (by kernel_rfl) (by kernel_rfl) (by kernel_rfl)
def K36r0:OpsF:=(oVal (.tmp 1) (kBox (tag 27) (.tmp 0)) (oVal (.tmp 2) (kMove (.con (.int .i64 0))) oNil))
def K36r1:OpsF:=(oEnd [] (oVal (.tmp 3) (kUn (fadA 0) (.tmp 1)) (oVal (.tmp 4) (kLoad none (.tmp 3)) (oCallT (some [6,1]) (.tmp 5) (.con (.func 56 [] [])) [(.tmp 4),(.con (.int .i64 1)),(.con (.int .i64 8))] (oVal (.tmp 6) (kUn (fadA 1) (.tmp 1)) (oVal (.tmp 7) (kLoad none (.tmp 6)) (oCallT (some [1]) (.tmp 8) (.con (.func 56 [] [])) [(.tmp 7),(.con (.int .i64 1)),(.con (.int .i64 8))] (oVal (.tmp 9) (kLoad (some 3) (.tmp 1)) (oCall (.tmp 10) (.con (.func 57 [] [])) [(.tmp 9)] (oVal (.tmp 11) (kBuildSlice [(.int .i64 0),(.int .i64 0),(.int .i64 0)] 3 [(0,1,(.tmp 5)),(1,1,(.tmp 8)),(2,1,(.tmp 10))]) (oCall (.tmp 12) (.con (.func 35 [] [])) [(.tmp 11)] (oVal (.tmp 2) (kMove (.tmp 12)) oNil))))))))))))
theorem res36:Try.f36.results.toList=[.tmp 2]:=by kernel_rfl
def K36:K:=(kSeq (kRegion K36r0 [1,2]) (kSeq (kRegionD K36r1 [2]) kRet))
theorem enter36 (cl:CallF) (a0:AV) (s:St):enterA Try.prog X cl 36 [a0] s Try.f36=finA Try.prog Try.f36 (K36 cl ⟨36,none,Try.f36.ntmps,X 36⟩ (paramsEnv 0 [a0] .nil) [] s) :=
  enterA_eq (b:=Try.f36.body.getD .skip) (by kernel_rfl) (by kernel_rfl) (by kernel_rfl) (by kernel_rfl) (by kernel_rfl)
def K57r0:OpsF:=(oVal (.tmp 1) (kBox (tag 27) (.tmp 0)) (oVal (.tmp 2) (kMove (.con (.int .i64 0))) oNil))
def K57r1:OpsF:=(oVal (.tmp 7) (kUn (fadA 2) (.tmp 1)) (oVal (.tmp 8) (kLoad none (.tmp 7)) (oVal (.tmp 9) (kUn lenSlA (.tmp 8)) (oCall (.tmp 10) (.con (.func 58 [] [])) [(.tmp 9),(.con (.int .i64 0)),(.con (.int .i64 40))] (oVal (.tmp 3) (kMove (.tmp 10)) oNil)))))
def K57r2:OpsF:=(oVal (.tmp 11) (kMove (.tmp 3)) (oVal (.tmp 12) (kInt aNeq (.tmp 11) (.con (.int .i64 0))) oNil))
def K57r3:OpsF:=(oVal (.tmp 13) (kMove (.tmp 3)) (oVal (.tmp 2) (kMove (.tmp 13)) oNil))
def K57r4:OpsF:=(oVal (.tmp 14) (kUn (fadA 2) (.tmp 1)) (oVal (.tmp 15) (kLoad none (.tmp 14)) (oVal (.tmp 16) (kUn lenSlA (.tmp 15)) (oVal (.tmp 17) (kMove (.con (.int .i64 0))) oNil))))
def K57r5:OpsF:=(oVal (.tmp 18) (kInt aLss (.tmp 17) (.tmp 16)) oNil)
def K57r6:OpsF:=(oVal (.tmp 19) (kTwo (ixsA 6) (.tmp 15) (.tmp 17)) (oVal (.tmp 20) (kLoad (some 6) (.tmp 19)) (oVal (.tmp 5) (kAlloc [(.int .i64 0),(.int .i64 0),(.int .i64 0),(.int .i64 0),(.int .i64 0),(.int .i64 0)] (tag 51)) (oVal .none (kStore 6 (.tmp 5) (.tmp 20)) oNil))))
def K57r7:OpsF:=(oEnd [] (oVal (.tmp 21) (kUn (fadA 0) (.tmp 5)) (oVal (.tmp 22) (kLoad none (.tmp 21)) (oVal (.tmp 23) (kUn (fadA 0) (.tmp 1)) (oVal (.tmp 24) (kLoad none (.tmp 23)) (oCallT (some [26,28,31,34]) (.tmp 25) (.con (.func 43 [] [])) [(.tmp 22),(.tmp 24)] (oVal (.tmp 26) (kUn (fadA 1) (.tmp 5)) (oVal (.tmp 27) (kLoad none (.tmp 26)) (oVal (.tmp 28) (kUn (fadA 1) (.tmp 1)) (oVal (.tmp 29) (kLoad none (.tmp 28)) (oCallT (some [31,34]) (.tmp 30) (.con (.func 43 [] [])) [(.tmp 27),(.tmp 29)] (oVal (.tmp 31) (kUn (fadA 2) (.tmp 5)) (oVal (.tmp 32) (kLoad (some 2) (.tmp 31)) (oCallT (some [34]) (.tmp 33) (.con (.func 71 [] [])) [(.tmp 32),(.con (.int .i64 0)),(.con (.int .i64 100000))] (oVal (.tmp 34) (kUn (fadA 4) (.tmp 5)) (oVal (.tmp 35) (kLoad (some 2) (.tmp 34)) (oCall (.tmp 36) (.con (.func 71 [] [])) [(.tmp 35),(.con (.int .i64 0)),(.con (.int .i64 100000))] (oVal (.tmp 37) (kBuildSlice [(.int .i64 0),(.int .i64 0),(.int .i64 0),(.int .i64 0)] 4 [(0,1,(.tmp 25)),(1,1,(.tmp 30)),(2,1,(.tmp 33)),(3,1,(.tmp 36))]) (oCall (.tmp 38) (.con (.func 35 [] [])) [(.tmp 37)] (oVal (.tmp 6) (kMove (.tmp 38)) oNil))))))))))))))))))))
def K57r8:OpsF:=(oVal (.tmp 39) (kMove (.tmp 6)) (oVal (.tmp 40) (kInt aNeq (.tmp 39) (.con (.int .i64 0))) oNil))
def K57r9:OpsF:=(oVal (.tmp 41) (kMove (.tmp 6)) (oVal (.tmp 2) (kMove (.tmp 41)) oNil))
def K57r10:OpsF:=(oVal (.tmp 42) (kInt aAdd (.tmp 17) (.con (.int .i64 1))) (oVal (.tmp 17) (kMove (.tmp 42)) oNil))
def K57l0:K:=(kSeq (kRegion K57r5 [18]) (kSeq (kCond (.tmp 18) kSkip (kExit 0)) (kSeq (kBlock 1 (kSeq (kRegion K57r6 [5]) (kSeq (kRegionD K57r7 [6]) (kSeq (kRegion K57r8 [40]) (kCond (.tmp 40) (kSeq (kRegion K57r9 [2]) kRet) kSkip))))) (kRegion K57r10 [17]))))
def K57r11:OpsF:=(oVal (.tmp 2) (kMove (.con (.int .i64 0))) oNil)
theorem res57:Try.f57.results.toList=[.tmp 2]:=by kernel_rfl
def K57:K:=(kSeq (kRegion K57r0 [1,2]) (kSeq (kSeq (kRegion K57r1 [3]) (kSeq (kRegion K57r2 [12]) (kCond (.tmp 12) (kSeq (kRegion K57r3 [2]) kRet) kSkip))) (kSeq (kSeq (kRegion K57r4 [15,16,17]) (kBlock 0 (kLoop K57l0))) (kSeq (kRegion K57r11 [2]) kRet))))
theorem enter57 (cl:CallF) (a0:AV) (s:St):enterA Try.prog X cl 57 [a0] s Try.f57=finA Try.prog Try.f57 (K57 cl ⟨57,none,Try.f57.ntmps,X 57⟩ (paramsEnv 0 [a0] .nil) [] s) :=
  enterA_eq (b:=Try.f57.body.getD .skip) (by kernel_rfl) (by kernel_rfl) (by kernel_rfl) (by kernel_rfl) (by kernel_rfl)
end
end Go.Proofs.Ytamlnddeiokbdaa.code
set_option maxRecDepth 100000
namespace Go.Proofs.Ytamlnddeiokbdaa.code
open Go.Abs
noncomputable section
def K17r0:OpsF:=(oVal (.tmp 2) (kBox (tag 27) (.tmp 0)) (oVal (.tmp 3) (kBox (tag 3) (.tmp 1)) (oVal (.tmp 4) (kAlloc [(.int .i64 0),(.int .i64 0)] (tag 38)) (oVal (.tmp 5) (kMove (.con (.int .i64 0))) oNil))))
def K17r1:OpsF:=(oEnd [] (oVal (.tmp 7) (kLoad (some 3) (.tmp 2)) (oCallT (some [3,10]) (.tmp 8) (.con (.func 36 [] [])) [(.tmp 7)] (oVal (.tmp 9) (kLoad none (.tmp 3)) (oVal (.tmp 10) (kUn (fadA 0) (.tmp 2)) (oVal (.tmp 11) (kLoad none (.tmp 10)) (oCall (.tmp 12) (.con (.func 43 [] [])) [(.tmp 9),(.tmp 11)] (oVal (.tmp 13) (kBuildSlice [(.int .i64 0),(.int .i64 0)] 2 [(0,1,(.tmp 8)),(1,1,(.tmp 12))]) (oCall (.tmp 14) (.con (.func 35 [] [])) [(.tmp 13)] (oVal (.tmp 6) (kMove (.tmp 14)) oNil))))))))))
def K17r2:OpsF:=(oVal (.tmp 15) (kMove (.tmp 6)) (oVal (.tmp 16) (kInt aNeq (.tmp 15) (.con (.int .i64 0))) oNil))
def K17r3:OpsF:=(oVal (.tmp 17) (kBuild [(.int .i64 0),(.int .i64 0)] []) (oVal (.tmp 18) (kMove (.tmp 6)) (oVal .none (kStore 2 (.tmp 4) (.tmp 17)) (oVal (.tmp 5) (kMove (.tmp 18)) oNil))))
def K17r4:OpsF:=(oVal (.tmp 19) (kFunc 50 [] [(.tmp 2),(.tmp 3)]) (oCall (.tmp 20) (.con (.func 38 [] [])) [(.tmp 19)] (oVal .none (kStore 2 (.tmp 4) (.tmp 20)) (oVal (.tmp 5) (kMove (.con (.int .i64 0))) oNil))))
theorem res17:Try.f17.results.toList=[.cell 4 38,.tmp 5]:=by kernel_rfl
def K17:K:=(kSeq (kRegion K17r0 [2,3,4,5]) (kSeq (kSeq (kRegionD K17r1 [6]) (kSeq (kRegion K17r2 [16]) (kCond (.tmp 16) (kSeq (kRegion K17r3 [5]) kRet) kSkip))) (kSeq (kRegion K17r4 [5]) kRet)))
theorem enter17 (cl:CallF) (a0 a1:AV) (s:St):enterA Try.prog X cl 17 [a0,a1] s Try.f17=finA Try.prog Try.f17 (K17 cl ⟨17,none,Try.f17.ntmps,X 17⟩ (paramsEnv 0 [a0,a1] .nil) [] s) :=
  enterA_eq (b:=Try.f17.body.getD .skip) (by kernel_rfl) (by kernel_rfl) (by kernel_rfl) (by kernel_rfl) (by kernel_rfl)
def K50r0:OpsF:=(oVal (.tmp 3) (kBox (tag 82) (.tmp 0)) (oVal (.tmp 4) (kMove (.con (.int .i64 0))) oNil))
def K50r1:OpsF:=(oEnd [] (oVal (.tmp 5) (kLoad (some 2) (.tmp 3)) (oVal (.tmp 6) (kUn (fadA 2) (.tmp 1)) (oVal (.tmp 7) (kLoad none (.tmp 6)) (oCallT (some [2]) (.tmp 8) (.con (.func 41 [] [])) [(.tmp 5),(.tmp 7)] (oVal (.tmp 9) (kLoad none (.tmp 2)) (oVal (.tmp 10) (kLook .int (.int .i64 0) false (.tmp 8) (.tmp 9)) (oVal (.tmp 4) (kMove (.tmp 10)) oNil))))))))
theorem res50:Try.f50.results.toList=[.tmp 4]:=by kernel_rfl
def K50:K:=(kSeq (kRegion K50r0 [3,4]) (kSeq (kRegionD K50r1 [4]) kRet))
theorem enter50 (cl:CallF) (a0 a1 a2:AV) (s:St):enterA Try.prog X cl 50 [a0,a1,a2] s Try.f50=finA Try.prog Try.f50 (K50 cl ⟨50,none,Try.f50.ntmps,X 50⟩ (paramsEnv 0 [a0,a1,a2] .nil) [] s) :=
  enterA_eq (b:=Try.f50.body.getD .skip) (by kernel_rfl) (by kernel_rfl) (by kernel_rfl) (by kernel_rfl) (by kernel_rfl)
def K38r0:OpsF:=(oVal (.tmp 2) (kAlloc [(.int .i64 0),(.int .i64 0)] (tag 38)) oNil)
def K38r1:OpsF:=(oVal (.tmp 3) (kMove (.con (.func 60 [] []))) oNil)
def K38r2:OpsF:=(oVal (.tmp 4) (kMove (.con (.func 61 [] []))) oNil)
def K38r3:OpsF:=(oVal (.tmp 5) (kMove (.tmp 0)) (oVal (.tmp 6) (kMove (.tmp 3)) (oVal (.tmp 7) (kMove (.tmp 4)) (oVal (.tmp 8) (kBuild [.nilfunc,.nilfunc] [(0,1,(.tmp 6)),(1,1,(.tmp 7))]) (oCall (.tmp 9) (.tmp 5) [(.tmp 8)] (oVal (.tmp 10) (kMove (.tmp 0)) (oVal (.tmp 11) (kMove (.tmp 4)) (oVal (.tmp 12) (kMove (.tmp 3)) (oVal (.tmp 13) (kBuild [.nilfunc,.nilfunc] [(0,1,(.tmp 11)),(1,1,(.tmp 12))]) (oCall (.tmp 14) (.tmp 10) [(.tmp 13)] (oVal (.tmp 15) (kBuild [(.int .i64 0),(.int .i64 0)] [(0,1,(.tmp 9)),(1,1,(.tmp 14))]) (oVal .none (kStore 2 (.tmp 2) (.tmp 15)) oNil))))))))))))
theorem res38:Try.f38.results.toList=[.cell 2 38]:=by kernel_rfl
def K38:K:=(kSeq (kRegion K38r0 [2]) (kSeq (kRegion K38r1 [3]) (kSeq (kRegion K38r2 [4]) (kSeq (kRegion K38r3 []) kRet))))
theorem enter38 (cl:CallF) (a0:AV) (s:St):enterA Try.prog X cl 38 [a0] s Try.f38=finA Try.prog Try.f38 (K38 cl ⟨38,none,Try.f38.ntmps,X 38⟩ (paramsEnv 0 [a0] .nil) [] s) :=
  enterA_eq (b:=Try.f38.body.getD .skip) (by kernel_rfl) (by kernel_rfl) (by kernel_rfl) (by kernel_rfl) (by kernel_rfl)
def K60r0:OpsF:=(oVal (.tmp 1) (kBox (tag 38) (.tmp 0)) (oVal (.tmp 2) (kMove (.con (.int .i64 0))) oNil))
def K60r1:OpsF:=(oVal (.tmp 3) (kUn (fadA 0) (.tmp 1)) (oVal (.tmp 4) (kLoad none (.tmp 3)) (oVal (.tmp 2) (kMove (.tmp 4)) oNil)))
theorem res60:Try.f60.results.toList=[.tmp 2]:=by kernel_rfl
def K60:K:=(kSeq (kRegion K60r0 [1,2]) (kSeq (kRegion K60r1 [2]) kRet))
theorem enter60 (cl:CallF) (a0:AV) (s:St):enterA Try.prog X cl 60 [a0] s Try.f60=finA Try.prog Try.f60 (K60 cl ⟨60,none,Try.f60.ntmps,X 60⟩ (paramsEnv 0 [a0] .nil) [] s) :=
  enterA_eq (b:=Try.f60.body.getD .skip) (by kernel_rfl) (by kernel_rfl) (by kernel_rfl) (by kernel_rfl) (by kernel_rfl)
def K61r0:OpsF:=(oVal (.tmp 1) (kBox (tag 38) (.tmp 0)) (oVal (.tmp 2) (kMove (.con (.int .i64 0))) oNil))
def K61r1:OpsF:=(oVal (.tmp 3) (kUn (fadA 1) (.tmp 1)) (oVal (.tmp 4) (kLoad none (.tmp 3)) (oVal (.tmp 2) (kMove (.tmp 4)) oNil)))
theorem res61:Try.f61.results.toList=[.tmp 2]:=by kernel_rfl
def K61:K:=(kSeq (kRegion K61r0 [1,2]) (kSeq (kRegion K61r1 [2]) kRet))
theorem enter61 (cl:CallF) (a0:AV) (s:St):enterA Try.prog X cl 61 [a0] s Try.f61=finA Try.prog Try.f61 (K61 cl ⟨61,none,Try.f61.ntmps,X 61⟩ (paramsEnv 0 [a0] .nil) [] s) :=
  enterA_eq (b:=Try.f61.body.getD .skip) (by kernel_rfl) (by kernel_rfl) (by kernel_rfl) (by kernel_rfl) (by kernel_rfl)
def K41r0:OpsF:=(oVal (.tmp 2) (kBox (tag 82) (.tmp 0)) (oVal (.tmp 4) (kMove (.con .nilmap)) oNil))
def K41r1:OpsF:=(oVal (.tmp 8) kMap (oVal (.tmp 5) (kMove (.tmp 8)) oNil))
def K41r2:OpsF:=(oVal (.tmp 9) (kMove (.tmp 1)) (oVal (.tmp 10) (kUn lenSlA (.tmp 9)) (oVal (.tmp 11) (kMove (.con (.int .i64 0))) oNil)))
def K41r3:OpsF:=(oVal (.tmp 12) (kInt aLss (.tmp 11) (.tmp 10)) oNil)
def K41r4:OpsF:=(oVal (.tmp 13) (kTwo (ixsA 6) (.tmp 9) (.tmp 11)) (oVal (.tmp 14) (kLoad (some 6) (.tmp 13)) (oVal (.tmp 7) (kAlloc [(.int .i64 0),(.int .i64 0),(.int .i64 0),(.int .i64 0),(.int .i64 0),(.int .i64 0)] (tag 51)) (oVal .none (kStore 6 (.tmp 7) (.tmp 14)) oNil))))
def K41r5:OpsF:=(oEnd [] (oVal (.tmp 15) (kMove (.tmp 5)) (oVal (.tmp 16) (kUn (fadA 0) (.tmp 7)) (oVal (.tmp 17) (kLoad none (.tmp 16)) (oVal (.tmp 18) (kLook .int (.int .i64 0) false (.tmp 15) (.tmp 17)) (oVal (.tmp 19) (kLoad (some 2) (.tmp 2)) (oVal (.tmp 20) (kLoad (some 6) (.tmp 7)) (oCallT (some [16,15]) (.tmp 21) (.con (.func 62 [] [])) [(.tmp 19),(.tmp 20)] (oCallT (some [16,15]) (.tmp 22) (.con (.func 63 [] [])) [(.tmp 21)] (oVal (.tmp 23) (kInt aAdd (.tmp 18) (.tmp 22)) (oVal .none (kUpd .int (.tmp 15) (.tmp 17) (.tmp 23)) oNil)))))))))))
def K41r6:OpsF:=(oVal (.tmp 24) (kInt aAdd (.tmp 11) (.con (.int .i64 1))) (oVal (.tmp 11) (kMove (.tmp 24)) oNil))
def K41l0:K:=(kSeq (kRegion K41r3 [12]) (kSeq (kCond (.tmp 12) kSkip (kExit 0)) (kSeq (kBlock 1 (kSeq (kRegion K41r4 [7]) (kRegionD K41r5 []))) (kRegion K41r6 [11]))))
def K41r7:OpsF:=(oVal (.tmp 25) (kMove (.tmp 5)) (oVal (.tmp 4) (kMove (.tmp 25)) oNil))
theorem res41:Try.f41.results.toList=[.tmp 4]:=by kernel_rfl
def K41:K:=(kSeq (kRegion K41r0 [2,4]) (kSeq (kRegion K41r1 [5]) (kSeq (kSeq (kRegion K41r2 [9,10,11]) (kBlock 0 (kLoop K41l0))) (kSeq (kRegion K41r7 [4]) kRet))))
theorem enter41 (cl:CallF) (a0 a1:AV) (s:St):enterA Try.prog X cl 41 [a0,a1] s Try.f41=finA Try.prog Try.f41 (K41 cl ⟨41,none,Try.f41.ntmps,X 41⟩ (paramsEnv 0 [a0,a1] .nil) [] s) :=
  enterA_eq (b:=Try.f41.body.getD .skip) (by kernel_rfl) (by kernel_rfl) (by kernel_rfl) (by kernel_rfl) (by kernel_rfl)
def K62r0:OpsF:=(oVal (.tmp 2) (kBox (tag 82) (.tmp 0)) (oVal (.tmp 3) (kBox (tag 51) (.tmp 1)) (oVal (.tmp 4) (kAlloc [(.int .i64 0),(.int .i64 0)] (tag 103)) oNil)))
def K62r1:OpsF:=(oEnd [] (oVal (.tmp 5) (kUn (fadA 0) (.tmp 2)) (oVal (.tmp 6) (kLoad none (.tmp 5)) (oVal (.tmp 7) (kUn (fadA 2) (.tmp 3)) (oVal (.tmp 8) (kLoad (some 2) (.tmp 7)) (oCallT (some [10,12]) (.tmp 9) (.tmp 6) [(.tmp 8)] (oVal (.tmp 10) (kUn (fadA 0) (.tmp 2)) (oVal (.tmp 11) (kLoad none (.tmp 10)) (oVal (.tmp 12) (kUn (fadA 4) (.tmp 3)) (oVal (.tmp 13) (kLoad (some 2) (.tmp 12)) (oCall (.tmp 14) (.tmp 11) [(.tmp 13)] (oVal (.tmp 15) (kBuild [(.int .i64 0),(.int .i64 0)] [(0,1,(.tmp 9)),(1,1,(.tmp 14))]) (oVal .none (kStore 2 (.tmp 4) (.tmp 15)) oNil)))))))))))))
theorem res62:Try.f62.results.toList=[.cell 4 103]:=by kernel_rfl
def K62:K:=(kSeq (kRegion K62r0 [2,3,4]) (kSeq (kRegionD K62r1 []) kRet))
theorem enter62 (cl:CallF) (a0 a1:AV) (s:St):enterA Try.prog X cl 62 [a0,a1] s Try.f62=finA Try.prog Try.f62 (K62 cl ⟨62,none,Try.f62.ntmps,X 62⟩ (paramsEnv 0 [a0,a1] .nil) [] s) :=
  enterA_eq (b:=Try.f62.body.getD .skip) (by kernel_rfl) (by kernel_rfl) (by kernel_rfl) (by kernel_rfl) (by kernel_rfl)
def K63r0:OpsF:=(oVal (.tmp 1) (kBox (tag 103) (.tmp 0)) (oVal (.tmp 2) (kMove (.con (.int .i64 0))) oNil))
def K63r1:OpsF:=(oVal (.tmp 3) (kTwo (ixaA 2 1) (.tmp 1) (.con (.int .i64 0))) (oVal (.tmp 4) (kLoad none (.tmp 3)) (oVal (.tmp 5) (kTwo (ixaA 2 1) (.tmp 1) (.con (.int .i64 1))) (oVal (.tmp 6) (kLoad none (.tmp 5)) (oVal (.tmp 7) (kInt aMul (.tmp 4) (.tmp 6)) (oVal (.tmp 8) (kInt aQuo (.tmp 7) (.con (.int .i64 1000))) (oVal (.tmp 2) (kMove (.tmp 8)) oNil)))))))
theorem res63:Try.f63.results.toList=[.tmp 2]:=by kernel_rfl
def K63:K:=(kSeq (kRegion K63r0 [1,2]) (kSeq (kRegion K63r1 [2]) kRet))
theorem enter63 (cl:CallF) (a0:AV) (s:St):enterA Try.prog X cl 63 [a0] s Try.f63=finA Try.prog Try.f63 (K63 cl ⟨63,none,Try.f63.ntmps,X 63⟩ (paramsEnv 0 [a0] .nil) [] s) :=
  enterA_eq (b:=Try.f63.body.getD .skip) (by kernel_rfl) (by kernel_rfl) (by kernel_rfl) (by kernel_rfl) (by kernel_rfl)
end
end Go.Proofs.Ytamlnddeiokbdaa.code
set_option maxRecDepth 100000
namespace Go.Proofs.Ytamlnddeiokbdaa.code
open Go.Abs
noncomputable section
def K12r0:OpsF:=(oVal (.tmp 2) (kBox (tag 27) (.tmp 0)) (oVal (.tmp 3) (kBox (tag 29) (.tmp 1)) (oVal (.tmp 4) (kMove (.con .nilslice)) (oVal (.tmp 5) (kMove (.con (.int .i64 0))) oNil))))
def K12r1:OpsF:=(oEnd [] (oVal (.tmp 9) (kLoad (some 3) (.tmp 2)) (oCallT (some [3]) (.tmp 10) (.con (.func 36 [] [])) [(.tmp 9)] (oVal (.tmp 11) (kLoad none (.tmp 3)) (oCall (.tmp 12) (.con (.func 37 [] [])) [(.tmp 11)] (oVal (.tmp 13) (kBuildSlice [(.int .i64 0),(.int .i64 0)] 2 [(0,1,(.tmp 10)),(1,1,(.tmp 12))]) (oCall (.tmp 14) (.con (.func 35 [] [])) [(.tmp 13)] (oVal (.tmp 6) (kMove (.tmp 14)) oNil))))))))
def K12r2:OpsF:=(oVal (.tmp 15) (kMove (.tmp 6)) (oVal (.tmp 16) (kInt aNeq (.tmp 15) (.con (.int .i64 0))) oNil))
def K12r3:OpsF:=(oVal (.tmp 17) (kMove (.tmp 6)) (oVal (.tmp 4) (kMove (.con .nilslice)) (oVal (.tmp 5) (kMove (.tmp 17)) oNil)))
def K12r4:OpsF:=(oVal (.tmp 18) (kUn (fadA 0) (.tmp 2)) (oVal (.tmp 19) (kLoad none (.tmp 18)) (oVal (.tmp 20) (kMake [(.int .i64 0),(.int .i64 0)] 16 (.tmp 19) (.tmp 19)) (oVal (.tmp 7) (kMove (.tmp 20)) oNil))))
def K12r5:OpsF:=(oVal (.tmp 21) (kMove (.tmp 7)) (oVal (.tmp 22) (kUn lenSlA (.tmp 21)) (oVal (.tmp 23) (kMove (.con (.int .i64 0))) oNil)))
def K12r6:OpsF:=(oVal (.tmp 24) (kInt aLss (.tmp 23) (.tmp 22)) oNil)
def K12r7:OpsF:=(oVal (.tmp 25) (kMove (.tmp 23)) (oVal (.tmp 8) (kAlloc [(.int .i64 0)] (tag 3)) (oVal .none (kStore 1 (.tmp 8) (.tmp 25)) oNil)))
def K12r8:OpsF:=(oEnd [] (oVal (.tmp 26) (kMove (.tmp 7)) (oVal (.tmp 27) (kLoad none (.tmp 8)) (oVal (.tmp 28) (kFunc 39 [] [(.tmp 2),(.tmp 8),(.tmp 3)]) (oCallT (some [8]) (.tmp 29) (.con (.func 38 [] [])) [(.tmp 28)] (oVal (.tmp 30) (kTwo (ixsA 2) (.tmp 26) (.tmp 27)) (oVal .none (kStore 2 (.tmp 30) (.tmp 29)) oNil)))))))
def K12r9:OpsF:=(oVal (.tmp 31) (kInt aAdd (.tmp 23) (.con (.int .i64 1))) (oVal (.tmp 23) (kMove (.tmp 31)) oNil))
def K12l0:K:=(kSeq (kRegion K12r6 [24]) (kSeq (kCond (.tmp 24) kSkip (kExit 0)) (kSeq (kBlock 1 (kSeq (kRegion K12r7 [8]) (kRegionD K12r8 []))) (kRegion K12r9 [23]))))
def K12r10:OpsF:=(oVal (.tmp 32) (kMove (.tmp 7)) (oVal (.tmp 4) (kMove (.tmp 32)) (oVal (.tmp 5) (kMove (.con (.int .i64 0))) oNil)))
theorem res12:Try.f12.results.toList=[.tmp 4,.tmp 5]:=by kernel_rfl
def K12:K:=(kSeq (kRegion K12r0 [2,3,4,5]) (kSeq (kSeq (kRegionD K12r1 [6]) (kSeq (kRegion K12r2 [16]) (kCond (.tmp 16) (kSeq (kRegion K12r3 [4,5]) kRet) kSkip))) (kSeq (kRegion K12r4 [7]) (kSeq (kSeq (kRegion K12r5 [22,23]) (kBlock 0 (kLoop K12l0))) (kSeq (kRegion K12r10 [4,5]) kRet)))))
theorem enter12 (cl:CallF) (a0 a1:AV) (s:St):enterA Try.prog X cl 12 [a0,a1] s Try.f12=finA Try.prog Try.f12 (K12 cl ⟨12,none,Try.f12.ntmps,X 12⟩ (paramsEnv 0 [a0,a1] .nil) [] s) :=
  enterA_eq (b:=Try.f12.body.getD .skip) (by kernel_rfl) (by kernel_rfl) (by kernel_rfl) (by kernel_rfl) (by kernel_rfl)
def K39r0:OpsF:=(oVal (.tmp 4) (kBox (tag 82) (.tmp 0)) (oVal (.tmp 5) (kMove (.con (.int .i64 0))) oNil))
def K39r1:OpsF:=(oEnd [] (oVal (.tmp 6) (kLoad (some 2) (.tmp 4)) (oVal (.tmp 7) (kUn (fadA 2) (.tmp 1)) (oVal (.tmp 8) (kLoad none (.tmp 7)) (oCallT (some [2,3]) (.tmp 9) (.con (.func 41 [] [])) [(.tmp 6),(.tmp 8)] (oVal (.tmp 10) (kLoad none (.tmp 2)) (oVal (.tmp 11) (kLook .int (.int .i64 0) false (.tmp 9) (.tmp 10)) (oVal (.tmp 12) (kLoad none (.tmp 3)) (oCall (.tmp 13) (.con (.func 40 [] [])) [(.tmp 11),(.tmp 12)] (oVal (.tmp 5) (kMove (.tmp 13)) oNil))))))))))
theorem res39:Try.f39.results.toList=[.tmp 5]:=by kernel_rfl
def K39:K:=(kSeq (kRegion K39r0 [4,5]) (kSeq (kRegionD K39r1 [5]) kRet))
theorem enter39 (cl:CallF) (a0 a1 a2 a3:AV) (s:St):enterA Try.prog X cl 39 [a0,a1,a2,a3] s Try.f39=finA Try.prog Try.f39 (K39 cl ⟨39,none,Try.f39.ntmps,X 39⟩ (paramsEnv 0 [a0,a1,a2,a3] .nil) [] s) :=
  enterA_eq (b:=Try.f39.body.getD .skip) (by kernel_rfl) (by kernel_rfl) (by kernel_rfl) (by kernel_rfl) (by kernel_rfl)
def K40r0:OpsF:=(oVal (.tmp 4) (kMove (.con (.int .i64 0))) oNil)
def K40r1:OpsF:=(oVal (.tmp 5) (kMove (.con (.int .i64 0))) oNil)
def K40r2:OpsF:=(oVal (.tmp 9) (kMove (.tmp 1)) (oVal (.tmp 10) (kUn lenSlA (.tmp 9)) (oVal (.tmp 11) (kMove (.con (.int .i64 0))) oNil)))
def K40r3:OpsF:=(oVal (.tmp 12) (kInt aLss (.tmp 11) (.tmp 10)) oNil)
def K40r4:OpsF:=(oVal (.tmp 13) (kMove (.tmp 11)) (oVal (.tmp 14) (kTwo (ixsA 2) (.tmp 9) (.tmp 11)) (oVal (.tmp 15) (kLoad (some 2) (.tmp 14)) (oVal (.tmp 7) (kAlloc [(.int .i64 0),(.int .i64 0)] (tag 75)) (oVal (.tmp 6) (kMove (.tmp 13)) (oVal .none (kStore 2 (.tmp 7) (.tmp 15)) oNil))))))
def K40r5:OpsF:=(oVal (.tmp 16) (kMove (.tmp 0)) (oVal (.tmp 8) (kMove (.tmp 16)) oNil))
def K40r6:OpsF:=(oVal (.tmp 17) (kMove (.tmp 6)) (oVal (.tmp 18) (kInt aAdd (.tmp 17) (.con (.int .i64 1))) (oVal (.tmp 19) (kMove (.tmp 1)) (oVal (.tmp 20) (kUn lenSlA (.tmp 19)) (oVal (.tmp 21) (kInt aLss (.tmp 18) (.tmp 20)) oNil)))))
def K40r7:OpsF:=(oVal (.tmp 22) (kMove (.tmp 0)) (oVal (.tmp 23) (kMove (.tmp 1)) (oVal (.tmp 24) (kMove (.tmp 6)) (oVal (.tmp 25) (kInt aAdd (.tmp 24) (.con (.int .i64 1))) (oVal (.tmp 26) (kTwo (ixsA 2) (.tmp 23) (.tmp 25)) (oVal (.tmp 27) (kUn (fadA 0) (.tmp 26)) (oVal (.tmp 28) (kLoad none (.tmp 27)) (oVal (.tmp 29) (kFold minA (.tmp 22) [(.tmp 28)]) (oVal (.tmp 8) (kMove (.tmp 29)) oNil)))))))))
def K40r8:OpsF:=(oVal (.tmp 30) (kMove (.tmp 5)) (oVal (.tmp 31) (kMove (.tmp 8)) (oVal (.tmp 32) (kUn (fadA 0) (.tmp 7)) (oVal (.tmp 33) (kLoad none (.tmp 32)) (oVal (.tmp 34) (kInt aSub (.tmp 31) (.tmp 33)) (oVal (.tmp 35) (kFold maxA (.con (.int .i64 0)) [(.tmp 34)]) (oVal (.tmp 36) (kUn (fadA 1) (.tmp 7)) (oVal (.tmp 37) (kLoad none (.tmp 36)) (oVal (.tmp 38) (kInt aMul (.tmp 35) (.tmp 37)) (oVal (.tmp 39) (kInt aAdd (.tmp 30) (.tmp 38)) (oVal (.tmp 5) (kMove (.tmp 39)) oNil)))))))))))
def K40r9:OpsF:=(oVal (.tmp 40) (kInt aAdd (.tmp 11) (.con (.int .i64 1))) (oVal (.tmp 11) (kMove (.tmp 40)) oNil))
def K40l0:K:=(kSeq (kRegion K40r3 [12]) (kSeq (kCond (.tmp 12) kSkip (kExit 0)) (kSeq (kBlock 1 (kSeq (kRegion K40r4 [7,6]) (kSeq (kRegion K40r5 [8]) (kSeq (kSeq (kRegion K40r6 [21]) (kCond (.tmp 21) (kRegion K40r7 [8]) kSkip)) (kRegion K40r8 [5]))))) (kRegion K40r9 [11]))))
def K40r10:OpsF:=(oVal (.tmp 41) (kMove (.tmp 5)) (oVal (.tmp 42) (kInt aQuo (.tmp 41) (.con (.int .i64 1000))) (oVal (.tmp 4) (kMove (.tmp 42)) oNil)))
theorem res40:Try.f40.results.toList=[.tmp 4]:=by kernel_rfl
def K40:K:=(kSeq (kRegion K40r0 [4]) (kSeq (kRegion K40r1 [5]) (kSeq (kSeq (kRegion K40r2 [9,10,11]) (kBlock 0 (kLoop K40l0))) (kSeq (kRegion K40r10 [4]) kRet))))
theorem enter40 (cl:CallF) (a0 a1:AV) (s:St):enterA Try.prog X cl 40 [a0,a1] s Try.f40=finA Try.prog Try.f40 (K40 cl ⟨40,none,Try.f40.ntmps,X 40⟩ (paramsEnv 0 [a0,a1] .nil) [] s) :=
  enterA_eq (b:=Try.f40.body.getD .skip) (by kernel_rfl) (by kernel_rfl) (by kernel_rfl) (by kernel_rfl) (by kernel_rfl)
def K37r0:OpsF:=(oVal (.tmp 2) (kMove (.con (.int .i64 0))) oNil)
def K37r1:OpsF:=(oVal (.tmp 7) (kMove (.tmp 0)) (oVal (.tmp 8) (kUn lenSlA (.tmp 7)) (oCall (.tmp 9) (.con (.func 58 [] [])) [(.tmp 8),(.con (.int .i64 1)),(.con (.int .i64 5))] (oVal (.tmp 3) (kMove (.tmp 9)) oNil))))
def K37r2:OpsF:=(oVal (.tmp 10) (kMove (.tmp 3)) (oVal (.tmp 11) (kInt aNeq (.tmp 10) (.con (.int .i64 0))) oNil))
def K37r3:OpsF:=(oVal (.tmp 12) (kMove (.tmp 3)) (oVal (.tmp 2) (kMove (.tmp 12)) oNil))
def K37r4:OpsF:=(oVal (.tmp 13) (kMove (.tmp 0)) (oVal (.tmp 14) (kUn lenSlA (.tmp 13)) (oVal (.tmp 15) (kMove (.con (.int .i64 0))) oNil)))
def K37r5:OpsF:=(oVal (.tmp 16) (kInt aLss (.tmp 15) (.tmp 14)) oNil)
def K37r6:OpsF:=(oVal (.tmp 17) (kMove (.tmp 15)) (oVal (.tmp 18) (kTwo (ixsA 2) (.tmp 13) (.tmp 15)) (oVal (.tmp 19) (kLoad (some 2) (.tmp 18)) (oVal (.tmp 5) (kAlloc [(.int .i64 0),(.int .i64 0)] (tag 75)) (oVal (.tmp 4) (kMove (.tmp 17)) (oVal .none (kStore 2 (.tmp 5) (.tmp 19)) oNil))))))
def K37r7:OpsF:=(oEnd [] (oVal (.tmp 20) (kUn (fadA 0) (.tmp 5)) (oVal (.tmp 21) (kLoad none (.tmp 20)) (oCallT (some [23,26]) (.tmp 22) (.con (.func 56 [] [])) [(.tmp 21),(.con (.int .i64 0)),(.con (.int .i64 1000000000))] (oVal (.tmp 23) (kUn (fadA 1) (.tmp 5)) (oVal (.tmp 24) (kLoad none (.tmp 23)) (oCallT (some [26]) (.tmp 25) (.con (.func 56 [] [])) [(.tmp 24),(.con (.int .i64 0)),(.con (.int .i64 1000))] (oVal (.tmp 26) (kUn (fadA 0) (.tmp 5)) (oVal (.tmp 27) (kLoad none (.tmp 26)) (oVal (.tmp 28) (kMove (.tmp 0)) (oVal (.tmp 29) (kMove (.tmp 4)) (oVal (.tmp 30) (kSlice (sliceVal 2) (.tmp 28) none (some (.tmp 29))) (oCall (.tmp 31) (.con (.func 59 [] [])) [(.tmp 27),(.tmp 30)] (oVal (.tmp 32) (kBuildSlice [(.int .i64 0),(.int .i64 0),(.int .i64 0)] 3 [(0,1,(.tmp 22)),(1,1,(.tmp 25)),(2,1,(.tmp 31))]) (oCall (.tmp 33) (.con (.func 35 [] [])) [(.tmp 32)] (oVal (.tmp 6) (kMove (.tmp 33)) oNil))))))))))))))))
def K37r8:OpsF:=(oVal (.tmp 34) (kMove (.tmp 6)) (oVal (.tmp 35) (kInt aNeq (.tmp 34) (.con (.int .i64 0))) oNil))
def K37r9:OpsF:=(oVal (.tmp 36) (kMove (.tmp 6)) (oVal (.tmp 2) (kMove (.tmp 36)) oNil))
def K37r10:OpsF:=(oVal (.tmp 37) (kInt aAdd (.tmp 15) (.con (.int .i64 1))) (oVal (.tmp 15) (kMove (.tmp 37)) oNil))
def K37l0:K:=(kSeq (kRegion K37r5 [16]) (kSeq (kCond (.tmp 16) kSkip (kExit 0)) (kSeq (kBlock 1 (kSeq (kRegion K37r6 [5,4]) (kSeq (kRegionD K37r7 [6]) (kSeq (kRegion K37r8 [35]) (kCond (.tmp 35) (kSeq (kRegion K37r9 [2]) kRet) kSkip))))) (kRegion K37r10 [15]))))
def K37r11:OpsF:=(oVal (.tmp 2) (kMove (.con (.int .i64 0))) oNil)
theorem res37:Try.f37.results.toList=[.tmp 2]:=by kernel_rfl
def K37:K:=(kSeq (kRegion K37r0 [2]) (kSeq (kSeq (kRegion K37r1 [3]) (kSeq (kRegion K37r2 [11]) (kCond (.tmp 11) (kSeq (kRegion K37r3 [2]) kRet) kSkip))) (kSeq (kSeq (kRegion K37r4 [13,14,15]) (kBlock 0 (kLoop K37l0))) (kSeq (kRegion K37r11 [2]) kRet))))
theorem enter37 (cl:CallF) (a0:AV) (s:St):enterA Try.prog X cl 37 [a0] s Try.f37=finA Try.prog Try.f37 (K37 cl ⟨37,none,Try.f37.ntmps,X 37⟩ (paramsEnv 0 [a0] .nil) [] s) :=
  enterA_eq (b:=Try.f37.body.getD .skip) (by kernel_rfl) (by kernel_rfl) (by kernel_rfl) (by kernel_rfl) (by kernel_rfl)
def K59r0:OpsF:=(oVal (.tmp 4) (kMove (.con (.int .i64 0))) oNil)
def K59r1:OpsF:=(oVal (.tmp 5) (kMove (.tmp 1)) (oVal (.tmp 6) (kUn lenSlA (.tmp 5)) (oVal (.tmp 7) (kInt aEql (.tmp 6) (.con (.int .i64 0))) oNil)))
def K59r2:OpsF:=(oVal (.tmp 8) (kMove (.tmp 0)) (oVal (.tmp 9) (kInt aEql (.tmp 8) (.con (.int .i64 0))) (oCall (.tmp 10) (.con (.func 72 [] [])) [(.tmp 9),(.con (.int .i64 2))] (oVal (.tmp 4) (kMove (.tmp 10)) oNil))))
def K59r3:OpsF:=(oVal (.tmp 11) (kMove (.tmp 0)) (oVal (.tmp 12) (kMove (.tmp 1)) (oVal (.tmp 13) (kMove (.tmp 1)) (oVal (.tmp 14) (kUn lenSlA (.tmp 13)) (oVal (.tmp 15) (kInt aSub (.tmp 14) (.con (.int .i64 1))) (oVal (.tmp 16) (kTwo (ixsA 2) (.tmp 12) (.tmp 15)) (oVal (.tmp 17) (kUn (fadA 0) (.tmp 16)) (oVal (.tmp 18) (kLoad none (.tmp 17)) (oVal (.tmp 19) (kGtr (.tmp 11) (.tmp 18)) (oCall (.tmp 20) (.con (.func 72 [] [])) [(.tmp 19),(.con (.int .i64 5))] (oVal (.tmp 4) (kMove (.tmp 20)) oNil)))))))))))
theorem res59:Try.f59.results.toList=[.tmp 4]:=by kernel_rfl
def K59:K:=(kSeq (kRegion K59r0 [4]) (kSeq (kSeq (kRegion K59r1 [7]) (kCond (.tmp 7) (kSeq (kRegion K59r2 [4]) kRet) kSkip)) (kSeq (kRegion K59r3 [4]) kRet)))
theorem enter59 (cl:CallF) (a0 a1:AV) (s:St):enterA Try.prog X cl 59 [a0,a1] s Try.f59=finA Try.prog Try.f59 (K59 cl ⟨59,none,Try.f59.ntmps,X 59⟩ (paramsEnv 0 [a0,a1] .nil) [] s) :=
  enterA_eq (b:=Try.f59.body.getD .skip) (by kernel_rfl) (by kernel_rfl) (by kernel_rfl) (by kernel_rfl) (by kernel_rfl)
def K72r0:OpsF:=(oVal (.tmp 4) (kMove (.con (.int .i64 0))) oNil)
def K72r1:OpsF:=(oVal (.tmp 5) (kMove (.tmp 0)) oNil)
def K72r2:OpsF:=(oVal (.tmp 4) (kMove (.con (.int .i64 0))) oNil)
def K72r3:OpsF:=(oVal (.tmp 6) (kMove (.tmp 1)) (oVal (.tmp 4) (kMove (.tmp 6)) oNil))
theorem res72:Try.f72.results.toList=[.tmp 4]:=by kernel_rfl
def K72:K:=(kSeq (kRegion K72r0 [4]) (kSeq (kSeq (kRegion K72r1 [5]) (kCond (.tmp 5) (kSeq (kRegion K72r2 [4]) kRet) kSkip)) (kSeq (kRegion K72r3 [4]) kRet)))
theorem enter72 (cl:CallF) (a0 a1:AV) (s:St):enterA Try.prog X cl 72 [a0,a1] s Try.f72=finA Try.prog Try.f72 (K72 cl ⟨72,none,Try.f72.ntmps,X 72⟩ (paramsEnv 0 [a0,a1] .nil) [] s) :=
  enterA_eq (b:=Try.f72.body.getD .skip) (by kernel_rfl) (by kernel_rfl) (by kernel_rfl) (by kernel_rfl) (by kernel_rfl)
end
end Go.Proofs.Ytamlnddeiokbdaa.code
set_option maxRecDepth 100000
namespace Go.Proofs.Ytamlnddeiokbdaa.code
open Go.Abs
noncomputable section
def K30r0:OpsF:=(oVal (.tmp 2) (kMove (.con (.int .u64 0))) oNil)
def K30r1:OpsF:=(oVal (.tmp 4) (kMove (.tmp 0)) (oVal (.tmp 5) (kMove (.tmp 0)) (oVal (.tmp 6) (kUn nilA (.tmp 5)) (oVal (.tmp 7) (kUn (fadA 0) (.tmp 6)) (oVal (.tmp 8) (kLoad none (.tmp 7)) (oVal (.tmp 9) (kInt aAdd (.tmp 8) (.con (.int .u64 11562461410679940143))) (oVal (.tmp 10) (kUn nilA (.tmp 4)) (oVal (.tmp 11) (kUn (fadA 0) (.tmp 10)) (oVal .none (kStore 1 (.tmp 11) (.tmp 9)) oNil)))))))))
def K30r2:OpsF:=(oVal (.tmp 12) (kMove (.tmp 0)) (oVal (.tmp 13) (kUn nilA (.tmp 12)) (oVal (.tmp 14) (kUn (fadA 0) (.tmp 13)) (oVal (.tmp 15) (kLoad none (.tmp 14)) (oVal (.tmp 3) (kMove (.tmp 15)) oNil)))))
def K30r3:OpsF:=(oVal (.tmp 16) (kMove (.tmp 3)) (oVal (.tmp 17) (kMove (.tmp 3)) (oVal (.tmp 18) (kShr (.tmp 17) (.con (.int .u64 30))) (oVal (.tmp 19) (kInt aXor (.tmp 16) (.tmp 18)) (oVal (.tmp 20) (kInt aMul (.tmp 19) (.con (.int .u64 13787848793156543929))) (oVal (.tmp 3) (kMove (.tmp 20)) oNil))))))
def K30r4:OpsF:=(oVal (.tmp 21) (kMove (.tmp 3)) (oVal (.tmp 22) (kMove (.tmp 3)) (oVal (.tmp 23) (kShr (.tmp 22) (.con (.int .u64 27))) (oVal (.tmp 24) (kInt aXor (.tmp 21) (.tmp 23)) (oVal (.tmp 25) (kInt aMul (.tmp 24) (.con (.int .u64 10723151780598845931))) (oVal (.tmp 3) (kMove (.tmp 25)) oNil))))))
def K30r5:OpsF:=(oVal (.tmp 26) (kMove (.tmp 3)) (oVal (.tmp 27) (kMove (.tmp 3)) (oVal (.tmp 28) (kShr (.tmp 27) (.con (.int .u64 31))) (oVal (.tmp 29) (kInt aXor (.tmp 26) (.tmp 28)) (oVal (.tmp 2) (kMove (.tmp 29)) oNil)))))
theorem res30:Try.f30.results.toList=[.tmp 2]:=by kernel_rfl
def K30:K:=(kSeq (kRegion K30r0 [2]) (kSeq (kRegion K30r1 []) (kSeq (kRegion K30r2 [3]) (kSeq (kRegion K30r3 [3]) (kSeq (kRegion K30r4 [3]) (kSeq (kRegion K30r5 [2]) kRet))))))
theorem enter30 (cl:CallF) (a0:AV) (s:St):enterA Try.prog X cl 30 [a0] s Try.f30=finA Try.prog Try.f30 (K30 cl ⟨30,none,Try.f30.ntmps,X 30⟩ (paramsEnv 0 [a0] .nil) [] s) :=
  enterA_eq (b:=Try.f30.body.getD .skip) (by kernel_rfl) (by kernel_rfl) (by kernel_rfl) (by kernel_rfl) (by kernel_rfl)
def K33r0:OpsF:=(oVal (.tmp 4) (kMove (.con (.int .i64 0))) oNil)
def K33r1:OpsF:=(oVal (.tmp 5) (kMove (.tmp 1)) (oVal (.tmp 6) (kInt aLss (.tmp 5) (.con (.int .i64 2))) oNil))
def K33r2:OpsF:=(oVal (.tmp 4) (kMove (.con (.int .i64 0))) oNil)
def K33r3:OpsF:=(oVal (.tmp 7) (kMove (.tmp 0)) (oCall (.tmp 8) (.con (.func 30 [] [])) [(.tmp 7)] (oVal (.tmp 9) (kShr (.tmp 8) (.con (.int .u64 2))) (oVal (.tmp 10) (kMove (.tmp 1)) (oVal (.tmp 11) (kUn (cviA .u64) (.tmp 10)) (oVal (.tmp 12) (kInt aRem (.tmp 9) (.tmp 11)) (oVal (.tmp 13) (kUn (cviA .i64) (.tmp 12)) (oVal (.tmp 4) (kMove (.tmp 13)) oNil))))))))
theorem res33:Try.f33.results.toList=[.tmp 4]:=by kernel_rfl
def K33:K:=(kSeq (kRegion K33r0 [4]) (kSeq (kSeq (kRegion K33r1 [6]) (kCond (.tmp 6) (kSeq (kRegion K33r2 [4]) kRet) kSkip)) (kSeq (kRegion K33r3 [4]) kRet)))
theorem enter33 (cl:CallF) (a0 a1:AV) (s:St):enterA Try.prog X cl 33 [a0,a1] s Try.f33=finA Try.prog Try.f33 (K33 cl ⟨33,none,Try.f33.ntmps,X 33⟩ (paramsEnv 0 [a0,a1] .nil) [] s) :=
  enterA_eq (b:=Try.f33.body.getD .skip) (by kernel_rfl) (by kernel_rfl) (by kernel_rfl) (by kernel_rfl) (by kernel_rfl)
def K31r0:OpsF:=(oVal (.tmp 6) (kMove (.con (.int .i64 0))) oNil)
def K31r1:OpsF:=(oVal (.tmp 7) (kMove (.tmp 1)) (oVal (.tmp 8) (kMove (.tmp 0)) (oVal (.tmp 9) (kMove (.tmp 2)) (oVal (.tmp 10) (kMove (.tmp 1)) (oVal (.tmp 11) (kInt aSub (.tmp 9) (.tmp 10)) (oVal (.tmp 12) (kInt aAdd (.tmp 11) (.con (.int .i64 1))) (oCall (.tmp 13) (.con (.func 33 [] [])) [(.tmp 8),(.tmp 12)] (oVal (.tmp 14) (kInt aAdd (.tmp 7) (.tmp 13)) (oVal (.tmp 6) (kMove (.tmp 14)) oNil)))))))))
theorem res31:Try.f31.results.toList=[.tmp 6]:=by kernel_rfl
def K31:K:=(kSeq (kRegion K31r0 [6]) (kSeq (kRegion K31r1 [6]) kRet))
theorem enter31 (cl:CallF) (a0 a1 a2:AV) (s:St):enterA Try.prog X cl 31 [a0,a1,a2] s Try.f31=finA Try.prog Try.f31 (K31 cl ⟨31,none,Try.f31.ntmps,X 31⟩ (paramsEnv 0 [a0,a1,a2] .nil) [] s) :=
  enterA_eq (b:=Try.f31.body.getD .skip) (by kernel_rfl) (by kernel_rfl) (by kernel_rfl) (by kernel_rfl) (by kernel_rfl)
def K32r0:OpsF:=(oVal (.tmp 4) (kMove (.con (.int .i64 0))) oNil)
def K32r1:OpsF:=(oVal (.tmp 5) (kMove (.tmp 1)) (oVal (.tmp 6) (kUn lenSlA (.tmp 5)) (oVal (.tmp 7) (kInt aEql (.tmp 6) (.con (.int .i64 0))) oNil)))
def K32r2:OpsF:=(oVal (.tmp 4) (kMove (.con (.int .i64 0))) oNil)
def K32r3:OpsF:=(oVal (.tmp 8) (kMove (.tmp 1)) (oVal (.tmp 9) (kMove (.tmp 0)) (oVal (.tmp 10) (kMove (.tmp 1)) (oVal (.tmp 11) (kUn lenSlA (.tmp 10)) (oCall (.tmp 12) (.con (.func 33 [] [])) [(.tmp 9),(.tmp 11)] (oVal (.tmp 13) (kTwo (ixsA 1) (.tmp 8) (.tmp 12)) (oVal (.tmp 14) (kLoad none (.tmp 13)) (oVal (.tmp 4) (kMove (.tmp 14)) oNil))))))))
theorem res32:Try.f32.results.toList=[.tmp 4]:=by kernel_rfl
def K32:K:=(kSeq (kRegion K32r0 [4]) (kSeq (kSeq (kRegion K32r1 [7]) (kCond (.tmp 7) (kSeq (kRegion K32r2 [4]) kRet) kSkip)) (kSeq (kRegion K32r3 [4]) kRet)))
theorem enter32 (cl:CallF) (a0 a1:AV) (s:St):enterA Try.prog X cl 32 [a0,a1] s Try.f32=finA Try.prog Try.f32 (K32 cl ⟨32,none,Try.f32.ntmps,X 32⟩ (paramsEnv 0 [a0,a1] .nil) [] s) :=
  enterA_eq (b:=Try.f32.body.getD .skip) (by kernel_rfl) (by kernel_rfl) (by kernel_rfl) (by kernel_rfl) (by kernel_rfl)
def K34r0:OpsF:=(oVal (.tmp 6) (kAlloc [(.int .i64 0),(.int .i64 0)] (tag 38)) oNil)
def K34r1:OpsF:=(oVal (.tmp 9) (kMove (.tmp 0)) (oVal (.tmp 10) (kMove (.tmp 1)) (oVal (.tmp 11) (kMove (.tmp 2)) (oCall (.tmp 12) (.con (.func 31 [] [])) [(.tmp 9),(.tmp 10),(.tmp 11)] (oVal (.tmp 7) (kMove (.tmp 12)) oNil)))))
def K34r2:OpsF:=(oVal (.tmp 13) (kMove (.tmp 0)) (oVal (.tmp 14) (kMove (.tmp 7)) (oVal (.tmp 15) (kMove (.tmp 2)) (oVal (.tmp 16) (kMove (.tmp 7)) (oVal (.tmp 17) (kInt aAdd (.tmp 16) (.con (.int .i64 4))) (oVal (.tmp 18) (kFold minA (.tmp 15) [(.tmp 17)]) (oVal (.tmp 19) (kMove (.tmp 2)) (oVal (.tmp 20) (kBuildSlice [(.int .i64 0),(.int .i64 0),(.int .i64 0)] 3 [(0,1,(.tmp 14)),(1,1,(.tmp 18)),(2,1,(.tmp 19))]) (oCall (.tmp 21) (.con (.func 32 [] [])) [(.tmp 13),(.tmp 20)] (oVal (.tmp 8) (kMove (.tmp 21)) oNil))))))))))
def K34r3:OpsF:=(oVal (.tmp 22) (kMove (.tmp 7)) (oVal (.tmp 23) (kMove (.tmp 0)) (oVal (.tmp 24) (kMove (.tmp 7)) (oVal (.tmp 25) (kMove (.tmp 8)) (oCall (.tmp 26) (.con (.func 31 [] [])) [(.tmp 23),(.tmp 24),(.tmp 25)] (oVal (.tmp 27) (kBuild [(.int .i64 0),(.int .i64 0)] [(0,1,(.tmp 22)),(1,1,(.tmp 26))]) (oVal .none (kStore 2 (.tmp 6) (.tmp 27)) oNil)))))))
theorem res34:Try.f34.results.toList=[.cell 6 38]:=by kernel_rfl
def K34:K:=(kSeq (kRegion K34r0 [6]) (kSeq (kRegion K34r1 [7]) (kSeq (kRegion K34r2 [8]) (kSeq (kRegion K34r3 []) kRet))))
theorem enter34 (cl:CallF) (a0 a1 a2:AV) (s:St):enterA Try.prog X cl 34 [a0,a1,a2] s Try.f34=finA Try.prog Try.f34 (K34 cl ⟨34,none,Try.f34.ntmps,X 34⟩ (paramsEnv 0 [a0,a1,a2] .nil) [] s) :=
  enterA_eq (b:=Try.f34.body.getD .skip) (by kernel_rfl) (by kernel_rfl) (by kernel_rfl) (by kernel_rfl) (by kernel_rfl)
end
end Go.Proofs.Ytamlnddeiokbdaa.code
set_option maxRecDepth 100000
namespace Go.Proofs.Ytamlnddeiokbdaa.code
open Go.Abs
noncomputable section
def K10r0:OpsF:=(oVal (.tmp 8) (kAlloc [(.int .i64 0),(.int .i64 0),.nilslice] (tag 27)) oNil)
def K10r1:OpsF:=(oVal (.tmp 13) (kMove (.tmp 0)) (oVal (.tmp 14) (kMove (.tmp 1)) (oCall (.tmp 15) (.con (.func 31 [] [])) [(.tmp 13),(.con (.int .i64 1)),(.tmp 14)] (oVal (.tmp 16) (kMove (.tmp 0)) (oVal (.tmp 17) (kMove (.tmp 2)) (oCall (.tmp 18) (.con (.func 31 [] [])) [(.tmp 16),(.con (.int .i64 1)),(.tmp 17)] (oVal (.tmp 19) (kBuild [(.int .i64 0),(.int .i64 0),.nilslice] [(0,1,(.tmp 15)),(1,1,(.tmp 18))]) (oVal (.tmp 9) (kAlloc [(.int .i64 0),(.int .i64 0),.nilslice] (tag 27)) (oVal .none (kStore 3 (.tmp 9) (.tmp 19)) oNil)))))))))
def K10r2:OpsF:=(oVal (.tmp 20) (kMove (.tmp 0)) (oVal (.tmp 21) (kBuildSlice [(.int .i64 0),(.int .i64 0),(.int .i64 0)] 3 [(0,1,(.con (.int .i64 6))),(1,1,(.con (.int .i64 100))),(2,1,(.con (.int .i64 5000)))]) (oCall (.tmp 22) (.con (.func 32 [] [])) [(.tmp 20),(.tmp 21)] (oVal (.tmp 23) (kMove (.tmp 0)) (oVal (.tmp 24) (kBuildSlice [(.int .i64 0),(.int .i64 0),(.int .i64 0)] 3 [(0,1,(.con (.int .i64 6))),(1,1,(.con (.int .i64 30))),(2,1,(.con (.int .i64 2000)))]) (oCall (.tmp 25) (.con (.func 32 [] [])) [(.tmp 23),(.tmp 24)] (oVal (.tmp 10) (kMove (.tmp 22)) (oVal (.tmp 11) (kMove (.tmp 25)) oNil))))))))
def K10r3:OpsF:=(oVal (.tmp 26) (kMove (.tmp 0)) (oVal (.tmp 27) (kMove (.tmp 3)) (oVal (.tmp 28) (kInt aAdd (.tmp 27) (.con (.int .i64 1))) (oCall (.tmp 29) (.con (.func 33 [] [])) [(.tmp 26),(.tmp 28)] (oVal (.tmp 12) (kMove (.tmp 29)) oNil)))))
def K10r4:OpsF:=(oVal (.tmp 30) (kMove (.tmp 12)) (oVal (.tmp 31) (kGtr (.tmp 30) (.con (.int .i64 0))) oNil))
def K10r5:OpsF:=(oEnd [] (oVal (.tmp 34) (kUn (fadA 2) (.tmp 9)) (oVal (.tmp 35) (kLoad none (.tmp 34)) (oVal (.tmp 36) (kMove (.tmp 0)) (oVal (.tmp 37) (kUn (fadA 0) (.tmp 9)) (oVal (.tmp 38) (kLoad none (.tmp 37)) (oCallT (some [34,41]) (.tmp 39) (.con (.func 33 [] [])) [(.tmp 36),(.tmp 38)] (oVal (.tmp 40) (kMove (.tmp 0)) (oVal (.tmp 41) (kUn (fadA 1) (.tmp 9)) (oVal (.tmp 42) (kLoad none (.tmp 41)) (oCallT (some [34]) (.tmp 43) (.con (.func 33 [] [])) [(.tmp 40),(.tmp 42)] (oVal (.tmp 44) (kMove (.tmp 0)) (oVal (.tmp 45) (kMove (.tmp 10)) (oCallT (some [34]) (.tmp 46) (.con (.func 34 [] [])) [(.tmp 44),(.con (.int .i64 0)),(.tmp 45)] (oVal (.tmp 47) (kMove (.tmp 0)) (oVal (.tmp 48) (kMove (.tmp 11)) (oCallT (some [34]) (.tmp 49) (.con (.func 34 [] [])) [(.tmp 47),(.con (.int .i64 0)),(.tmp 48)] (oVal (.tmp 50) (kBuild [(.int .i64 0),(.int .i64 0),(.int .i64 0),(.int .i64 0),(.int .i64 0),(.int .i64 0)] [(0,1,(.tmp 39)),(1,1,(.tmp 43)),(2,2,(.tmp 46)),(4,2,(.tmp 49))]) (oVal (.tmp 51) (kBuildSlice [(.int .i64 0),(.int .i64 0),(.int .i64 0),(.int .i64 0),(.int .i64 0),(.int .i64 0)] 1 [(0,6,(.tmp 50))]) (oVal (.tmp 52) (kTwo (appendA false 6 48 (tag 51)) (.tmp 35) (.tmp 51)) (oVal (.tmp 53) (kUn (fadA 2) (.tmp 9)) (oVal .none (kStore 1 (.tmp 53) (.tmp 52)) oNil))))))))))))))))))))))
def K10r6:OpsF:=(oVal (.tmp 32) (kMove (.tmp 12)) (oVal (.tmp 33) (kInt aSub (.tmp 32) (.con (.int .i64 1))) (oVal (.tmp 12) (kMove (.tmp 33)) oNil)))
def K10l0:K:=(kSeq (kSeq (kRegion K10r4 [31]) (kCond (.tmp 31) kSkip (kExit 0))) (kSeq (kBlock 1 (kRegionD K10r5 [])) (kRegion K10r6 [12])))
def K10r7:OpsF:=(oVal (.tmp 54) (kLoad (some 3) (.tmp 9)) (oVal .none (kStore 3 (.tmp 8) (.tmp 54)) oNil))
theorem res10:Try.f10.results.toList=[.cell 8 27]:=by kernel_rfl
def K10:K:=(kSeq (kRegion K10r0 [8]) (kSeq (kRegion K10r1 [9]) (kSeq (kRegion K10r2 [10,11]) (kSeq (kSeq (kRegion K10r3 [12]) (kBlock 0 (kLoop K10l0))) (kSeq (kRegion K10r7 []) kRet)))))
theorem enter10 (cl:CallF) (a0 a1 a2 a3:AV) (s:St):enterA Try.prog X cl 10 [a0,a1,a2,a3] s Try.f10=finA Try.prog Try.f10 (K10 cl ⟨10,none,Try.f10.ntmps,X 10⟩ (paramsEnv 0 [a0,a1,a2,a3] .nil) [] s) :=
  enterA_eq (b:=Try.f10.body.getD .skip) (by kernel_rfl) (by kernel_rfl) (by kernel_rfl) (by kernel_rfl) (by kernel_rfl)
def K29r0:OpsF:=(oVal (.tmp 1) (kBox (tag 27) (.tmp 0)) (oVal (.tmp 2) (kAlloc [(.int .i64 0),(.int .i64 0),.nilslice] (tag 27)) oNil))
def K29r1:OpsF:=(oVal (.tmp 3) (kBuildSlice [] 0 []) (oVal (.tmp 4) (kUn (fadA 2) (.tmp 1)) (oVal (.tmp 5) (kLoad none (.tmp 4)) (oVal (.tmp 6) (kTwo (appendA false 6 48 (tag 51)) (.tmp 3) (.tmp 5)) (oVal (.tmp 7) (kUn (fadA 2) (.tmp 1)) (oVal .none (kStore 1 (.tmp 7) (.tmp 6)) oNil))))))
def K29r2:OpsF:=(oVal (.tmp 8) (kLoad (some 3) (.tmp 1)) (oVal .none (kStore 3 (.tmp 2) (.tmp 8)) oNil))
theorem res29:Try.f29.results.toList=[.cell 2 27]:=by kernel_rfl
def K29:K:=(kSeq (kRegion K29r0 [1,2]) (kSeq (kRegion K29r1 []) (kSeq (kRegion K29r2 []) kRet)))
theorem enter29 (cl:CallF) (a0:AV) (s:St):enterA Try.prog X cl 29 [a0] s Try.f29=finA Try.prog Try.f29 (K29 cl ⟨29,none,Try.f29.ntmps,X 29⟩ (paramsEnv 0 [a0] .nil) [] s) :=
  enterA_eq (b:=Try.f29.body.getD .skip) (by kernel_rfl) (by kernel_rfl) (by kernel_rfl) (by kernel_rfl) (by kernel_rfl)
def K11r0:OpsF:=(oVal (.tmp 4) (kMove (.con .nilslice)) oNil)
def K11r1:OpsF:=(oVal (.tmp 5) (kMove (.con .nilslice)) oNil)
def K11r2:OpsF:=(oVal (.tmp 6) (kMove (.con (.int .i64 0))) oNil)
def K11r3:OpsF:=(oVal (.tmp 8) (kMove (.tmp 0)) (oVal (.tmp 9) (kMove (.tmp 1)) (oCall (.tmp 10) (.con (.func 31 [] [])) [(.tmp 8),(.con (.int .i64 1)),(.tmp 9)] (oVal (.tmp 7) (kMove (.tmp 10)) oNil))))
def K11r4:OpsF:=(oVal (.tmp 11) (kMove (.tmp 7)) (oVal (.tmp 12) (kGtr (.tmp 11) (.con (.int .i64 0))) oNil))
def K11r5:OpsF:=(oVal (.tmp 15) (kMove (.tmp 5)) (oVal (.tmp 16) (kMove (.tmp 6)) (oVal (.tmp 17) (kMove (.tmp 0)) (oCall (.tmp 18) (.con (.func 33 [] [])) [(.tmp 17),(.con (.int .i64 1001))] (oVal (.tmp 19) (kBuild [(.int .i64 0),(.int .i64 0)] [(0,1,(.tmp 16)),(1,1,(.tmp 18))]) (oVal (.tmp 20) (kBuildSlice [(.int .i64 0),(.int .i64 0)] 1 [(0,2,(.tmp 19))]) (oVal (.tmp 21) (kTwo (appendA false 2 16 (tag 75)) (.tmp 15) (.tmp 20)) (oVal (.tmp 5) (kMove (.tmp 21)) oNil))))))))
def K11r6:OpsF:=(oVal (.tmp 22) (kMove (.tmp 6)) (oVal (.tmp 23) (kMove (.tmp 0)) (oVal (.tmp 24) (kMove (.tmp 0)) (oVal (.tmp 25) (kBuildSlice [(.int .i64 0),(.int .i64 0),(.int .i64 0)] 3 [(0,1,(.con (.int .i64 5))),(1,1,(.con (.int .i64 100))),(2,1,(.con (.int .i64 5000)))]) (oCall (.tmp 26) (.con (.func 32 [] [])) [(.tmp 24),(.tmp 25)] (oCall (.tmp 27) (.con (.func 31 [] [])) [(.tmp 23),(.con (.int .i64 1)),(.tmp 26)] (oVal (.tmp 28) (kInt aAdd (.tmp 22) (.tmp 27)) (oVal (.tmp 6) (kMove (.tmp 28)) oNil))))))))
def K11r7:OpsF:=(oVal (.tmp 13) (kMove (.tmp 7)) (oVal (.tmp 14) (kInt aSub (.tmp 13) (.con (.int .i64 1))) (oVal (.tmp 7) (kMove (.tmp 14)) oNil)))
def K11l0:K:=(kSeq (kSeq (kRegion K11r4 [12]) (kCond (.tmp 12) kSkip (kExit 0))) (kSeq (kBlock 1 (kSeq (kRegion K11r5 [5]) (kRegion K11r6 [6]))) (kRegion K11r7 [7])))
def K11r8:OpsF:=(oVal (.tmp 29) (kMove (.tmp 5)) (oVal (.tmp 4) (kMove (.tmp 29)) oNil))
theorem res11:Try.f11.results.toList=[.tmp 4]:=by kernel_rfl
def K11:K:=(kSeq (kRegion K11r0 [4]) (kSeq (kRegion K11r1 [5]) (kSeq (kRegion K11r2 [6]) (kSeq (kSeq (kRegion K11r3 [7]) (kBlock 0 (kLoop K11l0))) (kSeq (kRegion K11r8 [4]) kRet)))))
theorem enter11 (cl:CallF) (a0 a1:AV) (s:St):enterA Try.prog X cl 11 [a0,a1] s Try.f11=finA Try.prog Try.f11 (K11 cl ⟨11,none,Try.f11.ntmps,X 11⟩ (paramsEnv 0 [a0,a1] .nil) [] s) :=
  enterA_eq (b:=Try.f11.body.getD .skip) (by kernel_rfl) (by kernel_rfl) (by kernel_rfl) (by kernel_rfl) (by kernel_rfl)
end
end Go.Proofs.Ytamlnddeiokbdaa.code
set_option maxRecDepth 100000
namespace Go.Proofs.Ytamlnddeiokbdaa.code
open Go.Abs
noncomputable section
def K7r2:OpsF:=(oVal (.tmp 21) (kMove (.tmp 3)) (oCall (.tmp 22) (.con (.func 10 [] [])) [(.tmp 21),(.con (.int .i64 3)),(.con (.int .i64 3)),(.con (.int .i64 8))] (oVal (.tmp 23) (kMove (.tmp 3)) (oCall (.tmp 24) (.con (.func 10 [] [])) [(.tmp 23),(.con (.int .i64 3)),(.con (.int .i64 3)),(.con (.int .i64 8))] (oVal (.tmp 4) (kAlloc [(.int .i64 0),(.int .i64 0),.nilslice] (tag 27)) (oVal (.tmp 5) (kAlloc [(.int .i64 0),(.int .i64 0),.nilslice] (tag 27)) (oVal .none (kStore 3 (.tmp 4) (.tmp 22)) (oVal .none (kStore 3 (.tmp 5) (.tmp 24)) oNil))))))))
def K7r3:OpsF:=(oVal (.tmp 25) (kUn (fadA 0) (.tmp 4)) (oVal .none (kStore 1 (.tmp 25) (.con (.int .i64 3))) (oVal (.tmp 26) (kUn (fadA 1) (.tmp 4)) (oVal .none (kStore 1 (.tmp 26) (.con (.int .i64 3))) (oVal (.tmp 27) (kUn (fadA 0) (.tmp 5)) (oVal .none (kStore 1 (.tmp 27) (.con (.int .i64 3))) (oVal (.tmp 28) (kUn (fadA 1) (.tmp 5)) (oVal .none (kStore 1 (.tmp 28) (.con (.int .i64 3))) oNil))))))))
def K7r4:OpsF:=(oVal (.tmp 29) (kLoad (some 3) (.tmp 4)) (oCall (.tmp 30) (.con (.func 29 [] [])) [(.tmp 29)] (oVal (.tmp 6) (kAlloc [(.int .i64 0),(.int .i64 0),.nilslice] (tag 27)) (oVal .none (kStore 3 (.tmp 6) (.tmp 30)) oNil))))
def K7r5:OpsF:=(oVal (.tmp 31) (kUn (fadA 2) (.tmp 6)) (oVal (.tmp 32) (kLoad none (.tmp 31)) (oVal (.tmp 33) (kUn (fadA 2) (.tmp 5)) (oVal (.tmp 34) (kLoad none (.tmp 33)) (oVal (.tmp 35) (kTwo (appendA false 6 48 (tag 51)) (.tmp 32) (.tmp 34)) (oVal (.tmp 36) (kUn (fadA 2) (.tmp 6)) (oVal .none (kStore 1 (.tmp 36) (.tmp 35)) oNil)))))))
def K7r6:OpsF:=(oVal (.tmp 37) (kMove (.tmp 3)) (oCall (.tmp 38) (.con (.func 11 [] [])) [(.tmp 37),(.con (.int .i64 4))] (oVal (.tmp 7) (kMove (.tmp 38)) oNil)))
def K7r7:OpsF:=(oVal (.tmp 40) (kLoad (some 3) (.tmp 4)) (oVal (.tmp 41) (kMove (.tmp 7)) (oCall (.tmp 42) (.con (.func 12 [] [])) [(.tmp 40),(.tmp 41)] (oVal (.tmp 39) (kMove (.tmp 42)) (oVal (.tmp 43) (kUn (extA 0) (.tmp 39)) (oVal (.tmp 44) (kUn (extA 1) (.tmp 39)) (oVal (.tmp 8) (kMove (.tmp 43)) (oVal (.tmp 9) (kMove (.tmp 44)) oNil))))))))
def K7r8:OpsF:=(oVal (.tmp 46) (kLoad (some 3) (.tmp 6)) (oVal (.tmp 47) (kMove (.tmp 7)) (oCall (.tmp 48) (.con (.func 12 [] [])) [(.tmp 46),(.tmp 47)] (oVal (.tmp 45) (kMove (.tmp 48)) (oVal (.tmp 49) (kUn (extA 0) (.tmp 45)) (oVal (.tmp 50) (kUn (extA 1) (.tmp 45)) (oVal (.tmp 10) (kMove (.tmp 49)) (oVal (.tmp 11) (kMove (.tmp 50)) oNil))))))))
def K7r9s15:OpsF:=(oVal (.tmp 66) (kPick (.tmp 62) (.con (.bool true)) (.tmp 65)) oNil)
def K7r9s14:OpsF:=(oIf 62 false (oVal (.tmp 65) (kInt aNeq (.tmp 64) (.con (.int .i64 3))) K7r9s15) (oSkip (.tmp 65) K7r9s15))
def K7r9s13:OpsF:=(oIf 62 false (oVal (.tmp 64) (kUn lenSlA (.tmp 63)) K7r9s14) (oSkip (.tmp 64) K7r9s14))
def K7r9s10:OpsF:=(oVal (.tmp 61) (kPick (.tmp 57) (.con (.bool true)) (.tmp 60)) (oVal (.tmp 62) (kMove (.tmp 61)) (oIf 62 false (oVal (.tmp 63) (kMove (.tmp 10)) K7r9s13) (oSkip (.tmp 63) K7r9s13))))
def K7r9s9:OpsF:=(oIf 57 false (oVal (.tmp 60) (kInt aNeq (.tmp 59) (.con (.int .i64 3))) K7r9s10) (oSkip (.tmp 60) K7r9s10))
def K7r9s8:OpsF:=(oIf 57 false (oVal (.tmp 59) (kUn lenSlA (.tmp 58)) K7r9s9) (oSkip (.tmp 59) K7r9s9))
def K7r9s5:OpsF:=(oVal (.tmp 56) (kPick (.tmp 53) (.con (.bool true)) (.tmp 55)) (oVal (.tmp 57) (kMove (.tmp 56)) (oIf 57 false (oVal (.tmp 58) (kMove (.tmp 8)) K7r9s8) (oSkip (.tmp 58) K7r9s8))))
def K7r9s4:OpsF:=(oIf 53 false (oVal (.tmp 55) (kInt aNeq (.tmp 54) (.con (.int .i64 0))) K7r9s5) (oSkip (.tmp 55) K7r9s5))
def K7r9:OpsF:=(oVal (.tmp 51) (kMove (.tmp 9)) (oVal (.tmp 52) (kInt aNeq (.tmp 51) (.con (.int .i64 0))) (oVal (.tmp 53) (kMove (.tmp 52)) (oIf 53 false (oVal (.tmp 54) (kMove (.tmp 11)) K7r9s4) (oSkip (.tmp 54) K7r9s4)))))
def K7r10:OpsF:=(oVal (.tmp 2) (kMove (.con (.bool false))) oNil)
def K7r11:OpsF:=(oVal (.tmp 12) (kMove (.con (.int .i64 0))) oNil)
def K7r12:OpsF:=(oVal (.tmp 67) (kMove (.tmp 12)) (oVal (.tmp 68) (kInt aLss (.tmp 67) (.con (.int .i64 3))) oNil))
def K7r13:OpsF:=(oVal (.tmp 72) (kLoad (some 3) (.tmp 4)) (oVal (.tmp 73) (kMove (.tmp 12)) (oCall (.tmp 74) (.con (.func 17 [] [])) [(.tmp 72),(.tmp 73)] (oVal (.tmp 71) (kMove (.tmp 74)) (oVal (.tmp 75) (kUn (extA 0) (.tmp 71)) (oVal (.tmp 76) (kUn (extA 1) (.tmp 71)) (oVal (.tmp 13) (kAlloc [(.int .i64 0),(.int .i64 0)] (tag 38)) (oVal .none (kStore 2 (.tmp 13) (.tmp 75)) (oVal (.tmp 14) (kMove (.tmp 76)) oNil)))))))))
def K7r14:OpsF:=(oVal (.tmp 78) (kLoad (some 3) (.tmp 5)) (oVal (.tmp 79) (kMove (.tmp 12)) (oCall (.tmp 80) (.con (.func 17 [] [])) [(.tmp 78),(.tmp 79)] (oVal (.tmp 77) (kMove (.tmp 80)) (oVal (.tmp 81) (kUn (extA 0) (.tmp 77)) (oVal (.tmp 82) (kUn (extA 1) (.tmp 77)) (oVal (.tmp 15) (kAlloc [(.int .i64 0),(.int .i64 0)] (tag 38)) (oVal .none (kStore 2 (.tmp 15) (.tmp 81)) (oVal (.tmp 16) (kMove (.tmp 82)) oNil)))))))))
def K7r15:OpsF:=(oVal (.tmp 84) (kLoad (some 3) (.tmp 6)) (oVal (.tmp 85) (kMove (.tmp 12)) (oCall (.tmp 86) (.con (.func 17 [] [])) [(.tmp 84),(.tmp 85)] (oVal (.tmp 83) (kMove (.tmp 86)) (oVal (.tmp 87) (kUn (extA 0) (.tmp 83)) (oVal (.tmp 88) (kUn (extA 1) (.tmp 83)) (oVal (.tmp 17) (kAlloc [(.int .i64 0),(.int .i64 0)] (tag 38)) (oVal .none (kStore 2 (.tmp 17) (.tmp 87)) (oVal (.tmp 18) (kMove (.tmp 88)) oNil)))))))))
def K7r16s29:OpsF:=(oVal (.tmp 118) (kPick (.tmp 109) (.con (.bool true)) (.tmp 117)) oNil)
def K7r16s28:OpsF:=(oIf 109 false (oVal (.tmp 117) (kInt aNeq (.tmp 111) (.tmp 116)) K7r16s29) (oSkip (.tmp 117) K7r16s29))
def K7r16s27:OpsF:=(oIf 109 false (oVal (.tmp 116) (kInt aAdd (.tmp 113) (.tmp 115)) K7r16s28) (oSkip (.tmp 116) K7r16s28))
def K7r16s26:OpsF:=(oIf 109 false (oVal (.tmp 115) (kLoad none (.tmp 114)) K7r16s27) (oSkip (.tmp 115) K7r16s27))
def K7r16s25:OpsF:=(oIf 109 false (oVal (.tmp 114) (kUn (fadA 1) (.tmp 15)) K7r16s26) (oSkip (.tmp 114) K7r16s26))
def K7r16s24:OpsF:=(oIf 109 false (oVal (.tmp 113) (kLoad none (.tmp 112)) K7r16s25) (oSkip (.tmp 113) K7r16s25))
def K7r16s23:OpsF:=(oIf 109 false (oVal (.tmp 112) (kUn (fadA 1) (.tmp 13)) K7r16s24) (oSkip (.tmp 112) K7r16s24))
def K7r16s22:OpsF:=(oIf 109 false (oVal (.tmp 111) (kLoad none (.tmp 110)) K7r16s23) (oSkip (.tmp 111) K7r16s23))
def K7r16s19:OpsF:=(oVal (.tmp 108) (kPick (.tmp 99) (.con (.bool true)) (.tmp 107)) (oVal (.tmp 109) (kMove (.tmp 108)) (oIf 109 false (oVal (.tmp 110) (kUn (fadA 1) (.tmp 17)) K7r16s22) (oSkip (.tmp 110) K7r16s22))))
def K7r16s18:OpsF:=(oIf 99 false (oVal (.tmp 107) (kInt aNeq (.tmp 101) (.tmp 106)) K7r16s19) (oSkip (.tmp 107) K7r16s19))
def K7r16s17:OpsF:=(oIf 99 false (oVal (.tmp 106) (kInt aAdd (.tmp 103) (.tmp 105)) K7r16s18) (oSkip (.tmp 106) K7r16s18))
def K7r16s16:OpsF:=(oIf 99 false (oVal (.tmp 105) (kLoad none (.tmp 104)) K7r16s17) (oSkip (.tmp 105) K7r16s17))
def K7r16s15:OpsF:=(oIf 99 false (oVal (.tmp 104) (kUn (fadA 0) (.tmp 15)) K7r16s16) (oSkip (.tmp 104) K7r16s16))
def K7r16s14:OpsF:=(oIf 99 false (oVal (.tmp 103) (kLoad none (.tmp 102)) K7r16s15) (oSkip (.tmp 103) K7r16s15))
def K7r16s13:OpsF:=(oIf 99 false (oVal (.tmp 102) (kUn (fadA 0) (.tmp 13)) K7r16s14) (oSkip (.tmp 102) K7r16s14))
def K7r16s12:OpsF:=(oIf 99 false (oVal (.tmp 101) (kLoad none (.tmp 100)) K7r16s13) (oSkip (.tmp 101) K7r16s13))
def K7r16s9:OpsF:=(oVal (.tmp 98) (kPick (.tmp 95) (.con (.bool true)) (.tmp 97)) (oVal (.tmp 99) (kMove (.tmp 98)) (oIf 99 false (oVal (.tmp 100) (kUn (fadA 0) (.tmp 17)) K7r16s12) (oSkip (.tmp 100) K7r16s12))))
def K7r16s8:OpsF:=(oIf 95 false (oVal (.tmp 97) (kInt aNeq (.tmp 96) (.con (.int .i64 0))) K7r16s9) (oSkip (.tmp 97) K7r16s9))
def K7r16s5:OpsF:=(oVal (.tmp 94) (kPick (.tmp 91) (.con (.bool true)) (.tmp 93)) (oVal (.tmp 95) (kMove (.tmp 94)) (oIf 95 false (oVal (.tmp 96) (kMove (.tmp 18)) K7r16s8) (oSkip (.tmp 96) K7r16s8))))
def K7r16s4:OpsF:=(oIf 91 false (oVal (.tmp 93) (kInt aNeq (.tmp 92) (.con (.int .i64 0))) K7r16s5) (oSkip (.tmp 93) K7r16s5))
def K7r16:OpsF:=(oVal (.tmp 89) (kMove (.tmp 14)) (oVal (.tmp 90) (kInt aNeq (.tmp 89) (.con (.int .i64 0))) (oVal (.tmp 91) (kMove (.tmp 90)) (oIf 91 false (oVal (.tmp 92) (kMove (.tmp 16)) K7r16s4) (oSkip (.tmp 92) K7r16s4)))))
def K7r17:OpsF:=(oVal (.tmp 2) (kMove (.con (.bool false))) oNil)
def K7r18s55:OpsF:=(oVal (.tmp 174) (kPick (.tmp 159) (.con (.bool true)) (.tmp 173)) oNil)
def K7r18s54:OpsF:=(oIf 159 false (oVal (.tmp 173) (kGtr (.tmp 170) (.tmp 172)) K7r18s55) (oSkip (.tmp 173) K7r18s55))
def K7r18s53:OpsF:=(oIf 159 false (oVal (.tmp 172) (kLoad none (.tmp 171)) K7r18s54) (oSkip (.tmp 172) K7r18s54))
def K7r18s52:OpsF:=(oIf 159 false (oVal (.tmp 171) (kUn (fadA 1) (.tmp 15)) K7r18s53) (oSkip (.tmp 171) K7r18s53))
def K7r18s51:OpsF:=(oIf 159 false (oVal (.tmp 170) (kInt aSub (.tmp 164) (.tmp 169)) K7r18s52) (oSkip (.tmp 170) K7r18s52))
def K7r18s50:OpsF:=(oIf 159 false (oVal (.tmp 169) (kLoad none (.tmp 168)) K7r18s51) (oSkip (.tmp 169) K7r18s51))
def K7r18s49:OpsF:=(oIf 159 false (oVal (.tmp 168) (kUn (fadA 1) (.tmp 167)) K7r18s50) (oSkip (.tmp 168) K7r18s50))
def K7r18s48:OpsF:=(oIf 159 false (oVal (.tmp 167) (kTwo (ixsA 2) (.tmp 165) (.tmp 166)) K7r18s49) (oSkip (.tmp 167) K7r18s49))
def K7r18s47:OpsF:=(oIf 159 false (oVal (.tmp 166) (kMove (.tmp 12)) K7r18s48) (oSkip (.tmp 166) K7r18s48))
def K7r18s46:OpsF:=(oIf 159 false (oVal (.tmp 165) (kMove (.tmp 8)) K7r18s47) (oSkip (.tmp 165) K7r18s47))
def K7r18s45:OpsF:=(oIf 159 false (oVal (.tmp 164) (kLoad none (.tmp 163)) K7r18s46) (oSkip (.tmp 164) K7r18s46))
def K7r18s44:OpsF:=(oIf 159 false (oVal (.tmp 163) (kUn (fadA 1) (.tmp 162)) K7r18s45) (oSkip (.tmp 163) K7r18s45))
def K7r18s43:OpsF:=(oIf 159 false (oVal (.tmp 162) (kTwo (ixsA 2) (.tmp 160) (.tmp 161)) K7r18s44) (oSkip (.tmp 162) K7r18s44))
def K7r18s42:OpsF:=(oIf 159 false (oVal (.tmp 161) (kMove (.tmp 12)) K7r18s43) (oSkip (.tmp 161) K7r18s43))
def K7r18s39:OpsF:=(oVal (.tmp 158) (kPick (.tmp 143) (.con (.bool true)) (.tmp 157)) (oVal (.tmp 159) (kMove (.tmp 158)) (oIf 159 false (oVal (.tmp 160) (kMove (.tmp 10)) K7r18s42) (oSkip (.tmp 160) K7r18s42))))
def K7r18s38:OpsF:=(oIf 143 false (oVal (.tmp 157) (kGtr (.tmp 154) (.tmp 156)) K7r18s39) (oSkip (.tmp 157) K7r18s39))
def K7r18s37:OpsF:=(oIf 143 false (oVal (.tmp 156) (kLoad none (.tmp 155)) K7r18s38) (oSkip (.tmp 156) K7r18s38))
def K7r18s36:OpsF:=(oIf 143 false (oVal (.tmp 155) (kUn (fadA 0) (.tmp 15)) K7r18s37) (oSkip (.tmp 155) K7r18s37))
def K7r18s35:OpsF:=(oIf 143 false (oVal (.tmp 154) (kInt aSub (.tmp 148) (.tmp 153)) K7r18s36) (oSkip (.tmp 154) K7r18s36))
def K7r18s34:OpsF:=(oIf 143 false (oVal (.tmp 153) (kLoad none (.tmp 152)) K7r18s35) (oSkip (.tmp 153) K7r18s35))
def K7r18s33:OpsF:=(oIf 143 false (oVal (.tmp 152) (kUn (fadA 0) (.tmp 151)) K7r18s34) (oSkip (.tmp 152) K7r18s34))
def K7r18s32:OpsF:=(oIf 143 false (oVal (.tmp 151) (kTwo (ixsA 2) (.tmp 149) (.tmp 150)) K7r18s33) (oSkip (.tmp 151) K7r18s33))
def K7r18s31:OpsF:=(oIf 143 false (oVal (.tmp 150) (kMove (.tmp 12)) K7r18s32) (oSkip (.tmp 150) K7r18s32))
def K7r18s30:OpsF:=(oIf 143 false (oVal (.tmp 149) (kMove (.tmp 8)) K7r18s31) (oSkip (.tmp 149) K7r18s31))
def K7r18s29:OpsF:=(oIf 143 false (oVal (.tmp 148) (kLoad none (.tmp 147)) K7r18s30) (oSkip (.tmp 148) K7r18s30))
def K7r18s28:OpsF:=(oIf 143 false (oVal (.tmp 147) (kUn (fadA 0) (.tmp 146)) K7r18s29) (oSkip (.tmp 147) K7r18s29))
def K7r18s27:OpsF:=(oIf 143 false (oVal (.tmp 146) (kTwo (ixsA 2) (.tmp 144) (.tmp 145)) K7r18s28) (oSkip (.tmp 146) K7r18s28))
def K7r18s26:OpsF:=(oIf 143 false (oVal (.tmp 145) (kMove (.tmp 12)) K7r18s27) (oSkip (.tmp 145) K7r18s27))
def K7r18s23:OpsF:=(oVal (.tmp 142) (kPick (.tmp 130) (.con (.bool true)) (.tmp 141)) (oVal (.tmp 143) (kMove (.tmp 142)) (oIf 143 false (oVal (.tmp 144) (kMove (.tmp 10)) K7r18s26) (oSkip (.tmp 144) K7r18s26))))
def K7r18s22:OpsF:=(oIf 130 false (oVal (.tmp 141) (kInt aLss (.tmp 135) (.tmp 140)) K7r18s23) (oSkip (.tmp 141) K7r18s23))
def K7r18s21:OpsF:=(oIf 130 false (oVal (.tmp 140) (kLoad none (.tmp 139)) K7r18s22) (oSkip (.tmp 140) K7r18s22))
def K7r18s20:OpsF:=(oIf 130 false (oVal (.tmp 139) (kUn (fadA 1) (.tmp 138)) K7r18s21) (oSkip (.tmp 139) K7r18s21))
def K7r18s19:OpsF:=(oIf 130 false (oVal (.tmp 138) (kTwo (ixsA 2) (.tmp 136) (.tmp 137)) K7r18s20) (oSkip (.tmp 138) K7r18s20))
def K7r18s18:OpsF:=(oIf 130 false (oVal (.tmp 137) (kMove (.tmp 12)) K7r18s19) (oSkip (.tmp 137) K7r18s19))
def K7r18s17:OpsF:=(oIf 130 false (oVal (.tmp 136) (kMove (.tmp 8)) K7r18s18) (oSkip (.tmp 136) K7r18s18))
def K7r18s16:OpsF:=(oIf 130 false (oVal (.tmp 135) (kLoad none (.tmp 134)) K7r18s17) (oSkip (.tmp 135) K7r18s17))
def K7r18s15:OpsF:=(oIf 130 false (oVal (.tmp 134) (kUn (fadA 1) (.tmp 133)) K7r18s16) (oSkip (.tmp 134) K7r18s16))
def K7r18s14:OpsF:=(oIf 130 false (oVal (.tmp 133) (kTwo (ixsA 2) (.tmp 131) (.tmp 132)) K7r18s15) (oSkip (.tmp 133) K7r18s15))
def K7r18s13:OpsF:=(oIf 130 false (oVal (.tmp 132) (kMove (.tmp 12)) K7r18s14) (oSkip (.tmp 132) K7r18s14))
def K7r18:OpsF:=(oEnd [] (oVal (.tmp 119) (kMove (.tmp 10)) (oVal (.tmp 120) (kMove (.tmp 12)) (oVal (.tmp 121) (kTwo (ixsA 2) (.tmp 119) (.tmp 120)) (oVal (.tmp 122) (kUn (fadA 0) (.tmp 121)) (oVal (.tmp 123) (kLoad none (.tmp 122)) (oVal (.tmp 124) (kMove (.tmp 8)) (oVal (.tmp 125) (kMove (.tmp 12)) (oVal (.tmp 126) (kTwo (ixsA 2) (.tmp 124) (.tmp 125)) (oVal (.tmp 127) (kUn (fadA 0) (.tmp 126)) (oVal (.tmp 128) (kLoad none (.tmp 127)) (oVal (.tmp 129) (kInt aLss (.tmp 123) (.tmp 128)) (oVal (.tmp 130) (kMove (.tmp 129)) (oIf 130 false (oVal (.tmp 131) (kMove (.tmp 10)) K7r18s13) (oSkip (.tmp 131) K7r18s13)))))))))))))))
def K7r19:OpsF:=(oVal (.tmp 2) (kMove (.con (.bool false))) oNil)
def K7r20:OpsF:=(oVal (.tmp 69) (kMove (.tmp 12)) (oVal (.tmp 70) (kInt aAdd (.tmp 69) (.con (.int .i64 1))) (oVal (.tmp 12) (kMove (.tmp 70)) oNil)))
def K7l0:K:=(kSeq (kSeq (kRegion K7r12 [68]) (kCond (.tmp 68) kSkip (kExit 0))) (kSeq (kBlock 1 (kSeq (kRegion K7r13 [13,14]) (kSeq (kRegion K7r14 [15,16]) (kSeq (kRegion K7r15 [17,18]) (kSeq (kSeq (kRegion K7r16 [118]) (kCond (.tmp 118) (kSeq (kRegion K7r17 [2]) kRet) kSkip)) (kSeq (kRegionD K7r18 [174]) (kCond (.tmp 174) (kSeq (kRegion K7r19 [2]) kRet) kSkip))))))) (kRegion K7r20 [12])))
def K7r21:OpsF:=(oCall (.tmp 175) (.con (.func 20 [] [])) [] (oVal (.tmp 2) (kMove (.tmp 175)) oNil))
theorem res7:Try.f7.results.toList=[.tmp 2]:=by kernel_rfl
end
end Go.Proofs.Ytamlnddeiokbdaa.code
