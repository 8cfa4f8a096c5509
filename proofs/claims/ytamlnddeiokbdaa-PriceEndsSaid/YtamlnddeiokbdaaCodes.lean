/- The code of functions as the interpreter has it, region by region. -/
import Derived.Test.YtamlnddeiokbdaaAbsTab
import Derived.Test.YtamlnddeiokbdaaAbsWalk
import Derived.KernelRfl
set_option maxRecDepth 100000
namespace Go.Proofs.Ytamlnddeiokbdaa.code
open Go.Abs
noncomputable section
def K35r0:OpsF:=(oVal (.tmp 2) (kMove (.con (.int .i64 0))) oNil)
def K35r1:OpsF:=(oVal (.tmp 3) (kMove (.con (.int .i64 0))) oNil)
def K35r2:OpsF:=(oVal (.tmp 6) (kMove (.tmp 0)) (oVal (.tmp 7) (kUn lenSlA (.tmp 6)) (oVal (.tmp 8) (kMove (.con (.int .i64 0))) oNil)))
def K35r3:OpsF:=(oVal (.tmp 9) (kInt aLss (.tmp 8) (.tmp 7)) oNil)
def K35r4:OpsF:=(oVal (.tmp 10) (kTwo (ixsA 1) (.tmp 6) (.tmp 8)) (oVal (.tmp 11) (kLoad none (.tmp 10)) (oVal (.tmp 5) (kMove (.tmp 11)) oNil)))
def K35r5:OpsF:=(oVal (.tmp 12) (kMove (.tmp 5)) (oVal (.tmp 13) (kMove (.tmp 3)) (oVal (.tmp 14) (kInt aNeq (.tmp 12) (.tmp 13)) oNil)))
def K35r6:OpsF:=(oVal (.tmp 15) (kMove (.tmp 5)) (oVal (.tmp 2) (kMove (.tmp 15)) oNil))
def K35r7:OpsF:=(oVal (.tmp 16) (kInt aAdd (.tmp 8) (.con (.int .i64 1))) (oVal (.tmp 8) (kMove (.tmp 16)) oNil))
def K35l0:K:=(kSeq (kRegion K35r3 [9]) (kSeq (kCond (.tmp 9) kSkip (kExit 0)) (kSeq (kBlock 1 (kSeq (kRegion K35r4 [5]) (kSeq (kRegion K35r5 [14]) (kCond (.tmp 14) (kSeq (kRegion K35r6 [2]) kRet) kSkip)))) (kRegion K35r7 [8]))))
def K35r8:OpsF:=(oVal (.tmp 17) (kMove (.tmp 3)) (oVal (.tmp 2) (kMove (.tmp 17)) oNil))
theorem res35:Try.f35.results.toList=[.tmp 2]:=by kernel_rfl
def K35:K:=(kSeq (kRegion K35r0 [2]) (kSeq (kRegion K35r1 [3]) (kSeq (kSeq (kRegion K35r2 [6,7,8]) (kBlock 0 (kLoop K35l0))) (kSeq (kRegion K35r8 [2]) kRet))))
theorem enter35 (cl:CallF) (a0:AV) (s:St):enterA Try.prog X cl 35 [a0] s Try.f35=finA Try.prog Try.f35 (K35 cl ⟨35,none,Try.f35.ntmps,X 35⟩ (paramsEnv 0 [a0] .nil) [] s) :=
  enterA_eq (b:=Try.f35.body.getD .skip) (by kernel_rfl) (by kernel_rfl) (by kernel_rfl) (by kernel_rfl) (by kernel_rfl)
def K58r0:OpsF:=(oVal (.tmp 6) (kMove (.con (.int .i64 0))) oNil)
def K58r1:OpsF:=(oVal (.tmp 8) (kMove (.tmp 0)) (oVal (.tmp 9) (kMove (.tmp 1)) (oVal (.tmp 10) (kInt aLss (.tmp 8) (.tmp 9)) (oVal (.tmp 7) (kMove (.tmp 10)) oNil))))
def K58r2:OpsF:=(oVal (.tmp 6) (kMove (.con (.int .i64 7))) oNil)
def K58r3:OpsF:=(oVal (.tmp 12) (kMove (.tmp 0)) (oVal (.tmp 13) (kMove (.tmp 2)) (oVal (.tmp 14) (kGtr (.tmp 12) (.tmp 13)) (oVal (.tmp 11) (kMove (.tmp 14)) oNil))))
def K58r4:OpsF:=(oVal (.tmp 6) (kMove (.con (.int .i64 6))) oNil)
def K58r5:OpsF:=(oVal (.tmp 6) (kMove (.con (.int .i64 0))) oNil)
theorem res58:Try.f58.results.toList=[.tmp 6]:=by kernel_rfl
def K58:K:=(kSeq (kRegion K58r0 [6]) (kSeq (kBlock 0 (kSeq (kRegion K58r1 [7]) (kCond (.tmp 7) (kSeq (kRegion K58r2 [6]) kRet) (kSeq (kRegion K58r3 [11]) (kCond (.tmp 11) (kSeq (kRegion K58r4 [6]) kRet) kSkip))))) (kSeq (kRegion K58r5 [6]) kRet)))
theorem enter58 (cl:CallF) (a0 a1 a2:AV) (s:St):enterA Try.prog X cl 58 [a0,a1,a2] s Try.f58=finA Try.prog Try.f58 (K58 cl ⟨58,none,Try.f58.ntmps,X 58⟩ (paramsEnv 0 [a0,a1,a2] .nil) [] s) :=
  enterA_eq (b:=Try.f58.body.getD .skip) (by kernel_rfl) (by kernel_rfl) (by kernel_rfl) (by kernel_rfl) (by kernel_rfl)
def K43r0:OpsF:=(oVal (.tmp 4) (kMove (.con (.int .i64 0))) oNil)
def K43r1s6:OpsF:=(oVal (.tmp 11) (kPick (.tmp 7) (.con (.bool true)) (.tmp 10)) oNil)
def K43r1s5:OpsF:=(oIf 7 false (oVal (.tmp 10) (kInt aGeq (.tmp 8) (.tmp 9)) K43r1s6) (oSkip (.tmp 10) K43r1s6))
def K43r1s4:OpsF:=(oIf 7 false (oVal (.tmp 9) (kMove (.tmp 1)) K43r1s5) (oSkip (.tmp 9) K43r1s5))
def K43r1:OpsF:=(oVal (.tmp 5) (kMove (.tmp 0)) (oVal (.tmp 6) (kInt aLss (.tmp 5) (.con (.int .i64 0))) (oVal (.tmp 7) (kMove (.tmp 6)) (oIf 7 false (oVal (.tmp 8) (kMove (.tmp 0)) K43r1s4) (oSkip (.tmp 8) K43r1s4)))))
def K43r2:OpsF:=(oVal (.tmp 4) (kMove (.con (.int .i64 3))) oNil)
def K43r3:OpsF:=(oVal (.tmp 4) (kMove (.con (.int .i64 0))) oNil)
theorem res43:Try.f43.results.toList=[.tmp 4]:=by kernel_rfl
def K43:K:=(kSeq (kRegion K43r0 [4]) (kSeq (kSeq (kRegion K43r1 [11]) (kCond (.tmp 11) (kSeq (kRegion K43r2 [4]) kRet) kSkip)) (kSeq (kRegion K43r3 [4]) kRet)))
theorem enter43 (cl:CallF) (a0 a1:AV) (s:St):enterA Try.prog X cl 43 [a0,a1] s Try.f43=finA Try.prog Try.f43 (K43 cl ⟨43,none,Try.f43.ntmps,X 43⟩ (paramsEnv 0 [a0,a1] .nil) [] s) :=
  enterA_eq (b:=Try.f43.body.getD .skip) (by kernel_rfl) (by kernel_rfl) (by kernel_rfl) (by kernel_rfl) (by kernel_rfl)
def K71r0:OpsF:=(oVal (.tmp 3) (kBox (tag 38) (.tmp 0)) (oVal (.tmp 6) (kMove (.con (.int .i64 0))) oNil))
def K71r1:OpsF:=(oEnd [] (oVal (.tmp 8) (kUn (fadA 0) (.tmp 3)) (oVal (.tmp 9) (kLoad none (.tmp 8)) (oVal (.tmp 10) (kMove (.tmp 1)) (oVal (.tmp 11) (kMove (.tmp 2)) (oCallT (some [13]) (.tmp 12) (.con (.func 56 [] [])) [(.tmp 9),(.tmp 10),(.tmp 11)] (oVal (.tmp 13) (kUn (fadA 1) (.tmp 3)) (oVal (.tmp 14) (kLoad none (.tmp 13)) (oVal (.tmp 15) (kMove (.tmp 1)) (oVal (.tmp 16) (kMove (.tmp 2)) (oCall (.tmp 17) (.con (.func 56 [] [])) [(.tmp 14),(.tmp 15),(.tmp 16)] (oVal (.tmp 18) (kBuildSlice [(.int .i64 0),(.int .i64 0)] 2 [(0,1,(.tmp 12)),(1,1,(.tmp 17))]) (oCall (.tmp 19) (.con (.func 35 [] [])) [(.tmp 18)] (oVal (.tmp 7) (kMove (.tmp 19)) oNil))))))))))))))
def K71r2:OpsF:=(oVal (.tmp 20) (kMove (.tmp 7)) (oVal (.tmp 21) (kInt aNeq (.tmp 20) (.con (.int .i64 0))) oNil))
def K71r3:OpsF:=(oVal (.tmp 22) (kMove (.tmp 7)) (oVal (.tmp 6) (kMove (.tmp 22)) oNil))
def K71r4:OpsF:=(oVal (.tmp 23) (kUn (fadA 0) (.tmp 3)) (oVal (.tmp 24) (kLoad none (.tmp 23)) (oVal (.tmp 25) (kUn (fadA 1) (.tmp 3)) (oVal (.tmp 26) (kLoad none (.tmp 25)) (oVal (.tmp 27) (kGtr (.tmp 24) (.tmp 26)) oNil)))))
def K71r5:OpsF:=(oVal (.tmp 6) (kMove (.con (.int .i64 5))) oNil)
def K71r6:OpsF:=(oVal (.tmp 6) (kMove (.con (.int .i64 0))) oNil)
theorem res71:Try.f71.results.toList=[.tmp 6]:=by kernel_rfl
def K71:K:=(kSeq (kRegion K71r0 [3,6]) (kSeq (kSeq (kRegionD K71r1 [7]) (kSeq (kRegion K71r2 [21]) (kCond (.tmp 21) (kSeq (kRegion K71r3 [6]) kRet) kSkip))) (kSeq (kSeq (kRegion K71r4 [27]) (kCond (.tmp 27) (kSeq (kRegion K71r5 [6]) kRet) kSkip)) (kSeq (kRegion K71r6 [6]) kRet))))
theorem enter71 (cl:CallF) (a0 a1 a2:AV) (s:St):enterA Try.prog X cl 71 [a0,a1,a2] s Try.f71=finA Try.prog Try.f71 (K71 cl ⟨71,none,Try.f71.ntmps,X 71⟩ (paramsEnv 0 [a0,a1,a2] .nil) [] s) :=
  enterA_eq (b:=Try.f71.body.getD .skip) (by kernel_rfl) (by kernel_rfl) (by kernel_rfl) (by kernel_rfl) (by kernel_rfl)
def K56r0:OpsF:=(oVal (.tmp 6) (kMove (.con (.int .i64 0))) oNil)
def K56r1s7:OpsF:=(oVal (.tmp 14) (kPick (.tmp 10) (.con (.bool true)) (.tmp 13)) oNil)
def K56r1s6:OpsF:=(oIf 10 false (oVal (.tmp 13) (kGtr (.tmp 11) (.tmp 12)) K56r1s7) (oSkip (.tmp 13) K56r1s7))
def K56r1s5:OpsF:=(oIf 10 false (oVal (.tmp 12) (kMove (.tmp 2)) K56r1s6) (oSkip (.tmp 12) K56r1s6))
def K56r1:OpsF:=(oVal (.tmp 7) (kMove (.tmp 0)) (oVal (.tmp 8) (kMove (.tmp 1)) (oVal (.tmp 9) (kInt aLss (.tmp 7) (.tmp 8)) (oVal (.tmp 10) (kMove (.tmp 9)) (oIf 10 false (oVal (.tmp 11) (kMove (.tmp 0)) K56r1s5) (oSkip (.tmp 11) K56r1s5))))))
def K56r2:OpsF:=(oVal (.tmp 6) (kMove (.con (.int .i64 1))) oNil)
def K56r3:OpsF:=(oVal (.tmp 6) (kMove (.con (.int .i64 0))) oNil)
theorem res56:Try.f56.results.toList=[.tmp 6]:=by kernel_rfl
def K56:K:=(kSeq (kRegion K56r0 [6]) (kSeq (kSeq (kRegion K56r1 [14]) (kCond (.tmp 14) (kSeq (kRegion K56r2 [6]) kRet) kSkip)) (kSeq (kRegion K56r3 [6]) kRet)))
theorem enter56 (cl:CallF) (a0 a1 a2:AV) (s:St):enterA Try.prog X cl 56 [a0,a1,a2] s Try.f56=finA Try.prog Try.f56 (K56 cl ⟨56,none,Try.f56.ntmps,X 56⟩ (paramsEnv 0 [a0,a1,a2] .nil) [] s) :=
  enterA_eq (b:=Try.f56.body.getD .skip) (by kernel_rfl) (by kernel_rfl) (by kernel_rfl) (by kernel_rfl) (by kernel_rfl)
def K36r0:OpsF:=(oVal (.tmp 1) (kBox (tag 27) (.tmp 0)) (oVal (.tmp 2) (kMove (.con (.int .i64 0))) oNil))
def K36r1:OpsF:=(oEnd [] (oVal (.tmp 3) (kUn (fadA 0) (.tmp 1)) (oVal (.tmp 4) (kLoad none (.tmp 3)) (oCallT (some [6,1]) (.tmp 5) (.con (.func 56 [] [])) [(.tmp 4),(.con (.int .i64 1)),(.con (.int .i64 8))] (oVal (.tmp 6) (kUn (fadA 1) (.tmp 1)) (oVal (.tmp 7) (kLoad none (.tmp 6)) (oCallT (some [1]) (.tmp 8) (.con (.func 56 [] [])) [(.tmp 7),(.con (.int .i64 1)),(.con (.int .i64 8))] (oVal (.tmp 9) (kLoad (some 3) (.tmp 1)) (oCall (.tmp 10) (.con (.func 57 [] [])) [(.tmp 9)] (oVal (.tmp 11) (kBuildSlice [(.int .i64 0),(.int .i64 0),(.int .i64 0)] 3 [(0,1,(.tmp 5)),(1,1,(.tmp 8)),(2,1,(.tmp 10))]) (oCall (.tmp 12) (.con (.func 35 [] [])) [(.tmp 11)] (oVal (.tmp 2) (kMove (.tmp 12)) oNil))))))))))))
theorem res36:Try.f36.results.toList=[.tmp 2]:=by kernel_rfl
def K36:K:=(kSeq (kRegion K36r0 [1,2]) (kSeq (kRegionD K36r1 [2]) kRet))
theorem enter36 (cl:CallF) (a0:AV) (s:St):enterA Try.prog X cl 36 [a0] s Try.f36=finA Try.prog Try.f36 (K36 cl ⟨36,none,Try.f36.ntmps,X 36⟩ (paramsEnv 0 [a0] .nil) [] s) :=
  enterA_eq (b:=Try.f36.body.getD .skip) (by kernel_rfl) (by kernel_rfl) (by kernel_rfl) (by kernel_rfl) (by kernel_rfl)
def K57r0:OpsF:=(oVal (.tmp 1) (kBox (tag 27) (.tmp 0)) (oVal (.tmp 2) (kMove (.con (.int .i64 0))) oNil))
def K57r1:OpsF:=(oVal (.tmp 7) (kUn (fadA 2) (.tmp 1)) (oVal (.tmp 8) (kLoad none (.tmp 7)) (oVal (.tmp 9) (kUn lenSlA (.tmp 8)) (oCall (.tmp 10) (.con (.func 58 [] [])) [(.tmp 9),(.con (.int .i64 0)),(.con (.int .i64 40))] (oVal (.tmp 3) (kMove (.tmp 10)) oNil)))))
def K57r2:OpsF:=(oVal (.tmp 11) (kMove (.tmp 3)) (oVal (.tmp 12) (kInt aNeq (.tmp 11) (.con (.int .i64 0))) oNil))
def K57r3:OpsF:=(oVal (.tmp 13) (kMove (.tmp 3)) (oVal (.tmp 2) (kMove (.tmp 13)) oNil))
def K57r4:OpsF:=(oVal (.tmp 14) (kUn (fadA 2) (.tmp 1)) (oVal (.tmp 15) (kLoad none (.tmp 14)) (oVal (.tmp 16) (kUn lenSlA (.tmp 15)) (oVal (.tmp 17) (kMove (.con (.int .i64 0))) oNil))))
def K57r5:OpsF:=(oVal (.tmp 18) (kInt aLss (.tmp 17) (.tmp 16)) oNil)
def K57r6:OpsF:=(oVal (.tmp 19) (kTwo (ixsA 6) (.tmp 15) (.tmp 17)) (oVal (.tmp 20) (kLoad (some 6) (.tmp 19)) (oVal (.tmp 5) (kAlloc [(.int .i64 0),(.int .i64 0),(.int .i64 0),(.int .i64 0),(.int .i64 0),(.int .i64 0)] (tag 51)) (oVal .none (kStore 6 (.tmp 5) (.tmp 20)) oNil))))
def K57r7:OpsF:=(oEnd [] (oVal (.tmp 21) (kUn (fadA 0) (.tmp 5)) (oVal (.tmp 22) (kLoad none (.tmp 21)) (oVal (.tmp 23) (kUn (fadA 0) (.tmp 1)) (oVal (.tmp 24) (kLoad none (.tmp 23)) (oCallT (some [26,28,31,34]) (.tmp 25) (.con (.func 43 [] [])) [(.tmp 22),(.tmp 24)] (oVal (.tmp 26) (kUn (fadA 1) (.tmp 5)) (oVal (.tmp 27) (kLoad none (.tmp 26)) (oVal (.tmp 28) (kUn (fadA 1) (.tmp 1)) (oVal (.tmp 29) (kLoad none (.tmp 28)) (oCallT (some [31,34]) (.tmp 30) (.con (.func 43 [] [])) [(.tmp 27),(.tmp 29)] (oVal (.tmp 31) (kUn (fadA 2) (.tmp 5)) (oVal (.tmp 32) (kLoad (some 2) (.tmp 31)) (oCallT (some [34]) (.tmp 33) (.con (.func 71 [] [])) [(.tmp 32),(.con (.int .i64 0)),(.con (.int .i64 100000))] (oVal (.tmp 34) (kUn (fadA 4) (.tmp 5)) (oVal (.tmp 35) (kLoad (some 2) (.tmp 34)) (oCall (.tmp 36) (.con (.func 71 [] [])) [(.tmp 35),(.con (.int .i64 0)),(.con (.int .i64 100000))] (oVal (.tmp 37) (kBuildSlice [(.int .i64 0),(.int .i64 0),(.int .i64 0),(.int .i64 0)] 4 [(0,1,(.tmp 25)),(1,1,(.tmp 30)),(2,1,(.tmp 33)),(3,1,(.tmp 36))]) (oCall (.tmp 38) (.con (.func 35 [] [])) [(.tmp 37)] (oVal (.tmp 6) (kMove (.tmp 38)) oNil))))))))))))))))))))
def K57r8:OpsF:=(oVal (.tmp 39) (kMove (.tmp 6)) (oVal (.tmp 40) (kInt aNeq (.tmp 39) (.con (.int .i64 0))) oNil))
def K57r9:OpsF:=(oVal (.tmp 41) (kMove (.tmp 6)) (oVal (.tmp 2) (kMove (.tmp 41)) oNil))
def K57r10:OpsF:=(oVal (.tmp 42) (kInt aAdd (.tmp 17) (.con (.int .i64 1))) (oVal (.tmp 17) (kMove (.tmp 42)) oNil))
def K57l0:K:=(kSeq (kRegion K57r5 [18]) (kSeq (kCond (.tmp 18) kSkip (kExit 0)) (kSeq (kBlock 1 (kSeq (kRegion K57r6 [5]) (kSeq (kRegionD K57r7 [6]) (kSeq (kRegion K57r8 [40]) (kCond (.tmp 40) (kSeq (kRegion K57r9 [2]) kRet) kSkip))))) (kRegion K57r10 [17]))))
def K57r11:OpsF:=(oVal (.tmp 2) (kMove (.con (.int .i64 0))) oNil)
theorem res57:Try.f57.results.toList=[.tmp 2]:=by kernel_rfl
def K57:K:=(kSeq (kRegion K57r0 [1,2]) (kSeq (kSeq (kRegion K57r1 [3]) (kSeq (kRegion K57r2 [12]) (kCond (.tmp 12) (kSeq (kRegion K57r3 [2]) kRet) kSkip))) (kSeq (kSeq (kRegion K57r4 [15,16,17]) (kBlock 0 (kLoop K57l0))) (kSeq (kRegion K57r11 [2]) kRet))))
theorem enter57 (cl:CallF) (a0:AV) (s:St):enterA Try.prog X cl 57 [a0] s Try.f57=finA Try.prog Try.f57 (K57 cl ⟨57,none,Try.f57.ntmps,X 57⟩ (paramsEnv 0 [a0] .nil) [] s) :=
  enterA_eq (b:=Try.f57.body.getD .skip) (by kernel_rfl) (by kernel_rfl) (by kernel_rfl) (by kernel_rfl) (by kernel_rfl)
end
end Go.Proofs.Ytamlnddeiokbdaa.code
set_option maxRecDepth 100000
namespace Go.Proofs.Ytamlnddeiokbdaa.code
open Go.Abs
noncomputable section
def K17r0:OpsF:=(oVal (.tmp 2) (kBox (tag 27) (.tmp 0)) (oVal (.tmp 3) (kBox (tag 3) (.tmp 1)) (oVal (.tmp 4) (kAlloc [(.int .i64 0),(.int .i64 0)] (tag 38)) (oVal (.tmp 5) (kMove (.con (.int .i64 0))) oNil))))
def K17r1:OpsF:=(oEnd [] (oVal (.tmp 7) (kLoad (some 3) (.tmp 2)) (oCallT (some [3,10]) (.tmp 8) (.con (.func 36 [] [])) [(.tmp 7)] (oVal (.tmp 9) (kLoad none (.tmp 3)) (oVal (.tmp 10) (kUn (fadA 0) (.tmp 2)) (oVal (.tmp 11) (kLoad none (.tmp 10)) (oCall (.tmp 12) (.con (.func 43 [] [])) [(.tmp 9),(.tmp 11)] (oVal (.tmp 13) (kBuildSlice [(.int .i64 0),(.int .i64 0)] 2 [(0,1,(.tmp 8)),(1,1,(.tmp 12))]) (oCall (.tmp 14) (.con (.func 35 [] [])) [(.tmp 13)] (oVal (.tmp 6) (kMove (.tmp 14)) oNil))))))))))
def K17r2:OpsF:=(oVal (.tmp 15) (kMove (.tmp 6)) (oVal (.tmp 16) (kInt aNeq (.tmp 15) (.con (.int .i64 0))) oNil))
def K17r3:OpsF:=(oVal (.tmp 17) (kBuild [(.int .i64 0),(.int .i64 0)] []) (oVal (.tmp 18) (kMove (.tmp 6)) (oVal .none (kStore 2 (.tmp 4) (.tmp 17)) (oVal (.tmp 5) (kMove (.tmp 18)) oNil))))
def K17r4:OpsF:=(oVal (.tmp 19) (kFunc 50 [] [(.tmp 2),(.tmp 3)]) (oCall (.tmp 20) (.con (.func 38 [] [])) [(.tmp 19)] (oVal .none (kStore 2 (.tmp 4) (.tmp 20)) (oVal (.tmp 5) (kMove (.con (.int .i64 0))) oNil))))
theorem res17:Try.f17.results.toList=[.cell 4 38,.tmp 5]:=by kernel_rfl
def K17:K:=(kSeq (kRegion K17r0 [2,3,4,5]) (kSeq (kSeq (kRegionD K17r1 [6]) (kSeq (kRegion K17r2 [16]) (kCond (.tmp 16) (kSeq (kRegion K17r3 [5]) kRet) kSkip))) (kSeq (kRegion K17r4 [5]) kRet)))
theorem enter17 (cl:CallF) (a0 a1:AV) (s:St):enterA Try.prog X cl 17 [a0,a1] s Try.f17=finA Try.prog Try.f17 (K17 cl ⟨17,none,Try.f17.ntmps,X 17⟩ (paramsEnv 0 [a0,a1] .nil) [] s) :=
  enterA_eq (b:=Try.f17.body.getD .skip) (by kernel_rfl) (by kernel_rfl) (by kernel_rfl) (by kernel_rfl) (by kernel_rfl)
def K50r0:OpsF:=(oVal (.tmp 3) (kBox (tag 82) (.tmp 0)) (oVal (.tmp 4) (kMove (.con (.int .i64 0))) oNil))
def K50r1:OpsF:=(oEnd [] (oVal (.tmp 5) (kLoad (some 2) (.tmp 3)) (oVal (.tmp 6) (kUn (fadA 2) (.tmp 1)) (oVal (.tmp 7) (kLoad none (.tmp 6)) (oCallT (some [2]) (.tmp 8) (.con (.func 41 [] [])) [(.tmp 5),(.tmp 7)] (oVal (.tmp 9) (kLoad none (.tmp 2)) (oVal (.tmp 10) (kLook .int (.int .i64 0) false (.tmp 8) (.tmp 9)) (oVal (.tmp 4) (kMove (.tmp 10)) oNil))))))))
theorem res50:Try.f50.results.toList=[.tmp 4]:=by kernel_rfl
def K50:K:=(kSeq (kRegion K50r0 [3,4]) (kSeq (kRegionD K50r1 [4]) kRet))
theorem enter50 (cl:CallF) (a0 a1 a2:AV) (s:St):enterA Try.prog X cl 50 [a0,a1,a2] s Try.f50=finA Try.prog Try.f50 (K50 cl ⟨50,none,Try.f50.ntmps,X 50⟩ (paramsEnv 0 [a0,a1,a2] .nil) [] s) :=
  enterA_eq (b:=Try.f50.body.getD .skip) (by kernel_rfl) (by kernel_rfl) (by kernel_rfl) (by kernel_rfl) (by kernel_rfl)
def K38r0:OpsF:=(oVal (.tmp 2) (kAlloc [(.int .i64 0),(.int .i64 0)] (tag 38)) oNil)
def K38r1:OpsF:=(oVal (.tmp 3) (kMove (.con (.func 60 [] []))) oNil)
def K38r2:OpsF:=(oVal (.tmp 4) (kMove (.con (.func 61 [] []))) oNil)
def K38r3:OpsF:=(oVal (.tmp 5) (kMove (.tmp 0)) (oVal (.tmp 6) (kMove (.tmp 3)) (oVal (.tmp 7) (kMove (.tmp 4)) (oVal (.tmp 8) (kBuild [.nilfunc,.nilfunc] [(0,1,(.tmp 6)),(1,1,(.tmp 7))]) (oCall (.tmp 9) (.tmp 5) [(.tmp 8)] (oVal (.tmp 10) (kMove (.tmp 0)) (oVal (.tmp 11) (kMove (.tmp 4)) (oVal (.tmp 12) (kMove (.tmp 3)) (oVal (.tmp 13) (kBuild [.nilfunc,.nilfunc] [(0,1,(.tmp 11)),(1,1,(.tmp 12))]) (oCall (.tmp 14) (.tmp 10) [(.tmp 13)] (oVal (.tmp 15) (kBuild [(.int .i64 0),(.int .i64 0)] [(0,1,(.tmp 9)),(1,1,(.tmp 14))]) (oVal .none (kStore 2 (.tmp 2) (.tmp 15)) oNil))))))))))))
theorem res38:Try.f38.results.toList=[.cell 2 38]:=by kernel_rfl
def K38:K:=(kSeq (kRegion K38r0 [2]) (kSeq (kRegion K38r1 [3]) (kSeq (kRegion K38r2 [4]) (kSeq (kRegion K38r3 []) kRet))))
theorem enter38 (cl:CallF) (a0:AV) (s:St):enterA Try.prog X cl 38 [a0] s Try.f38=finA Try.prog Try.f38 (K38 cl ⟨38,none,Try.f38.ntmps,X 38⟩ (paramsEnv 0 [a0] .nil) [] s) :=
  enterA_eq (b:=Try.f38.body.getD .skip) (by kernel_rfl) (by kernel_rfl) (by kernel_rfl) (by kernel_rfl) (by kernel_rfl)
def K60r0:OpsF:=(oVal (.tmp 1) (kBox (tag 38) (.tmp 0)) (oVal (.tmp 2) (kMove (.con (.int .i64 0))) oNil))
def K60r1:OpsF:=(oVal (.tmp 3) (kUn (fadA 0) (.tmp 1)) (oVal (.tmp 4) (kLoad none (.tmp 3)) (oVal (.tmp 2) (kMove (.tmp 4)) oNil)))
theorem res60:Try.f60.results.toList=[.tmp 2]:=by kernel_rfl
def K60:K:=(kSeq (kRegion K60r0 [1,2]) (kSeq (kRegion K60r1 [2]) kRet))
theorem enter60 (cl:CallF) (a0:AV) (s:St):enterA Try.prog X cl 60 [a0] s Try.f60=finA Try.prog Try.f60 (K60 cl ⟨60,none,Try.f60.ntmps,X 60⟩ (paramsEnv 0 [a0] .nil) [] s) :=
  enterA_eq (b:=Try.f60.body.getD .skip) (by kernel_rfl) (by kernel_rfl) (by kernel_rfl) (by kernel_rfl) (by kernel_rfl)
def K61r0:OpsF:=(oVal (.tmp 1) (kBox (tag 38) (.tmp 0)) (oVal (.tmp 2) (kMove (.con (.int .i64 0))) oNil))
def K61r1:OpsF:=(oVal (.tmp 3) (kUn (fadA 1) (.tmp 1)) (oVal (.tmp 4) (kLoad none (.tmp 3)) (oVal (.tmp 2) (kMove (.tmp 4)) oNil)))
theorem res61:Try.f61.results.toList=[.tmp 2]:=by kernel_rfl
def K61:K:=(kSeq (kRegion K61r0 [1,2]) (kSeq (kRegion K61r1 [2]) kRet))
theorem enter61 (cl:CallF) (a0:AV) (s:St):enterA Try.prog X cl 61 [a0] s Try.f61=finA Try.prog Try.f61 (K61 cl ⟨61,none,Try.f61.ntmps,X 61⟩ (paramsEnv 0 [a0] .nil) [] s) :=
  enterA_eq (b:=Try.f61.body.getD .skip) (by kernel_rfl) (by kernel_rfl) (by kernel_rfl) (by kernel_rfl) (by kernel_rfl)
def K41r0:OpsF:=(oVal (.tmp 2) (kBox (tag 82) (.tmp 0)) (oVal (.tmp 4) (kMove (.con .nilmap)) oNil))
def K41r1:OpsF:=(oVal (.tmp 8) kMap (oVal (.tmp 5) (kMove (.tmp 8)) oNil))
def K41r2:OpsF:=(oVal (.tmp 9) (kMove (.tmp 1)) (oVal (.tmp 10) (kUn lenSlA (.tmp 9)) (oVal (.tmp 11) (kMove (.con (.int .i64 0))) oNil)))
def K41r3:OpsF:=(oVal (.tmp 12) (kInt aLss (.tmp 11) (.tmp 10)) oNil)
def K41r4:OpsF:=(oVal (.tmp 13) (kTwo (ixsA 6) (.tmp 9) (.tmp 11)) (oVal (.tmp 14) (kLoad (some 6) (.tmp 13)) (oVal (.tmp 7) (kAlloc [(.int .i64 0),(.int .i64 0),(.int .i64 0),(.int .i64 0),(.int .i64 0),(.int .i64 0)] (tag 51)) (oVal .none (kStore 6 (.tmp 7) (.tmp 14)) oNil))))
def K41r5:OpsF:=(oEnd [] (oVal (.tmp 15) (kMove (.tmp 5)) (oVal (.tmp 16) (kUn (fadA 0) (.tmp 7)) (oVal (.tmp 17) (kLoad none (.tmp 16)) (oVal (.tmp 18) (kLook .int (.int .i64 0) false (.tmp 15) (.tmp 17)) (oVal (.tmp 19) (kLoad (some 2) (.tmp 2)) (oVal (.tmp 20) (kLoad (some 6) (.tmp 7)) (oCallT (some [16,15]) (.tmp 21) (.con (.func 62 [] [])) [(.tmp 19),(.tmp 20)] (oCallT (some [16,15]) (.tmp 22) (.con (.func 63 [] [])) [(.tmp 21)] (oVal (.tmp 23) (kInt aAdd (.tmp 18) (.tmp 22)) (oVal .none (kUpd .int (.tmp 15) (.tmp 17) (.tmp 23)) oNil)))))))))))
def K41r6:OpsF:=(oVal (.tmp 24) (kInt aAdd (.tmp 11) (.con (.int .i64 1))) (oVal (.tmp 11) (kMove (.tmp 24)) oNil))
def K41l0:K:=(kSeq (kRegion K41r3 [12]) (kSeq (kCond (.tmp 12) kSkip (kExit 0)) (kSeq (kBlock 1 (kSeq (kRegion K41r4 [7]) (kRegionD K41r5 []))) (kRegion K41r6 [11]))))
def K41r7:OpsF:=(oVal (.tmp 25) (kMove (.tmp 5)) (oVal (.tmp 4) (kMove (.tmp 25)) oNil))
theorem res41:Try.f41.results.toList=[.tmp 4]:=by kernel_rfl
def K41:K:=(kSeq (kRegion K41r0 [2,4]) (kSeq (kRegion K41r1 [5]) (kSeq (kSeq (kRegion K41r2 [9,10,11]) (kBlock 0 (kLoop K41l0))) (kSeq (kRegion K41r7 [4]) kRet))))
theorem enter41 (cl:CallF) (a0 a1:AV) (s:St):enterA Try.prog X cl 41 [a0,a1] s Try.f41=finA Try.prog Try.f41 (K41 cl ⟨41,none,Try.f41.ntmps,X 41⟩ (paramsEnv 0 [a0,a1] .nil) [] s) :=
  enterA_eq (b:=Try.f41.body.getD .skip) (by kernel_rfl) (by kernel_rfl) (by kernel_rfl) (by kernel_rfl) (by kernel_rfl)
def K62r0:OpsF:=(oVal (.tmp 2) (kBox (tag 82) (.tmp 0)) (oVal (.tmp 3) (kBox (tag 51) (.tmp 1)) (oVal (.tmp 4) (kAlloc [(.int .i64 0),(.int .i64 0)] (tag 103)) oNil)))
def K62r1:OpsF:=(oEnd [] (oVal (.tmp 5) (kUn (fadA 0) (.tmp 2)) (oVal (.tmp 6) (kLoad none (.tmp 5)) (oVal (.tmp 7) (kUn (fadA 2) (.tmp 3)) (oVal (.tmp 8) (kLoad (some 2) (.tmp 7)) (oCallT (some [10,12]) (.tmp 9) (.tmp 6) [(.tmp 8)] (oVal (.tmp 10) (kUn (fadA 0) (.tmp 2)) (oVal (.tmp 11) (kLoad none (.tmp 10)) (oVal (.tmp 12) (kUn (fadA 4) (.tmp 3)) (oVal (.tmp 13) (kLoad (some 2) (.tmp 12)) (oCall (.tmp 14) (.tmp 11) [(.tmp 13)] (oVal (.tmp 15) (kBuild [(.int .i64 0),(.int .i64 0)] [(0,1,(.tmp 9)),(1,1,(.tmp 14))]) (oVal .none (kStore 2 (.tmp 4) (.tmp 15)) oNil)))))))))))))
theorem res62:Try.f62.results.toList=[.cell 4 103]:=by kernel_rfl
def K62:K:=(kSeq (kRegion K62r0 [2,3,4]) (kSeq (kRegionD K62r1 []) kRet))
theorem enter62 (cl:CallF) (a0 a1:AV) (s:St):enterA Try.prog X cl 62 [a0,a1] s Try.f62=finA Try.prog Try.f62 (K62 cl ⟨62,none,Try.f62.ntmps,X 62⟩ (paramsEnv 0 [a0,a1] .nil) [] s) :=
  enterA_eq (b:=Try.f62.body.getD .skip) (by kernel_rfl) (by kernel_rfl) (by kernel_rfl) (by kernel_rfl) (by kernel_rfl)
def K63r0:OpsF:=(oVal (.tmp 1) (kBox (tag 103) (.tmp 0)) (oVal (.tmp 2) (kMove (.con (.int .i64 0))) oNil))
def K63r1:OpsF:=(oVal (.tmp 3) (kTwo (ixaA 2 1) (.tmp 1) (.con (.int .i64 0))) (oVal (.tmp 4) (kLoad none (.tmp 3)) (oVal (.tmp 5) (kTwo (ixaA 2 1) (.tmp 1) (.con (.int .i64 1))) (oVal (.tmp 6) (kLoad none (.tmp 5)) (oVal (.tmp 7) (kInt aMul (.tmp 4) (.tmp 6)) (oVal (.tmp 8) (kInt aQuo (.tmp 7) (.con (.int .i64 1000))) (oVal (.tmp 2) (kMove (.tmp 8)) oNil)))))))
theorem res63:Try.f63.results.toList=[.tmp 2]:=by kernel_rfl
def K63:K:=(kSeq (kRegion K63r0 [1,2]) (kSeq (kRegion K63r1 [2]) kRet))
theorem enter63 (cl:CallF) (a0:AV) (s:St):enterA Try.prog X cl 63 [a0] s Try.f63=finA Try.prog Try.f63 (K63 cl ⟨63,none,Try.f63.ntmps,X 63⟩ (paramsEnv 0 [a0] .nil) [] s) :=
  enterA_eq (b:=Try.f63.body.getD .skip) (by kernel_rfl) (by kernel_rfl) (by kernel_rfl) (by kernel_rfl) (by kernel_rfl)
end
end Go.Proofs.Ytamlnddeiokbdaa.code
set_option maxRecDepth 100000
namespace Go.Proofs.Ytamlnddeiokbdaa.code
open Go.Abs
noncomputable section
def K12r0:OpsF:=(oVal (.tmp 2) (kBox (tag 27) (.tmp 0)) (oVal (.tmp 3) (kBox (tag 29) (.tmp 1)) (oVal (.tmp 4) (kMove (.con .nilslice)) (oVal (.tmp 5) (kMove (.con (.int .i64 0))) oNil))))
def K12r1:OpsF:=(oEnd [] (oVal (.tmp 9) (kLoad (some 3) (.tmp 2)) (oCallT (some [3]) (.tmp 10) (.con (.func 36 [] [])) [(.tmp 9)] (oVal (.tmp 11) (kLoad none (.tmp 3)) (oCall (.tmp 12) (.con (.func 37 [] [])) [(.tmp 11)] (oVal (.tmp 13) (kBuildSlice [(.int .i64 0),(.int .i64 0)] 2 [(0,1,(.tmp 10)),(1,1,(.tmp 12))]) (oCall (.tmp 14) (.con (.func 35 [] [])) [(.tmp 13)] (oVal (.tmp 6) (kMove (.tmp 14)) oNil))))))))
def K12r2:OpsF:=(oVal (.tmp 15) (kMove (.tmp 6)) (oVal (.tmp 16) (kInt aNeq (.tmp 15) (.con (.int .i64 0))) oNil))
def K12r3:OpsF:=(oVal (.tmp 17) (kMove (.tmp 6)) (oVal (.tmp 4) (kMove (.con .nilslice)) (oVal (.tmp 5) (kMove (.tmp 17)) oNil)))
def K12r4:OpsF:=(oVal (.tmp 18) (kUn (fadA 0) (.tmp 2)) (oVal (.tmp 19) (kLoad none (.tmp 18)) (oVal (.tmp 20) (kMake [(.int .i64 0),(.int .i64 0)] 16 (.tmp 19) (.tmp 19)) (oVal (.tmp 7) (kMove (.tmp 20)) oNil))))
def K12r5:OpsF:=(oVal (.tmp 21) (kMove (.tmp 7)) (oVal (.tmp 22) (kUn lenSlA (.tmp 21)) (oVal (.tmp 23) (kMove (.con (.int .i64 0))) oNil)))
def K12r6:OpsF:=(oVal (.tmp 24) (kInt aLss (.tmp 23) (.tmp 22)) oNil)
def K12r7:OpsF:=(oVal (.tmp 25) (kMove (.tmp 23)) (oVal (.tmp 8) (kAlloc [(.int .i64 0)] (tag 3)) (oVal .none (kStore 1 (.tmp 8) (.tmp 25)) oNil)))
def K12r8:OpsF:=(oEnd [] (oVal (.tmp 26) (kMove (.tmp 7)) (oVal (.tmp 27) (kLoad none (.tmp 8)) (oVal (.tmp 28) (kFunc 39 [] [(.tmp 2),(.tmp 8),(.tmp 3)]) (oCallT (some [8]) (.tmp 29) (.con (.func 38 [] [])) [(.tmp 28)] (oVal (.tmp 30) (kTwo (ixsA 2) (.tmp 26) (.tmp 27)) (oVal .none (kStore 2 (.tmp 30) (.tmp 29)) oNil)))))))
def K12r9:OpsF:=(oVal (.tmp 31) (kInt aAdd (.tmp 23) (.con (.int .i64 1))) (oVal (.tmp 23) (kMove (.tmp 31)) oNil))
def K12l0:K:=(kSeq (kRegion K12r6 [24]) (kSeq (kCond (.tmp 24) kSkip (kExit 0)) (kSeq (kBlock 1 (kSeq (kRegion K12r7 [8]) (kRegionD K12r8 []))) (kRegion K12r9 [23]))))
def K12r10:OpsF:=(oVal (.tmp 32) (kMove (.tmp 7)) (oVal (.tmp 4) (kMove (.tmp 32)) (oVal (.tmp 5) (kMove (.con (.int .i64 0))) oNil)))
theorem res12:Try.f12.results.toList=[.tmp 4,.tmp 5]:=by kernel_rfl
def K12:K:=(kSeq (kRegion K12r0 [2,3,4,5]) (kSeq (kSeq (kRegionD K12r1 [6]) (kSeq (kRegion K12r2 [16]) (kCond (.tmp 16) (kSeq (kRegion K12r3 [4,5]) kRet) kSkip))) (kSeq (kRegion K12r4 [7]) (kSeq (kSeq (kRegion K12r5 [22,23]) (kBlock 0 (kLoop K12l0))) (kSeq (kRegion K12r10 [4,5]) kRet)))))
theorem enter12 (cl:CallF) (a0 a1:AV) (s:St):enterA Try.prog X cl 12 [a0,a1] s Try.f12=finA Try.prog Try.f12 (K12 cl ⟨12,none,Try.f12.ntmps,X 12⟩ (paramsEnv 0 [a0,a1] .nil) [] s) :=
  enterA_eq (b:=Try.f12.body.getD .skip) (by kernel_rfl) (by kernel_rfl) (by kernel_rfl) (by kernel_rfl) (by kernel_rfl)
def K39r0:OpsF:=(oVal (.tmp 4) (kBox (tag 82) (.tmp 0)) (oVal (.tmp 5) (kMove (.con (.int .i64 0))) oNil))
def K39r1:OpsF:=(oEnd [] (oVal (.tmp 6) (kLoad (some 2) (.tmp 4)) (oVal (.tmp 7) (kUn (fadA 2) (.tmp 1)) (oVal (.tmp 8) (kLoad none (.tmp 7)) (oCallT (some [2,3]) (.tmp 9) (.con (.func 41 [] [])) [(.tmp 6),(.tmp 8)] (oVal (.tmp 10) (kLoad none (.tmp 2)) (oVal (.tmp 11) (kLook .int (.int .i64 0) false (.tmp 9) (.tmp 10)) (oVal (.tmp 12) (kLoad none (.tmp 3)) (oCall (.tmp 13) (.con (.func 40 [] [])) [(.tmp 11),(.tmp 12)] (oVal (.tmp 5) (kMove (.tmp 13)) oNil))))))))))
theorem res39:Try.f39.results.toList=[.tmp 5]:=by kernel_rfl
def K39:K:=(kSeq (kRegion K39r0 [4,5]) (kSeq (kRegionD K39r1 [5]) kRet))
theorem enter39 (cl:CallF) (a0 a1 a2 a3:AV) (s:St):enterA Try.prog X cl 39 [a0,a1,a2,a3] s Try.f39=finA Try.prog Try.f39 (K39 cl ⟨39,none,Try.f39.ntmps,X 39⟩ (paramsEnv 0 [a0,a1,a2,a3] .nil) [] s) :=
  enterA_eq (b:=Try.f39.body.getD .skip) (by kernel_rfl) (by kernel_rfl) (by kernel_rfl) (by kernel_rfl) (by kernel_rfl)
def K40r0:OpsF:=(oVal (.tmp 4) (kMove (.con (.int .i64 0))) oNil)
def K40r1:OpsF:=(oVal (.tmp 5) (kMove (.con (.int .i64 0))) oNil)
def K40r2:OpsF:=(oVal (.tmp 9) (kMove (.tmp 1)) (oVal (.tmp 10) (kUn lenSlA (.tmp 9)) (oVal (.tmp 11) (kMove (.con (.int .i64 0))) oNil)))
def K40r3:OpsF:=(oVal (.tmp 12) (kInt aLss (.tmp 11) (.tmp 10)) oNil)
def K40r4:OpsF:=(oVal (.tmp 13) (kMove (.tmp 11)) (oVal (.tmp 14) (kTwo (ixsA 2) (.tmp 9) (.tmp 11)) (oVal (.tmp 15) (kLoad (some 2) (.tmp 14)) (oVal (.tmp 7) (kAlloc [(.int .i64 0),(.int .i64 0)] (tag 75)) (oVal (.tmp 6) (kMove (.tmp 13)) (oVal .none (kStore 2 (.tmp 7) (.tmp 15)) oNil))))))
def K40r5:OpsF:=(oVal (.tmp 16) (kMove (.tmp 0)) (oVal (.tmp 8) (kMove (.tmp 16)) oNil))
def K40r6:OpsF:=(oVal (.tmp 17) (kMove (.tmp 6)) (oVal (.tmp 18) (kInt aAdd (.tmp 17) (.con (.int .i64 1))) (oVal (.tmp 19) (kMove (.tmp 1)) (oVal (.tmp 20) (kUn lenSlA (.tmp 19)) (oVal (.tmp 21) (kInt aLss (.tmp 18) (.tmp 20)) oNil)))))
def K40r7:OpsF:=(oVal (.tmp 22) (kMove (.tmp 0)) (oVal (.tmp 23) (kMove (.tmp 1)) (oVal (.tmp 24) (kMove (.tmp 6)) (oVal (.tmp 25) (kInt aAdd (.tmp 24) (.con (.int .i64 1))) (oVal (.tmp 26) (kTwo (ixsA 2) (.tmp 23) (.tmp 25)) (oVal (.tmp 27) (kUn (fadA 0) (.tmp 26)) (oVal (.tmp 28) (kLoad none (.tmp 27)) (oVal (.tmp 29) (kFold minA (.tmp 22) [(.tmp 28)]) (oVal (.tmp 8) (kMove (.tmp 29)) oNil)))))))))
def K40r8:OpsF:=(oVal (.tmp 30) (kMove (.tmp 5)) (oVal (.tmp 31) (kMove (.tmp 8)) (oVal (.tmp 32) (kUn (fadA 0) (.tmp 7)) (oVal (.tmp 33) (kLoad none (.tmp 32)) (oVal (.tmp 34) (kInt aSub (.tmp 31) (.tmp 33)) (oVal (.tmp 35) (kFold maxA (.con (.int .i64 0)) [(.tmp 34)]) (oVal (.tmp 36) (kUn (fadA 1) (.tmp 7)) (oVal (.tmp 37) (kLoad none (.tmp 36)) (oVal (.tmp 38) (kInt aMul (.tmp 35) (.tmp 37)) (oVal (.tmp 39) (kInt aAdd (.tmp 30) (.tmp 38)) (oVal (.tmp 5) (kMove (.tmp 39)) oNil)))))))))))
def K40r9:OpsF:=(oVal (.tmp 40) (kInt aAdd (.tmp 11) (.con (.int .i64 1))) (oVal (.tmp 11) (kMove (.tmp 40)) oNil))
def K40l0:K:=(kSeq (kRegion K40r3 [12]) (kSeq (kCond (.tmp 12) kSkip (kExit 0)) (kSeq (kBlock 1 (kSeq (kRegion K40r4 [7,6]) (kSeq (kRegion K40r5 [8]) (kSeq (kSeq (kRegion K40r6 [21]) (kCond (.tmp 21) (kRegion K40r7 [8]) kSkip)) (kRegion K40r8 [5]))))) (kRegion K40r9 [11]))))
def K40r10:OpsF:=(oVal (.tmp 41) (kMove (.tmp 5)) (oVal (.tmp 42) (kInt aQuo (.tmp 41) (.con (.int .i64 1000))) (oVal (.tmp 4) (kMove (.tmp 42)) oNil)))
theorem res40:Try.f40.results.toList=[.tmp 4]:=by kernel_rfl
def K40:K:=(kSeq (kRegion K40r0 [4]) (kSeq (kRegion K40r1 [5]) (kSeq (kSeq (kRegion K40r2 [9,10,11]) (kBlock 0 (kLoop K40l0))) (kSeq (kRegion K40r10 [4]) kRet))))
theorem enter40 (cl:CallF) (a0 a1:AV) (s:St):enterA Try.prog X cl 40 [a0,a1] s Try.f40=finA Try.prog Try.f40 (K40 cl ⟨40,none,Try.f40.ntmps,X 40⟩ (paramsEnv 0 [a0,a1] .nil) [] s) :=
  enterA_eq (b:=Try.f40.body.getD .skip) (by kernel_rfl) (by kernel_rfl) (by kernel_rfl) (by kernel_rfl) (by kernel_rfl)
def K37r0:OpsF:=(oVal (.tmp 2) (kMove (.con (.int .i64 0))) oNil)
def K37r1:OpsF:=(oVal (.tmp 7) (kMove (.tmp 0)) (oVal (.tmp 8) (kUn lenSlA (.tmp 7)) (oCall (.tmp 9) (.con (.func 58 [] [])) [(.tmp 8),(.con (.int .i64 1)),(.con (.int .i64 5))] (oVal (.tmp 3) (kMove (.tmp 9)) oNil))))
def K37r2:OpsF:=(oVal (.tmp 10) (kMove (.tmp 3)) (oVal (.tmp 11) (kInt aNeq (.tmp 10) (.con (.int .i64 0))) oNil))
def K37r3:OpsF:=(oVal (.tmp 12) (kMove (.tmp 3)) (oVal (.tmp 2) (kMove (.tmp 12)) oNil))
def K37r4:OpsF:=(oVal (.tmp 13) (kMove (.tmp 0)) (oVal (.tmp 14) (kUn lenSlA (.tmp 13)) (oVal (.tmp 15) (kMove (.con (.int .i64 0))) oNil)))
def K37r5:OpsF:=(oVal (.tmp 16) (kInt aLss (.tmp 15) (.tmp 14)) oNil)
def K37r6:OpsF:=(oVal (.tmp 17) (kMove (.tmp 15)) (oVal (.tmp 18) (kTwo (ixsA 2) (.tmp 13) (.tmp 15)) (oVal (.tmp 19) (kLoad (some 2) (.tmp 18)) (oVal (.tmp 5) (kAlloc [(.int .i64 0),(.int .i64 0)] (tag 75)) (oVal (.tmp 4) (kMove (.tmp 17)) (oVal .none (kStore 2 (.tmp 5) (.tmp 19)) oNil))))))
def K37r7:OpsF:=(oEnd [] (oVal (.tmp 20) (kUn (fadA 0) (.tmp 5)) (oVal (.tmp 21) (kLoad none (.tmp 20)) (oCallT (some [23,26]) (.tmp 22) (.con (.func 56 [] [])) [(.tmp 21),(.con (.int .i64 0)),(.con (.int .i64 1000000000))] (oVal (.tmp 23) (kUn (fadA 1) (.tmp 5)) (oVal (.tmp 24) (kLoad none (.tmp 23)) (oCallT (some [26]) (.tmp 25) (.con (.func 56 [] [])) [(.tmp 24),(.con (.int .i64 0)),(.con (.int .i64 1000))] (oVal (.tmp 26) (kUn (fadA 0) (.tmp 5)) (oVal (.tmp 27) (kLoad none (.tmp 26)) (oVal (.tmp 28) (kMove (.tmp 0)) (oVal (.tmp 29) (kMove (.tmp 4)) (oVal (.tmp 30) (kSlice (sliceVal 2) (.tmp 28) none (some (.tmp 29))) (oCall (.tmp 31) (.con (.func 59 [] [])) [(.tmp 27),(.tmp 30)] (oVal (.tmp 32) (kBuildSlice [(.int .i64 0),(.int .i64 0),(.int .i64 0)] 3 [(0,1,(.tmp 22)),(1,1,(.tmp 25)),(2,1,(.tmp 31))]) (oCall (.tmp 33) (.con (.func 35 [] [])) [(.tmp 32)] (oVal (.tmp 6) (kMove (.tmp 33)) oNil))))))))))))))))
def K37r8:OpsF:=(oVal (.tmp 34) (kMove (.tmp 6)) (oVal (.tmp 35) (kInt aNeq (.tmp 34) (.con (.int .i64 0))) oNil))
def K37r9:OpsF:=(oVal (.tmp 36) (kMove (.tmp 6)) (oVal (.tmp 2) (kMove (.tmp 36)) oNil))
def K37r10:OpsF:=(oVal (.tmp 37) (kInt aAdd (.tmp 15) (.con (.int .i64 1))) (oVal (.tmp 15) (kMove (.tmp 37)) oNil))
def K37l0:K:=(kSeq (kRegion K37r5 [16]) (kSeq (kCond (.tmp 16) kSkip (kExit 0)) (kSeq (kBlock 1 (kSeq (kRegion K37r6 [5,4]) (kSeq (kRegionD K37r7 [6]) (kSeq (kRegion K37r8 [35]) (kCond (.tmp 35) (kSeq (kRegion K37r9 [2]) kRet) kSkip))))) (kRegion K37r10 [15]))))
def K37r11:OpsF:=(oVal (.tmp 2) (kMove (.con (.int .i64 0))) oNil)
theorem res37:Try.f37.results.toList=[.tmp 2]:=by kernel_rfl
def K37:K:=(kSeq (kRegion K37r0 [2]) (kSeq (kSeq (kRegion K37r1 [3]) (kSeq (kRegion K37r2 [11]) (kCond (.tmp 11) (kSeq (kRegion K37r3 [2]) kRet) kSkip))) (kSeq (kSeq (kRegion K37r4 [13,14,15]) (kBlock 0 (kLoop K37l0))) (kSeq (kRegion K37r11 [2]) kRet))))
theorem enter37 (cl:CallF) (a0:AV) (s:St):enterA Try.prog X cl 37 [a0] s Try.f37=finA Try.prog Try.f37 (K37 cl ⟨37,none,Try.f37.ntmps,X 37⟩ (paramsEnv 0 [a0] .nil) [] s) :=
  enterA_eq (b:=Try.f37.body.getD .skip) (by kernel_rfl) (by kernel_rfl) (by kernel_rfl) (by kernel_rfl) (by kernel_rfl)
def K59r0:OpsF:=(oVal (.tmp 4) (kMove (.con (.int .i64 0))) oNil)
def K59r1:OpsF:=(oVal (.tmp 5) (kMove (.tmp 1)) (oVal (.tmp 6) (kUn lenSlA (.tmp 5)) (oVal (.tmp 7) (kInt aEql (.tmp 6) (.con (.int .i64 0))) oNil)))
def K59r2:OpsF:=(oVal (.tmp 8) (kMove (.tmp 0)) (oVal (.tmp 9) (kInt aEql (.tmp 8) (.con (.int .i64 0))) (oCall (.tmp 10) (.con (.func 72 [] [])) [(.tmp 9),(.con (.int .i64 2))] (oVal (.tmp 4) (kMove (.tmp 10)) oNil))))
def K59r3:OpsF:=(oVal (.tmp 11) (kMove (.tmp 0)) (oVal (.tmp 12) (kMove (.tmp 1)) (oVal (.tmp 13) (kMove (.tmp 1)) (oVal (.tmp 14) (kUn lenSlA (.tmp 13)) (oVal (.tmp 15) (kInt aSub (.tmp 14) (.con (.int .i64 1))) (oVal (.tmp 16) (kTwo (ixsA 2) (.tmp 12) (.tmp 15)) (oVal (.tmp 17) (kUn (fadA 0) (.tmp 16)) (oVal (.tmp 18) (kLoad none (.tmp 17)) (oVal (.tmp 19) (kGtr (.tmp 11) (.tmp 18)) (oCall (.tmp 20) (.con (.func 72 [] [])) [(.tmp 19),(.con (.int .i64 5))] (oVal (.tmp 4) (kMove (.tmp 20)) oNil)))))))))))
theorem res59:Try.f59.results.toList=[.tmp 4]:=by kernel_rfl
def K59:K:=(kSeq (kRegion K59r0 [4]) (kSeq (kSeq (kRegion K59r1 [7]) (kCond (.tmp 7) (kSeq (kRegion K59r2 [4]) kRet) kSkip)) (kSeq (kRegion K59r3 [4]) kRet)))
theorem enter59 (cl:CallF) (a0 a1:AV) (s:St):enterA Try.prog X cl 59 [a0,a1] s Try.f59=finA Try.prog Try.f59 (K59 cl ⟨59,none,Try.f59.ntmps,X 59⟩ (paramsEnv 0 [a0,a1] .nil) [] s) :=
  enterA_eq (b:=Try.f59.body.getD .skip) (by kernel_rfl) (by kernel_rfl) (by kernel_rfl) (by kernel_rfl) (by kernel_rfl)
def K72r0:OpsF:=(oVal (.tmp 4) (kMove (.con (.int .i64 0))) oNil)
def K72r1:OpsF:=(oVal (.tmp 5) (kMove (.tmp 0)) oNil)
def K72r2:OpsF:=(oVal (.tmp 4) (kMove (.con (.int .i64 0))) oNil)
def K72r3:OpsF:=(oVal (.tmp 6) (kMove (.tmp 1)) (oVal (.tmp 4) (kMove (.tmp 6)) oNil))
theorem res72:Try.f72.results.toList=[.tmp 4]:=by kernel_rfl
def K72:K:=(kSeq (kRegion K72r0 [4]) (kSeq (kSeq (kRegion K72r1 [5]) (kCond (.tmp 5) (kSeq (kRegion K72r2 [4]) kRet) kSkip)) (kSeq (kRegion K72r3 [4]) kRet)))
theorem enter72 (cl:CallF) (a0 a1:AV) (s:St):enterA Try.prog X cl 72 [a0,a1] s Try.f72=finA Try.prog Try.f72 (K72 cl ⟨72,none,Try.f72.ntmps,X 72⟩ (paramsEnv 0 [a0,a1] .nil) [] s) :=
  enterA_eq (b:=Try.f72.body.getD .skip) (by kernel_rfl) (by kernel_rfl) (by kernel_rfl) (by kernel_rfl) (by kernel_rfl)
end
end Go.Proofs.Ytamlnddeiokbdaa.code
set_option maxRecDepth 100000
namespace Go.Proofs.Ytamlnddeiokbdaa.code
open Go.Abs
noncomputable section
def K30r0:OpsF:=(oVal (.tmp 2) (kMove (.con (.int .u64 0))) oNil)
def K30r1:OpsF:=(oVal (.tmp 4) (kMove (.tmp 0)) (oVal (.tmp 5) (kMove (.tmp 0)) (oVal (.tmp 6) (kUn nilA (.tmp 5)) (oVal (.tmp 7) (kUn (fadA 0) (.tmp 6)) (oVal (.tmp 8) (kLoad none (.tmp 7)) (oVal (.tmp 9) (kInt aAdd (.tmp 8) (.con (.int .u64 11562461410679940143))) (oVal (.tmp 10) (kUn nilA (.tmp 4)) (oVal (.tmp 11) (kUn (fadA 0) (.tmp 10)) (oVal .none (kStore 1 (.tmp 11) (.tmp 9)) oNil)))))))))
def K30r2:OpsF:=(oVal (.tmp 12) (kMove (.tmp 0)) (oVal (.tmp 13) (kUn nilA (.tmp 12)) (oVal (.tmp 14) (kUn (fadA 0) (.tmp 13)) (oVal (.tmp 15) (kLoad none (.tmp 14)) (oVal (.tmp 3) (kMove (.tmp 15)) oNil)))))
def K30r3:OpsF:=(oVal (.tmp 16) (kMove (.tmp 3)) (oVal (.tmp 17) (kMove (.tmp 3)) (oVal (.tmp 18) (kShr (.tmp 17) (.con (.int .u64 30))) (oVal (.tmp 19) (kInt aXor (.tmp 16) (.tmp 18)) (oVal (.tmp 20) (kInt aMul (.tmp 19) (.con (.int .u64 13787848793156543929))) (oVal (.tmp 3) (kMove (.tmp 20)) oNil))))))
def K30r4:OpsF:=(oVal (.tmp 21) (kMove (.tmp 3)) (oVal (.tmp 22) (kMove (.tmp 3)) (oVal (.tmp 23) (kShr (.tmp 22) (.con (.int .u64 27))) (oVal (.tmp 24) (kInt aXor (.tmp 21) (.tmp 23)) (oVal (.tmp 25) (kInt aMul (.tmp 24) (.con (.int .u64 10723151780598845931))) (oVal (.tmp 3) (kMove (.tmp 25)) oNil))))))
def K30r5:OpsF:=(oVal (.tmp 26) (kMove (.tmp 3)) (oVal (.tmp 27) (kMove (.tmp 3)) (oVal (.tmp 28) (kShr (.tmp 27) (.con (.int .u64 31))) (oVal (.tmp 29) (kInt aXor (.tmp 26) (.tmp 28)) (oVal (.tmp 2) (kMove (.tmp 29)) oNil)))))
theorem res30:Try.f30.results.toList=[.tmp 2]:=by kernel_rfl
def K30:K:=(kSeq (kRegion K30r0 [2]) (kSeq (kRegion K30r1 []) (kSeq (kRegion K30r2 [3]) (kSeq (kRegion K30r3 [3]) (kSeq (kRegion K30r4 [3]) (kSeq (kRegion K30r5 [2]) kRet))))))
theorem enter30 (cl:CallF) (a0:AV) (s:St):enterA Try.prog X cl 30 [a0] s Try.f30=finA Try.prog Try.f30 (K30 cl ⟨30,none,Try.f30.ntmps,X 30⟩ (paramsEnv 0 [a0] .nil) [] s) :=
  enterA_eq (b:=Try.f30.body.getD .skip) (by kernel_rfl) (by kernel_rfl) (by kernel_rfl) (by kernel_rfl) (by kernel_rfl)
def K33r0:OpsF:=(oVal (.tmp 4) (kMove (.con (.int .i64 0))) oNil)
def K33r1:OpsF:=(oVal (.tmp 5) (kMove (.tmp 1)) (oVal (.tmp 6) (kInt aLss (.tmp 5) (.con (.int .i64 2))) oNil))
def K33r2:OpsF:=(oVal (.tmp 4) (kMove (.con (.int .i64 0))) oNil)
def K33r3:OpsF:=(oVal (.tmp 7) (kMove (.tmp 0)) (oCall (.tmp 8) (.con (.func 30 [] [])) [(.tmp 7)] (oVal (.tmp 9) (kShr (.tmp 8) (.con (.int .u64 2))) (oVal (.tmp 10) (kMove (.tmp 1)) (oVal (.tmp 11) (kUn (cviA .u64) (.tmp 10)) (oVal (.tmp 12) (kInt aRem (.tmp 9) (.tmp 11)) (oVal (.tmp 13) (kUn (cviA .i64) (.tmp 12)) (oVal (.tmp 4) (kMove (.tmp 13)) oNil))))))))
theorem res33:Try.f33.results.toList=[.tmp 4]:=by kernel_rfl
def K33:K:=(kSeq (kRegion K33r0 [4]) (kSeq (kSeq (kRegion K33r1 [6]) (kCond (.tmp 6) (kSeq (kRegion K33r2 [4]) kRet) kSkip)) (kSeq (kRegion K33r3 [4]) kRet)))
theorem enter33 (cl:CallF) (a0 a1:AV) (s:St):enterA Try.prog X cl 33 [a0,a1] s Try.f33=finA Try.prog Try.f33 (K33 cl ⟨33,none,Try.f33.ntmps,X 33⟩ (paramsEnv 0 [a0,a1] .nil) [] s) :=
  enterA_eq (b:=Try.f33.body.getD .skip) (by kernel_rfl) (by kernel_rfl) (by kernel_rfl) (by kernel_rfl) (by kernel_rfl)
def K31r0:OpsF:=(oVal (.tmp 6) (kMove (.con (.int .i64 0))) oNil)
def K31r1:OpsF:=(oVal (.tmp 7) (kMove (.tmp 1)) (oVal (.tmp 8) (kMove (.tmp 0)) (oVal (.tmp 9) (kMove (.tmp 2)) (oVal (.tmp 10) (kMove (.tmp 1)) (oVal (.tmp 11) (kInt aSub (.tmp 9) (.tmp 10)) (oVal (.tmp 12) (kInt aAdd (.tmp 11) (.con (.int .i64 1))) (oCall (.tmp 13) (.con (.func 33 [] [])) [(.tmp 8),(.tmp 12)] (oVal (.tmp 14) (kInt aAdd (.tmp 7) (.tmp 13)) (oVal (.tmp 6) (kMove (.tmp 14)) oNil)))))))))
theorem res31:Try.f31.results.toList=[.tmp 6]:=by kernel_rfl
def K31:K:=(kSeq (kRegion K31r0 [6]) (kSeq (kRegion K31r1 [6]) kRet))
theorem enter31 (cl:CallF) (a0 a1 a2:AV) (s:St):enterA Try.prog X cl 31 [a0,a1,a2] s Try.f31=finA Try.prog Try.f31 (K31 cl ⟨31,none,Try.f31.ntmps,X 31⟩ (paramsEnv 0 [a0,a1,a2] .nil) [] s) :=
  enterA_eq (b:=Try.f31.body.getD .skip) (by kernel_rfl) (by kernel_rfl) (by kernel_rfl) (by kernel_rfl) (by kernel_rfl)
def K32r0:OpsF:=(oVal (.tmp 4) (kMove (.con (.int .i64 0))) oNil)
def K32r1:OpsF:=(oVal (.tmp 5) (kMove (.tmp 1)) (oVal (.tmp 6) (kUn lenSlA (.tmp 5)) (oVal (.tmp 7) (kInt aEql (.tmp 6) (.con (.int .i64 0))) oNil)))
def K32r2:OpsF:=(oVal (.tmp 4) (kMove (.con (.int .i64 0))) oNil)
def K32r3:OpsF:=(oVal (.tmp 8) (kMove (.tmp 1)) (oVal (.tmp 9) (kMove (.tmp 0)) (oVal (.tmp 10) (kMove (.tmp 1)) (oVal (.tmp 11) (kUn lenSlA (.tmp 10)) (oCall (.tmp 12) (.con (.func 33 [] [])) [(.tmp 9),(.tmp 11)] (oVal (.tmp 13) (kTwo (ixsA 1) (.tmp 8) (.tmp 12)) (oVal (.tmp 14) (kLoad none (.tmp 13)) (oVal (.tmp 4) (kMove (.tmp 14)) oNil))))))))
theorem res32:Try.f32.results.toList=[.tmp 4]:=by kernel_rfl
def K32:K:=(kSeq (kRegion K32r0 [4]) (kSeq (kSeq (kRegion K32r1 [7]) (kCond (.tmp 7) (kSeq (kRegion K32r2 [4]) kRet) kSkip)) (kSeq (kRegion K32r3 [4]) kRet)))
theorem enter32 (cl:CallF) (a0 a1:AV) (s:St):enterA Try.prog X cl 32 [a0,a1] s Try.f32=finA Try.prog Try.f32 (K32 cl ⟨32,none,Try.f32.ntmps,X 32⟩ (paramsEnv 0 [a0,a1] .nil) [] s) :=
  enterA_eq (b:=Try.f32.body.getD .skip) (by kernel_rfl) (by kernel_rfl) (by kernel_rfl) (by kernel_rfl) (by kernel_rfl)
def K34r0:OpsF:=(oVal (.tmp 6) (kAlloc [(.int .i64 0),(.int .i64 0)] (tag 38)) oNil)
def K34r1:OpsF:=(oVal (.tmp 9) (kMove (.tmp 0)) (oVal (.tmp 10) (kMove (.tmp 1)) (oVal (.tmp 11) (kMove (.tmp 2)) (oCall (.tmp 12) (.con (.func 31 [] [])) [(.tmp 9),(.tmp 10),(.tmp 11)] (oVal (.tmp 7) (kMove (.tmp 12)) oNil)))))
def K34r2:OpsF:=(oVal (.tmp 13) (kMove (.tmp 0)) (oVal (.tmp 14) (kMove (.tmp 7)) (oVal (.tmp 15) (kMove (.tmp 2)) (oVal (.tmp 16) (kMove (.tmp 7)) (oVal (.tmp 17) (kInt aAdd (.tmp 16) (.con (.int .i64 4))) (oVal (.tmp 18) (kFold minA (.tmp 15) [(.tmp 17)]) (oVal (.tmp 19) (kMove (.tmp 2)) (oVal (.tmp 20) (kBuildSlice [(.int .i64 0),(.int .i64 0),(.int .i64 0)] 3 [(0,1,(.tmp 14)),(1,1,(.tmp 18)),(2,1,(.tmp 19))]) (oCall (.tmp 21) (.con (.func 32 [] [])) [(.tmp 13),(.tmp 20)] (oVal (.tmp 8) (kMove (.tmp 21)) oNil))))))))))
def K34r3:OpsF:=(oVal (.tmp 22) (kMove (.tmp 7)) (oVal (.tmp 23) (kMove (.tmp 0)) (oVal (.tmp 24) (kMove (.tmp 7)) (oVal (.tmp 25) (kMove (.tmp 8)) (oCall (.tmp 26) (.con (.func 31 [] [])) [(.tmp 23),(.tmp 24),(.tmp 25)] (oVal (.tmp 27) (kBuild [(.int .i64 0),(.int .i64 0)] [(0,1,(.tmp 22)),(1,1,(.tmp 26))]) (oVal .none (kStore 2 (.tmp 6) (.tmp 27)) oNil)))))))
theorem res34:Try.f34.results.toList=[.cell 6 38]:=by kernel_rfl
def K34:K:=(kSeq (kRegion K34r0 [6]) (kSeq (kRegion K34r1 [7]) (kSeq (kRegion K34r2 [8]) (kSeq (kRegion K34r3 []) kRet))))
theorem enter34 (cl:CallF) (a0 a1 a2:AV) (s:St):enterA Try.prog X cl 34 [a0,a1,a2] s Try.f34=finA Try.prog Try.f34 (K34 cl ⟨34,none,Try.f34.ntmps,X 34⟩ (paramsEnv 0 [a0,a1,a2] .nil) [] s) :=
  enterA_eq (b:=Try.f34.body.getD .skip) (by kernel_rfl) (by kernel_rfl) (by kernel_rfl) (by kernel_rfl) (by kernel_rfl)
end
end Go.Proofs.Ytamlnddeiokbdaa.code
set_option maxRecDepth 100000
namespace Go.Proofs.Ytamlnddeiokbdaa.code
open Go.Abs
noncomputable section
def K10r0:OpsF:=(oVal (.tmp 8) (kAlloc [(.int .i64 0),(.int .i64 0),.nilslice] (tag 27)) oNil)
def K10r1:OpsF:=(oVal (.tmp 13) (kMove (.tmp 0)) (oVal (.tmp 14) (kMove (.tmp 1)) (oCall (.tmp 15) (.con (.func 31 [] [])) [(.tmp 13),(.con (.int .i64 1)),(.tmp 14)] (oVal (.tmp 16) (kMove (.tmp 0)) (oVal (.tmp 17) (kMove (.tmp 2)) (oCall (.tmp 18) (.con (.func 31 [] [])) [(.tmp 16),(.con (.int .i64 1)),(.tmp 17)] (oVal (.tmp 19) (kBuild [(.int .i64 0),(.int .i64 0),.nilslice] [(0,1,(.tmp 15)),(1,1,(.tmp 18))]) (oVal (.tmp 9) (kAlloc [(.int .i64 0),(.int .i64 0),.nilslice] (tag 27)) (oVal .none (kStore 3 (.tmp 9) (.tmp 19)) oNil)))))))))
def K10r2:OpsF:=(oVal (.tmp 20) (kMove (.tmp 0)) (oVal (.tmp 21) (kBuildSlice [(.int .i64 0),(.int .i64 0),(.int .i64 0)] 3 [(0,1,(.con (.int .i64 6))),(1,1,(.con (.int .i64 100))),(2,1,(.con (.int .i64 5000)))]) (oCall (.tmp 22) (.con (.func 32 [] [])) [(.tmp 20),(.tmp 21)] (oVal (.tmp 23) (kMove (.tmp 0)) (oVal (.tmp 24) (kBuildSlice [(.int .i64 0),(.int .i64 0),(.int .i64 0)] 3 [(0,1,(.con (.int .i64 6))),(1,1,(.con (.int .i64 30))),(2,1,(.con (.int .i64 2000)))]) (oCall (.tmp 25) (.con (.func 32 [] [])) [(.tmp 23),(.tmp 24)] (oVal (.tmp 10) (kMove (.tmp 22)) (oVal (.tmp 11) (kMove (.tmp 25)) oNil))))))))
def K10r3:OpsF:=(oVal (.tmp 26) (kMove (.tmp 0)) (oVal (.tmp 27) (kMove (.tmp 3)) (oVal (.tmp 28) (kInt aAdd (.tmp 27) (.con (.int .i64 1))) (oCall (.tmp 29) (.con (.func 33 [] [])) [(.tmp 26),(.tmp 28)] (oVal (.tmp 12) (kMove (.tmp 29)) oNil)))))
def K10r4:OpsF:=(oVal (.tmp 30) (kMove (.tmp 12)) (oVal (.tmp 31) (kGtr (.tmp 30) (.con (.int .i64 0))) oNil))
def K10r5:OpsF:=(oEnd [] (oVal (.tmp 34) (kUn (fadA 2) (.tmp 9)) (oVal (.tmp 35) (kLoad none (.tmp 34)) (oVal (.tmp 36) (kMove (.tmp 0)) (oVal (.tmp 37) (kUn (fadA 0) (.tmp 9)) (oVal (.tmp 38) (kLoad none (.tmp 37)) (oCallT (some [34,41]) (.tmp 39) (.con (.func 33 [] [])) [(.tmp 36),(.tmp 38)] (oVal (.tmp 40) (kMove (.tmp 0)) (oVal (.tmp 41) (kUn (fadA 1) (.tmp 9)) (oVal (.tmp 42) (kLoad none (.tmp 41)) (oCallT (some [34]) (.tmp 43) (.con (.func 33 [] [])) [(.tmp 40),(.tmp 42)] (oVal (.tmp 44) (kMove (.tmp 0)) (oVal (.tmp 45) (kMove (.tmp 10)) (oCallT (some [34]) (.tmp 46) (.con (.func 34 [] [])) [(.tmp 44),(.con (.int .i64 0)),(.tmp 45)] (oVal (.tmp 47) (kMove (.tmp 0)) (oVal (.tmp 48) (kMove (.tmp 11)) (oCallT (some [34]) (.tmp 49) (.con (.func 34 [] [])) [(.tmp 47),(.con (.int .i64 0)),(.tmp 48)] (oVal (.tmp 50) (kBuild [(.int .i64 0),(.int .i64 0),(.int .i64 0),(.int .i64 0),(.int .i64 0),(.int .i64 0)] [(0,1,(.tmp 39)),(1,1,(.tmp 43)),(2,2,(.tmp 46)),(4,2,(.tmp 49))]) (oVal (.tmp 51) (kBuildSlice [(.int .i64 0),(.int .i64 0),(.int .i64 0),(.int .i64 0),(.int .i64 0),(.int .i64 0)] 1 [(0,6,(.tmp 50))]) (oVal (.tmp 52) (kTwo (appendA false 6 48 (tag 51)) (.tmp 35) (.tmp 51)) (oVal (.tmp 53) (kUn (fadA 2) (.tmp 9)) (oVal .none (kStore 1 (.tmp 53) (.tmp 52)) oNil))))))))))))))))))))))
def K10r6:OpsF:=(oVal (.tmp 32) (kMove (.tmp 12)) (oVal (.tmp 33) (kInt aSub (.tmp 32) (.con (.int .i64 1))) (oVal (.tmp 12) (kMove (.tmp 33)) oNil)))
def K10l0:K:=(kSeq (kSeq (kRegion K10r4 [31]) (kCond (.tmp 31) kSkip (kExit 0))) (kSeq (kBlock 1 (kRegionD K10r5 [])) (kRegion K10r6 [12])))
def K10r7:OpsF:=(oVal (.tmp 54) (kLoad (some 3) (.tmp 9)) (oVal .none (kStore 3 (.tmp 8) (.tmp 54)) oNil))
theorem res10:Try.f10.results.toList=[.cell 8 27]:=by kernel_rfl
def K10:K:=(kSeq (kRegion K10r0 [8]) (kSeq (kRegion K10r1 [9]) (kSeq (kRegion K10r2 [10,11]) (kSeq (kSeq (kRegion K10r3 [12]) (kBlock 0 (kLoop K10l0))) (kSeq (kRegion K10r7 []) kRet)))))
theorem enter10 (cl:CallF) (a0 a1 a2 a3:AV) (s:St):enterA Try.prog X cl 10 [a0,a1,a2,a3] s Try.f10=finA Try.prog Try.f10 (K10 cl ⟨10,none,Try.f10.ntmps,X 10⟩ (paramsEnv 0 [a0,a1,a2,a3] .nil) [] s) :=
  enterA_eq (b:=Try.f10.body.getD .skip) (by kernel_rfl) (by kernel_rfl) (by kernel_rfl) (by kernel_rfl) (by kernel_rfl)
def K11r0:OpsF:=(oVal (.tmp 4) (kMove (.con .nilslice)) oNil)
def K11r1:OpsF:=(oVal (.tmp 5) (kMove (.con .nilslice)) oNil)
def K11r2:OpsF:=(oVal (.tmp 6) (kMove (.con (.int .i64 0))) oNil)
def K11r3:OpsF:=(oVal (.tmp 8) (kMove (.tmp 0)) (oVal (.tmp 9) (kMove (.tmp 1)) (oCall (.tmp 10) (.con (.func 31 [] [])) [(.tmp 8),(.con (.int .i64 1)),(.tmp 9)] (oVal (.tmp 7) (kMove (.tmp 10)) oNil))))
def K11r4:OpsF:=(oVal (.tmp 11) (kMove (.tmp 7)) (oVal (.tmp 12) (kGtr (.tmp 11) (.con (.int .i64 0))) oNil))
def K11r5:OpsF:=(oVal (.tmp 15) (kMove (.tmp 5)) (oVal (.tmp 16) (kMove (.tmp 6)) (oVal (.tmp 17) (kMove (.tmp 0)) (oCall (.tmp 18) (.con (.func 33 [] [])) [(.tmp 17),(.con (.int .i64 1001))] (oVal (.tmp 19) (kBuild [(.int .i64 0),(.int .i64 0)] [(0,1,(.tmp 16)),(1,1,(.tmp 18))]) (oVal (.tmp 20) (kBuildSlice [(.int .i64 0),(.int .i64 0)] 1 [(0,2,(.tmp 19))]) (oVal (.tmp 21) (kTwo (appendA false 2 16 (tag 75)) (.tmp 15) (.tmp 20)) (oVal (.tmp 5) (kMove (.tmp 21)) oNil))))))))
def K11r6:OpsF:=(oVal (.tmp 22) (kMove (.tmp 6)) (oVal (.tmp 23) (kMove (.tmp 0)) (oVal (.tmp 24) (kMove (.tmp 0)) (oVal (.tmp 25) (kBuildSlice [(.int .i64 0),(.int .i64 0),(.int .i64 0)] 3 [(0,1,(.con (.int .i64 5))),(1,1,(.con (.int .i64 100))),(2,1,(.con (.int .i64 5000)))]) (oCall (.tmp 26) (.con (.func 32 [] [])) [(.tmp 24),(.tmp 25)] (oCall (.tmp 27) (.con (.func 31 [] [])) [(.tmp 23),(.con (.int .i64 1)),(.tmp 26)] (oVal (.tmp 28) (kInt aAdd (.tmp 22) (.tmp 27)) (oVal (.tmp 6) (kMove (.tmp 28)) oNil))))))))
def K11r7:OpsF:=(oVal (.tmp 13) (kMove (.tmp 7)) (oVal (.tmp 14) (kInt aSub (.tmp 13) (.con (.int .i64 1))) (oVal (.tmp 7) (kMove (.tmp 14)) oNil)))
def K11l0:K:=(kSeq (kSeq (kRegion K11r4 [12]) (kCond (.tmp 12) kSkip (kExit 0))) (kSeq (kBlock 1 (kSeq (kRegion K11r5 [5]) (kRegion K11r6 [6]))) (kRegion K11r7 [7])))
def K11r8:OpsF:=(oVal (.tmp 29) (kMove (.tmp 5)) (oVal (.tmp 4) (kMove (.tmp 29)) oNil))
theorem res11:Try.f11.results.toList=[.tmp 4]:=by kernel_rfl
def K11:K:=(kSeq (kRegion K11r0 [4]) (kSeq (kRegion K11r1 [5]) (kSeq (kRegion K11r2 [6]) (kSeq (kSeq (kRegion K11r3 [7]) (kBlock 0 (kLoop K11l0))) (kSeq (kRegion K11r8 [4]) kRet)))))
theorem enter11 (cl:CallF) (a0 a1:AV) (s:St):enterA Try.prog X cl 11 [a0,a1] s Try.f11=finA Try.prog Try.f11 (K11 cl ⟨11,none,Try.f11.ntmps,X 11⟩ (paramsEnv 0 [a0,a1] .nil) [] s) :=
  enterA_eq (b:=Try.f11.body.getD .skip) (by kernel_rfl) (by kernel_rfl) (by kernel_rfl) (by kernel_rfl) (by kernel_rfl)
end
end Go.Proofs.Ytamlnddeiokbdaa.code
set_option maxRecDepth 100000
namespace Go.Proofs.Ytamlnddeiokbdaa.code
open Go.Abs
noncomputable section
def K14r0:OpsF:=(oVal (.tmp 2) (kBox (tag 27) (.tmp 0)) (oVal (.tmp 4) (kMove (.con (.int .i64 0))) (oVal (.tmp 5) (kAlloc [(.int .i64 0),(.int .i64 0)] (tag 38)) (oVal (.tmp 6) (kMove (.con (.int .i64 0))) oNil))))
def K14r1:OpsF:=(oEnd [] (oVal (.tmp 10) (kLoad (some 3) (.tmp 2)) (oCallT (some [13]) (.tmp 11) (.con (.func 36 [] [])) [(.tmp 10)] (oVal (.tmp 12) (kMove (.tmp 1)) (oVal (.tmp 13) (kUn (fadA 1) (.tmp 2)) (oVal (.tmp 14) (kLoad none (.tmp 13)) (oCall (.tmp 15) (.con (.func 43 [] [])) [(.tmp 12),(.tmp 14)] (oVal (.tmp 16) (kBuildSlice [(.int .i64 0),(.int .i64 0)] 2 [(0,1,(.tmp 11)),(1,1,(.tmp 15))]) (oCall (.tmp 17) (.con (.func 35 [] [])) [(.tmp 16)] (oVal (.tmp 7) (kMove (.tmp 17)) oNil))))))))))
def K14r2:OpsF:=(oVal (.tmp 18) (kMove (.tmp 7)) (oVal (.tmp 19) (kInt aNeq (.tmp 18) (.con (.int .i64 0))) oNil))
def K14r3:OpsF:=(oVal (.tmp 20) (kBuild [(.int .i64 0),(.int .i64 0)] []) (oVal (.tmp 21) (kMove (.tmp 7)) (oVal (.tmp 4) (kMove (.con (.int .i64 0))) (oVal .none (kStore 2 (.tmp 5) (.tmp 20)) (oVal (.tmp 6) (kMove (.tmp 21)) oNil)))))
def K14r4:OpsF:=(oVal (.tmp 22) (kLoad (some 3) (.tmp 2)) (oVal (.tmp 23) (kMove (.tmp 1)) (oCall (.tmp 24) (.con (.func 44 [] [])) [(.tmp 22),(.tmp 23)] (oVal (.tmp 8) (kAlloc [.nilfunc] (tag 89)) (oVal .none (kStore 1 (.tmp 8) (.tmp 24)) oNil)))))
def K14r5:OpsF:=(oVal (.tmp 25) (kFunc 45 [] [(.tmp 8)]) (oCall (.tmp 26) (.con (.func 38 [] [])) [(.tmp 25)] (oVal (.tmp 9) (kAlloc [(.int .i64 0),(.int .i64 0)] (tag 38)) (oVal .none (kStore 2 (.tmp 9) (.tmp 26)) oNil))))
def K14r6:OpsF:=(oVal (.tmp 27) (kFunc 47 [] [(.tmp 8)]) (oCall (.tmp 28) (.con (.func 38 [] [])) [(.tmp 27)] (oVal .none (kStore 2 (.tmp 5) (.tmp 28)) oNil)))
def K14r7:OpsF:=(oEnd [] (oVal (.tmp 29) (kUn (fadA 1) (.tmp 9)) (oVal (.tmp 30) (kLoad none (.tmp 29)) (oVal (.tmp 31) (kGtr (.tmp 30) (.con (.int .i64 0))) (oVal (.tmp 32) (kUn (fadA 0) (.tmp 9)) (oVal (.tmp 33) (kLoad none (.tmp 32)) (oVal (.tmp 34) (kGtr (.tmp 33) (.con (.int .i64 0))) (oCallT (some [5]) (.tmp 35) (.con (.func 49 [] [])) [(.tmp 31),(.tmp 34)] (oVal (.tmp 36) (kLoad (some 2) (.tmp 5)) (oVal (.tmp 4) (kMove (.tmp 35)) (oVal .none (kStore 2 (.tmp 5) (.tmp 36)) (oVal (.tmp 6) (kMove (.con (.int .i64 0))) oNil))))))))))))
theorem res14:Try.f14.results.toList=[.tmp 4,.cell 5 38,.tmp 6]:=by kernel_rfl
def K14:K:=(kSeq (kRegion K14r0 [2,4,5,6]) (kSeq (kSeq (kRegionD K14r1 [7]) (kSeq (kRegion K14r2 [19]) (kCond (.tmp 19) (kSeq (kRegion K14r3 [4,6]) kRet) kSkip))) (kSeq (kRegion K14r4 [8]) (kSeq (kRegion K14r5 [9]) (kSeq (kRegion K14r6 []) (kSeq (kRegionD K14r7 [4,6]) kRet))))))
theorem enter14 (cl:CallF) (a0 a1:AV) (s:St):enterA Try.prog X cl 14 [a0,a1] s Try.f14=finA Try.prog Try.f14 (K14 cl ⟨14,none,Try.f14.ntmps,X 14⟩ (paramsEnv 0 [a0,a1] .nil) [] s) :=
  enterA_eq (b:=Try.f14.body.getD .skip) (by kernel_rfl) (by kernel_rfl) (by kernel_rfl) (by kernel_rfl) (by kernel_rfl)
def K44r0:OpsF:=(oVal (.tmp 2) (kBox (tag 27) (.tmp 0)) (oVal (.tmp 3) (kBox (tag 3) (.tmp 1)) (oVal (.tmp 4) (kMove (.con .nilfunc)) oNil)))
def K44r1:OpsF:=(oVal (.tmp 5) (kFunc 64 [] [(.tmp 2),(.tmp 3)]) (oVal (.tmp 4) (kMove (.tmp 5)) oNil))
theorem res44:Try.f44.results.toList=[.tmp 4]:=by kernel_rfl
def K44:K:=(kSeq (kRegion K44r0 [2,3,4]) (kSeq (kRegion K44r1 [4]) kRet))
theorem enter44 (cl:CallF) (a0 a1:AV) (s:St):enterA Try.prog X cl 44 [a0,a1] s Try.f44=finA Try.prog Try.f44 (K44 cl ⟨44,none,Try.f44.ntmps,X 44⟩ (paramsEnv 0 [a0,a1] .nil) [] s) :=
  enterA_eq (b:=Try.f44.body.getD .skip) (by kernel_rfl) (by kernel_rfl) (by kernel_rfl) (by kernel_rfl) (by kernel_rfl)
def K64r0:OpsF:=(oVal (.tmp 6) (kUn (fadA 2) (.tmp 1)) (oVal (.tmp 7) (kLoad none (.tmp 6)) (oVal (.tmp 8) (kUn lenSlA (.tmp 7)) (oVal (.tmp 9) (kMove (.con (.int .i64 0))) oNil))))
def K64r1:OpsF:=(oVal (.tmp 10) (kInt aLss (.tmp 9) (.tmp 8)) oNil)
def K64r2:OpsF:=(oVal (.tmp 11) (kTwo (ixsA 6) (.tmp 7) (.tmp 9)) (oVal (.tmp 12) (kLoad (some 6) (.tmp 11)) (oVal (.tmp 5) (kAlloc [(.int .i64 0),(.int .i64 0),(.int .i64 0),(.int .i64 0),(.int .i64 0),(.int .i64 0)] (tag 51)) (oVal .none (kStore 6 (.tmp 5) (.tmp 12)) oNil))))
def K64r3s15:OpsF:=(oVal (.tmp 28) (kPick (.tmp 23) (.tmp 27) (.con (.bool false))) oNil)
def K64r3s14:OpsF:=(oIf 23 true (oVal (.tmp 27) (kUn notA (.tmp 26)) K64r3s15) (oSkip (.tmp 27) K64r3s15))
def K64r3s13:OpsF:=(oIf 23 true (oCall (.tmp 26) (.tmp 24) [(.tmp 25)] K64r3s14) (oSkip (.tmp 26) K64r3s14))
def K64r3s12:OpsF:=(oIf 23 true (oVal (.tmp 25) (kLoad (some 6) (.tmp 5)) K64r3s13) (oSkip (.tmp 25) K64r3s13))
def K64r3s9:OpsF:=(oVal (.tmp 22) (kPick (.tmp 17) (.tmp 21) (.con (.bool false))) (oVal (.tmp 23) (kMove (.tmp 22)) (oIf 23 true (oVal (.tmp 24) (kMove (.tmp 0)) K64r3s12) (oSkip (.tmp 24) K64r3s12))))
def K64r3s8:OpsF:=(oIf 17 true (oVal (.tmp 21) (kGtr (.tmp 20) (.con (.int .i64 0))) K64r3s9) (oSkip (.tmp 21) K64r3s9))
def K64r3s7:OpsF:=(oIf 17 true (oVal (.tmp 20) (kLoad none (.tmp 19)) K64r3s8) (oSkip (.tmp 20) K64r3s8))
def K64r3s6:OpsF:=(oIf 17 true (oVal (.tmp 19) (kUn (fadA 1) (.tmp 18)) K64r3s7) (oSkip (.tmp 19) K64r3s7))
def K64r3:OpsF:=(oVal (.tmp 13) (kUn (fadA 1) (.tmp 5)) (oVal (.tmp 14) (kLoad none (.tmp 13)) (oVal (.tmp 15) (kLoad none (.tmp 2)) (oVal (.tmp 16) (kInt aEql (.tmp 14) (.tmp 15)) (oVal (.tmp 17) (kMove (.tmp 16)) (oIf 17 true (oVal (.tmp 18) (kUn (fadA 2) (.tmp 5)) K64r3s6) (oSkip (.tmp 18) K64r3s6)))))))
def K64r4:OpsF:=(oVal (.tmp 29) (kInt aAdd (.tmp 9) (.con (.int .i64 1))) (oVal (.tmp 9) (kMove (.tmp 29)) oNil))
def K64l0:K:=(kSeq (kRegion K64r1 [10]) (kSeq (kCond (.tmp 10) kSkip (kExit 0)) (kSeq (kBlock 1 (kSeq (kRegion K64r2 [5]) (kSeq (kRegion K64r3 [28]) (kCond (.tmp 28) kRet kSkip)))) (kRegion K64r4 [9]))))
theorem res64:Try.f64.results.toList=[]:=by kernel_rfl
def K64:K:=(kSeq (kRegion K64r0 [7,8,9]) (kBlock 0 (kLoop K64l0)))
theorem enter64 (cl:CallF) (a0 a1 a2:AV) (s:St):enterA Try.prog X cl 64 [a0,a1,a2] s Try.f64=finA Try.prog Try.f64 (K64 cl ⟨64,none,Try.f64.ntmps,X 64⟩ (paramsEnv 0 [a0,a1,a2] .nil) [] s) :=
  enterA_eq (b:=Try.f64.body.getD .skip) (by kernel_rfl) (by kernel_rfl) (by kernel_rfl) (by kernel_rfl) (by kernel_rfl)
def K45r0:OpsF:=(oVal (.tmp 2) (kBox (tag 82) (.tmp 0)) (oVal (.tmp 3) (kMove (.con (.int .i64 0))) oNil))
def K45r1:OpsF:=(oVal (.tmp 4) (kLoad (some 2) (.tmp 2)) (oVal (.tmp 5) (kLoad none (.tmp 1)) (oCall (.tmp 6) (.con (.func 46 [] [])) [(.tmp 4),(.tmp 5)] (oVal (.tmp 3) (kMove (.tmp 6)) oNil))))
theorem res45:Try.f45.results.toList=[.tmp 3]:=by kernel_rfl
def K45:K:=(kSeq (kRegion K45r0 [2,3]) (kSeq (kRegion K45r1 [3]) kRet))
theorem enter45 (cl:CallF) (a0 a1:AV) (s:St):enterA Try.prog X cl 45 [a0,a1] s Try.f45=finA Try.prog Try.f45 (K45 cl ⟨45,none,Try.f45.ntmps,X 45⟩ (paramsEnv 0 [a0,a1] .nil) [] s) :=
  enterA_eq (b:=Try.f45.body.getD .skip) (by kernel_rfl) (by kernel_rfl) (by kernel_rfl) (by kernel_rfl) (by kernel_rfl)
def K47r0:OpsF:=(oVal (.tmp 2) (kBox (tag 82) (.tmp 0)) (oVal (.tmp 3) (kMove (.con (.int .i64 0))) oNil))
def K47r1:OpsF:=(oVal (.tmp 4) (kLoad (some 2) (.tmp 2)) (oVal (.tmp 5) (kLoad none (.tmp 1)) (oCall (.tmp 6) (.con (.func 48 [] [])) [(.tmp 4),(.tmp 5)] (oVal (.tmp 3) (kMove (.tmp 6)) oNil))))
theorem res47:Try.f47.results.toList=[.tmp 3]:=by kernel_rfl
def K47:K:=(kSeq (kRegion K47r0 [2,3]) (kSeq (kRegion K47r1 [3]) kRet))
theorem enter47 (cl:CallF) (a0 a1:AV) (s:St):enterA Try.prog X cl 47 [a0,a1] s Try.f47=finA Try.prog Try.f47 (K47 cl ⟨47,none,Try.f47.ntmps,X 47⟩ (paramsEnv 0 [a0,a1] .nil) [] s) :=
  enterA_eq (b:=Try.f47.body.getD .skip) (by kernel_rfl) (by kernel_rfl) (by kernel_rfl) (by kernel_rfl) (by kernel_rfl)
def K46r0:OpsF:=(oVal (.tmp 2) (kBox (tag 82) (.tmp 0)) (oVal (.tmp 4) (kMove (.con (.int .i64 0))) oNil))
def K46r1:OpsF:=(oVal (.tmp 5) (kAlloc [(.int .i64 0)] (tag 3)) (oVal .none (kStore 1 (.tmp 5) (.con (.int .i64 0))) oNil))
def K46r2:OpsF:=(oVal (.tmp 7) (kMove (.tmp 1)) oNil)
def K46r3:OpsF:=(oVal (.tmp 15) (kLoad none (.tmp 5)) (oVal (.tmp 4) (kMove (.tmp 15)) oNil))
theorem res46:Try.f46.results.toList=[.tmp 4]:=by kernel_rfl
def K46:K:=(kSeq (kRegion K46r0 [2,4]) (kSeq (kRegion K46r1 [5]) (kSeq (kSeq (kRegion K46r2 [7]) (kBlock 0 (kRange (.tmp 7) [8] (rangeAt Try.f46 0).1 (rangeAt Try.f46 0).2))) (kSeq (kRegion K46r3 [4]) kRet))))
theorem enter46 (cl:CallF) (a0 a1:AV) (s:St):enterA Try.prog X cl 46 [a0,a1] s Try.f46=finA Try.prog Try.f46 (K46 cl ⟨46,none,Try.f46.ntmps,X 46⟩ (paramsEnv 0 [a0,a1] .nil) [] s) :=
  enterA_eq (b:=Try.f46.body.getD .skip) (by kernel_rfl) (by kernel_rfl) (by kernel_rfl) (by kernel_rfl) (by kernel_rfl)
def K46a0r0:OpsF:=(oVal (.tmp 6) (kAlloc [(.int .i64 0),(.int .i64 0),(.int .i64 0),(.int .i64 0),(.int .i64 0),(.int .i64 0)] (tag 51)) (oVal .none (kStore 6 (.tmp 6) (.tmp 8)) oNil))
def K46a0:K:=(kRegion K46a0r0 [6])
theorem code46a0:codeK Try.prog (X 46) Try.f46.ntmps (rangeAt Try.f46 0).1=some K46a0:=by kernel_rfl
def K46b0r0:OpsF:=(oEnd [] (oVal (.tmp 9) (kLoad none (.tmp 5)) (oVal (.tmp 10) (kLoad (some 2) (.tmp 2)) (oVal (.tmp 11) (kLoad (some 6) (.tmp 6)) (oCallT (some [5]) (.tmp 12) (.con (.func 62 [] [])) [(.tmp 10),(.tmp 11)] (oVal (.tmp 13) (kTwo (indA 2 1 none) (.tmp 12) (.con (.int .i64 0))) (oVal (.tmp 14) (kInt aAdd (.tmp 9) (.tmp 13)) (oVal .none (kStore 1 (.tmp 5) (.tmp 14)) oNil))))))))
def K46b0:K:=(kBlock 1 (kRegionD K46b0r0 []))
theorem code46b0:codeK Try.prog (X 46) Try.f46.ntmps (rangeAt Try.f46 0).2=some K46b0:=by kernel_rfl
def K48r0:OpsF:=(oVal (.tmp 2) (kBox (tag 82) (.tmp 0)) (oVal (.tmp 3) (kBox (tag 89) (.tmp 1)) (oVal (.tmp 4) (kMove (.con (.int .i64 0))) oNil)))
def K48r1:OpsF:=(oVal (.tmp 6) (kFunc 65 [] [(.tmp 3),(.tmp 2)]) (oVal (.tmp 5) (kAlloc [.nilfunc] (tag 108)) (oVal .none (kStore 1 (.tmp 5) (.tmp 6)) oNil)))
def K48r2:OpsF:=(oVal (.tmp 7) (kFunc 68 [] [(.tmp 3),(.tmp 2),(.tmp 5)]) (oCall (.tmp 8) (.con (.func 67 [] [])) [(.tmp 7)] (oVal (.tmp 4) (kMove (.tmp 8)) oNil)))
theorem res48:Try.f48.results.toList=[.tmp 4]:=by kernel_rfl
def K48:K:=(kSeq (kRegion K48r0 [2,3,4]) (kSeq (kRegion K48r1 [5]) (kSeq (kRegion K48r2 [4]) kRet)))
theorem enter48 (cl:CallF) (a0 a1:AV) (s:St):enterA Try.prog X cl 48 [a0,a1] s Try.f48=finA Try.prog Try.f48 (K48 cl ⟨48,none,Try.f48.ntmps,X 48⟩ (paramsEnv 0 [a0,a1] .nil) [] s) :=
  enterA_eq (b:=Try.f48.body.getD .skip) (by kernel_rfl) (by kernel_rfl) (by kernel_rfl) (by kernel_rfl) (by kernel_rfl)
def K65r0:OpsF:=(oVal (.tmp 3) (kBox (tag 3) (.tmp 0)) (oVal (.tmp 4) (kMove (.con (.bool false))) oNil))
def K65r1:OpsF:=(oVal (.tmp 5) (kAlloc [(.int .i64 0)] (tag 3)) (oVal (.tmp 6) (kAlloc [(.int .i64 0)] (tag 3)) (oVal .none (kStore 1 (.tmp 5) (.con (.int .i64 0))) (oVal .none (kStore 1 (.tmp 6) (.con (.int .i64 0))) oNil))))
def K65r2:OpsF:=(oVal (.tmp 9) (kLoad none (.tmp 1)) oNil)
def K65r3:OpsF:=(oVal (.tmp 27) (kLoad none (.tmp 5)) (oVal (.tmp 28) (kLoad none (.tmp 6)) (oVal (.tmp 29) (kInt aGeq (.tmp 27) (.tmp 28)) (oVal (.tmp 4) (kMove (.tmp 29)) oNil))))
theorem res65:Try.f65.results.toList=[.tmp 4]:=by kernel_rfl
def K65:K:=(kSeq (kRegion K65r0 [3,4]) (kSeq (kRegion K65r1 [5,6]) (kSeq (kSeq (kRegion K65r2 [9]) (kBlock 0 (kRange (.tmp 9) [10] (rangeAt Try.f65 0).1 (rangeAt Try.f65 0).2))) (kSeq (kRegion K65r3 [4]) kRet))))
theorem enter65 (cl:CallF) (a0 a1 a2:AV) (s:St):enterA Try.prog X cl 65 [a0,a1,a2] s Try.f65=finA Try.prog Try.f65 (K65 cl ⟨65,none,Try.f65.ntmps,X 65⟩ (paramsEnv 0 [a0,a1,a2] .nil) [] s) :=
  enterA_eq (b:=Try.f65.body.getD .skip) (by kernel_rfl) (by kernel_rfl) (by kernel_rfl) (by kernel_rfl) (by kernel_rfl)
def K65a0r0:OpsF:=(oVal (.tmp 7) (kAlloc [(.int .i64 0),(.int .i64 0),(.int .i64 0),(.int .i64 0),(.int .i64 0),(.int .i64 0)] (tag 51)) (oVal .none (kStore 6 (.tmp 7) (.tmp 10)) oNil))
def K65a0:K:=(kRegion K65a0r0 [7])
theorem code65a0:codeK Try.prog (X 65) Try.f65.ntmps (rangeAt Try.f65 0).1=some K65a0:=by kernel_rfl
def K65b0r0:OpsF:=(oVal (.tmp 11) (kLoad (some 2) (.tmp 2)) (oVal (.tmp 12) (kLoad (some 6) (.tmp 7)) (oVal (.tmp 13) (kLoad none (.tmp 3)) (oCall (.tmp 14) (.con (.func 66 [] [])) [(.tmp 11),(.tmp 12),(.tmp 13)] (oVal (.tmp 8) (kAlloc [(.int .i64 0),(.int .i64 0)] (tag 103)) (oVal .none (kStore 2 (.tmp 8) (.tmp 14)) oNil))))))
def K65b0r1:OpsF:=(oVal (.tmp 15) (kTwo (ixaA 2 1) (.tmp 8) (.con (.int .i64 1))) (oVal (.tmp 16) (kLoad none (.tmp 15)) (oVal (.tmp 17) (kLoad none (.tmp 3)) (oVal (.tmp 18) (kInt aLeq (.tmp 16) (.tmp 17)) oNil))))
def K65b0r2:OpsF:=(oVal (.tmp 19) (kLoad none (.tmp 5)) (oVal (.tmp 20) (kTwo (ixaA 2 1) (.tmp 8) (.con (.int .i64 0))) (oVal (.tmp 21) (kLoad none (.tmp 20)) (oVal (.tmp 22) (kInt aAdd (.tmp 19) (.tmp 21)) (oVal .none (kStore 1 (.tmp 5) (.tmp 22)) oNil)))))
def K65b0r3:OpsF:=(oVal (.tmp 23) (kLoad none (.tmp 6)) (oVal (.tmp 24) (kTwo (ixaA 2 1) (.tmp 8) (.con (.int .i64 0))) (oVal (.tmp 25) (kLoad none (.tmp 24)) (oVal (.tmp 26) (kInt aAdd (.tmp 23) (.tmp 25)) (oVal .none (kStore 1 (.tmp 6) (.tmp 26)) oNil)))))
def K65b0:K:=(kBlock 1 (kSeq (kRegion K65b0r0 [8]) (kSeq (kRegion K65b0r1 [18]) (kCond (.tmp 18) (kRegion K65b0r2 []) (kRegion K65b0r3 [])))))
theorem code65b0:codeK Try.prog (X 65) Try.f65.ntmps (rangeAt Try.f65 0).2=some K65b0:=by kernel_rfl
def K68r0:OpsF:=(oVal (.tmp 4) (kBox (tag 108) (.tmp 0)) oNil)
def K68r1:OpsF:=(oVal (.tmp 7) (kLoad none (.tmp 1)) oNil)
theorem res68:Try.f68.results.toList=[]:=by kernel_rfl
def K68:K:=(kSeq (kRegion K68r0 [4]) (kSeq (kRegion K68r1 [7]) (kBlock 0 (kRange (.tmp 7) [8] (rangeAt Try.f68 0).1 (rangeAt Try.f68 0).2))))
theorem enter68 (cl:CallF) (a0 a1 a2 a3:AV) (s:St):enterA Try.prog X cl 68 [a0,a1,a2,a3] s Try.f68=finA Try.prog Try.f68 (K68 cl ⟨68,none,Try.f68.ntmps,X 68⟩ (paramsEnv 0 [a0,a1,a2,a3] .nil) [] s) :=
  enterA_eq (b:=Try.f68.body.getD .skip) (by kernel_rfl) (by kernel_rfl) (by kernel_rfl) (by kernel_rfl) (by kernel_rfl)
def K68a0r0:OpsF:=(oVal (.tmp 5) (kAlloc [(.int .i64 0),(.int .i64 0),(.int .i64 0),(.int .i64 0),(.int .i64 0),(.int .i64 0)] (tag 51)) (oVal .none (kStore 6 (.tmp 5) (.tmp 8)) oNil))
def K68a0:K:=(kRegion K68a0r0 [5])
theorem code68a0:codeK Try.prog (X 68) Try.f68.ntmps (rangeAt Try.f68 0).1=some K68a0:=by kernel_rfl
def K68b0r0:OpsF:=(oVal (.tmp 9) (kLoad (some 2) (.tmp 2)) (oVal (.tmp 10) (kLoad (some 6) (.tmp 5)) (oCall (.tmp 11) (.con (.func 62 [] [])) [(.tmp 9),(.tmp 10)] (oVal (.tmp 12) (kTwo (indA 2 1 none) (.tmp 11) (.con (.int .i64 1))) (oVal (.tmp 6) (kMove (.tmp 12)) oNil)))))
def K68b0r1s8:OpsF:=(oVal (.tmp 21) (kPick (.tmp 16) (.tmp 20) (.con (.bool false))) oNil)
def K68b0r1s7:OpsF:=(oIf 16 true (oVal (.tmp 20) (kUn notA (.tmp 19)) K68b0r1s8) (oSkip (.tmp 20) K68b0r1s8))
def K68b0r1s6:OpsF:=(oIf 16 true (oCall (.tmp 19) (.tmp 17) [(.tmp 18)] K68b0r1s7) (oSkip (.tmp 19) K68b0r1s7))
def K68b0r1s5:OpsF:=(oIf 16 true (oVal (.tmp 18) (kMove (.tmp 6)) K68b0r1s6) (oSkip (.tmp 18) K68b0r1s6))
def K68b0r1:OpsF:=(oVal (.tmp 13) (kLoad none (.tmp 3)) (oVal (.tmp 14) (kMove (.tmp 6)) (oCall (.tmp 15) (.tmp 13) [(.tmp 14)] (oVal (.tmp 16) (kMove (.tmp 15)) (oIf 16 true (oVal (.tmp 17) (kLoad none (.tmp 4)) K68b0r1s5) (oSkip (.tmp 17) K68b0r1s5))))))
def K68b0:K:=(kBlock 1 (kSeq (kRegion K68b0r0 [6]) (kSeq (kRegion K68b0r1 [21]) (kCond (.tmp 21) kRet kSkip))))
theorem code68b0:codeK Try.prog (X 68) Try.f68.ntmps (rangeAt Try.f68 0).2=some K68b0:=by kernel_rfl
def K66r0:OpsF:=(oVal (.tmp 3) (kBox (tag 82) (.tmp 0)) (oVal (.tmp 4) (kBox (tag 51) (.tmp 1)) (oVal (.tmp 6) (kAlloc [(.int .i64 0),(.int .i64 0)] (tag 103)) oNil)))
def K66r1:OpsF:=(oVal (.tmp 8) (kLoad (some 2) (.tmp 3)) (oVal (.tmp 9) (kLoad (some 6) (.tmp 4)) (oCall (.tmp 10) (.con (.func 62 [] [])) [(.tmp 8),(.tmp 9)] (oVal (.tmp 7) (kAlloc [(.int .i64 0),(.int .i64 0)] (tag 103)) (oVal .none (kStore 2 (.tmp 7) (.tmp 10)) oNil)))))
def K66r2:OpsF:=(oVal (.tmp 11) (kTwo (ixaA 2 1) (.tmp 7) (.con (.int .i64 1))) (oVal (.tmp 12) (kLoad none (.tmp 11)) (oVal (.tmp 13) (kMove (.tmp 2)) (oVal (.tmp 14) (kInt aLeq (.tmp 12) (.tmp 13)) oNil))))
def K66r3:OpsF:=(oVal (.tmp 15) (kUn (fadA 1) (.tmp 3)) (oVal (.tmp 16) (kLoad none (.tmp 15)) (oVal (.tmp 17) (kUn (fadA 2) (.tmp 4)) (oVal (.tmp 18) (kLoad (some 2) (.tmp 17)) (oCall (.tmp 19) (.tmp 16) [(.tmp 18)] (oVal (.tmp 20) (kTwo (ixaA 2 1) (.tmp 7) (.con (.int .i64 0))) (oVal .none (kStore 1 (.tmp 20) (.tmp 19)) oNil)))))))
def K66r4:OpsF:=(oVal (.tmp 21) (kLoad (some 2) (.tmp 7)) (oVal .none (kStore 2 (.tmp 6) (.tmp 21)) oNil))
theorem res66:Try.f66.results.toList=[.cell 6 103]:=by kernel_rfl
def K66:K:=(kSeq (kRegion K66r0 [3,4,6]) (kSeq (kRegion K66r1 [7]) (kSeq (kSeq (kRegion K66r2 [14]) (kCond (.tmp 14) (kRegion K66r3 []) kSkip)) (kSeq (kRegion K66r4 []) kRet))))
theorem enter66 (cl:CallF) (a0 a1 a2:AV) (s:St):enterA Try.prog X cl 66 [a0,a1,a2] s Try.f66=finA Try.prog Try.f66 (K66 cl ⟨66,none,Try.f66.ntmps,X 66⟩ (paramsEnv 0 [a0,a1,a2] .nil) [] s) :=
  enterA_eq (b:=Try.f66.body.getD .skip) (by kernel_rfl) (by kernel_rfl) (by kernel_rfl) (by kernel_rfl) (by kernel_rfl)
def K67r0:OpsF:=(oVal (.tmp 2) (kMove (.con (.int .i64 0))) oNil)
def K67r1:OpsF:=(oVal (.tmp 3) (kAlloc [(.int .i64 0)] (tag 3)) oNil)
def K67r2:OpsF:=(oVal (.tmp 4) (kAlloc [(.bool false)] (tag 4)) (oVal .none (kStore 1 (.tmp 4) (.con (.bool false))) oNil))
def K67r3:OpsF:=(oVal (.tmp 6) (kMove (.tmp 0)) oNil)
def K67r4:OpsF:=(oVal (.tmp 16) (kLoad none (.tmp 3)) (oVal (.tmp 2) (kMove (.tmp 16)) oNil))
theorem res67:Try.f67.results.toList=[.tmp 2]:=by kernel_rfl
def K67:K:=(kSeq (kRegion K67r0 [2]) (kSeq (kRegion K67r1 [3]) (kSeq (kRegion K67r2 [4]) (kSeq (kSeq (kRegion K67r3 [6]) (kBlock 0 (kRange (.tmp 6) [7] (rangeAt Try.f67 0).1 (rangeAt Try.f67 0).2))) (kSeq (kRegion K67r4 [2]) kRet)))))
theorem enter67 (cl:CallF) (a0:AV) (s:St):enterA Try.prog X cl 67 [a0] s Try.f67=finA Try.prog Try.f67 (K67 cl ⟨67,none,Try.f67.ntmps,X 67⟩ (paramsEnv 0 [a0] .nil) [] s) :=
  enterA_eq (b:=Try.f67.body.getD .skip) (by kernel_rfl) (by kernel_rfl) (by kernel_rfl) (by kernel_rfl) (by kernel_rfl)
def K67a0r0:OpsF:=(oVal (.tmp 5) (kMove (.tmp 7)) oNil)
def K67a0:K:=(kRegion K67a0r0 [5])
theorem code67a0:codeK Try.prog (X 67) Try.f67.ntmps (rangeAt Try.f67 0).1=some K67a0:=by kernel_rfl
def K67b0r0s6:OpsF:=(oVal (.tmp 14) (kPick (.tmp 10) (.con (.bool true)) (.tmp 13)) oNil)
def K67b0r0s5:OpsF:=(oIf 10 false (oVal (.tmp 13) (kInt aLss (.tmp 11) (.tmp 12)) K67b0r0s6) (oSkip (.tmp 13) K67b0r0s6))
def K67b0r0s4:OpsF:=(oIf 10 false (oVal (.tmp 12) (kLoad none (.tmp 3)) K67b0r0s5) (oSkip (.tmp 12) K67b0r0s5))
def K67b0r0:OpsF:=(oVal (.tmp 8) (kLoad none (.tmp 4)) (oVal (.tmp 9) (kUn notA (.tmp 8)) (oVal (.tmp 10) (kMove (.tmp 9)) (oIf 10 false (oVal (.tmp 11) (kMove (.tmp 5)) K67b0r0s4) (oSkip (.tmp 11) K67b0r0s4)))))
def K67b0r1:OpsF:=(oVal (.tmp 15) (kMove (.tmp 5)) (oVal .none (kStore 1 (.tmp 3) (.tmp 15)) (oVal .none (kStore 1 (.tmp 4) (.con (.bool true))) oNil)))
def K67b0:K:=(kBlock 1 (kSeq (kRegion K67b0r0 [14]) (kCond (.tmp 14) (kRegion K67b0r1 []) kSkip)))
theorem code67b0:codeK Try.prog (X 67) Try.f67.ntmps (rangeAt Try.f67 0).2=some K67b0:=by kernel_rfl
def K49r0:OpsF:=(oVal (.tmp 4) (kMove (.con (.int .i64 0))) oNil)
def K49r1:OpsF:=(oVal (.tmp 6) (kMove (.tmp 1)) (oVal (.tmp 5) (kMove (.tmp 6)) oNil))
def K49r2:OpsF:=(oVal (.tmp 4) (kMove (.con (.int .i64 1))) oNil)
def K49r3:OpsF:=(oVal (.tmp 8) (kMove (.tmp 0)) (oVal (.tmp 7) (kMove (.tmp 8)) oNil))
def K49r4:OpsF:=(oVal (.tmp 4) (kMove (.con (.int .i64 3))) oNil)
def K49r5:OpsF:=(oVal (.tmp 4) (kMove (.con (.int .i64 2))) oNil)
theorem res49:Try.f49.results.toList=[.tmp 4]:=by kernel_rfl
def K49:K:=(kSeq (kRegion K49r0 [4]) (kSeq (kBlock 0 (kSeq (kRegion K49r1 [5]) (kCond (.tmp 5) (kSeq (kRegion K49r2 [4]) kRet) (kSeq (kRegion K49r3 [7]) (kCond (.tmp 7) (kSeq (kRegion K49r4 [4]) kRet) kSkip))))) (kSeq (kRegion K49r5 [4]) kRet)))
theorem enter49 (cl:CallF) (a0 a1:AV) (s:St):enterA Try.prog X cl 49 [a0,a1] s Try.f49=finA Try.prog Try.f49 (K49 cl ⟨49,none,Try.f49.ntmps,X 49⟩ (paramsEnv 0 [a0,a1] .nil) [] s) :=
  enterA_eq (b:=Try.f49.body.getD .skip) (by kernel_rfl) (by kernel_rfl) (by kernel_rfl) (by kernel_rfl) (by kernel_rfl)
end
end Go.Proofs.Ytamlnddeiokbdaa.code
set_option maxRecDepth 100000
namespace Go.Proofs.Ytamlnddeiokbdaa.code
open Go.Abs
noncomputable section
end
end Go.Proofs.Ytamlnddeiokbdaa.code
set_option maxRecDepth 100000
namespace Go.Proofs.Ytamlnddeiokbdaa.code
open Go.Abs
noncomputable section
def K4r2:OpsF:=(oVal (.tmp 27) (kMove (.tmp 3)) (oCall (.tmp 28) (.con (.func 10 [] [])) [(.tmp 27),(.con (.int .i64 3)),(.con (.int .i64 3)),(.con (.int .i64 10))] (oVal (.tmp 4) (kAlloc [(.int .i64 0),(.int .i64 0),.nilslice] (tag 27)) (oVal .none (kStore 3 (.tmp 4) (.tmp 28)) oNil))))
def K4r3:OpsF:=(oVal (.tmp 29) (kMove (.tmp 3)) (oCall (.tmp 30) (.con (.func 11 [] [])) [(.tmp 29),(.con (.int .i64 4))] (oVal (.tmp 5) (kMove (.tmp 30)) oNil)))
def K4r4:OpsF:=(oVal (.tmp 32) (kLoad (some 3) (.tmp 4)) (oVal (.tmp 33) (kMove (.tmp 5)) (oCall (.tmp 34) (.con (.func 12 [] [])) [(.tmp 32),(.tmp 33)] (oVal (.tmp 31) (kMove (.tmp 34)) (oVal (.tmp 35) (kUn (extA 0) (.tmp 31)) (oVal (.tmp 36) (kUn (extA 1) (.tmp 31)) (oVal (.tmp 6) (kMove (.tmp 35)) (oVal (.tmp 7) (kMove (.tmp 36)) oNil))))))))
def K4r5s8:OpsF:=(oVal (.tmp 45) (kPick (.tmp 39) (.con (.bool true)) (.tmp 44)) oNil)
def K4r5s7:OpsF:=(oIf 39 false (oVal (.tmp 44) (kInt aNeq (.tmp 41) (.tmp 43)) K4r5s8) (oSkip (.tmp 44) K4r5s8))
def K4r5s6:OpsF:=(oIf 39 false (oVal (.tmp 43) (kLoad none (.tmp 42)) K4r5s7) (oSkip (.tmp 43) K4r5s7))
def K4r5s5:OpsF:=(oIf 39 false (oVal (.tmp 42) (kUn (fadA 0) (.tmp 4)) K4r5s6) (oSkip (.tmp 42) K4r5s6))
def K4r5s4:OpsF:=(oIf 39 false (oVal (.tmp 41) (kUn lenSlA (.tmp 40)) K4r5s5) (oSkip (.tmp 41) K4r5s5))
def K4r5:OpsF:=(oVal (.tmp 37) (kMove (.tmp 7)) (oVal (.tmp 38) (kInt aNeq (.tmp 37) (.con (.int .i64 0))) (oVal (.tmp 39) (kMove (.tmp 38)) (oIf 39 false (oVal (.tmp 40) (kMove (.tmp 6)) K4r5s4) (oSkip (.tmp 40) K4r5s4)))))
def K4r6:OpsF:=(oVal (.tmp 2) (kMove (.con (.bool false))) oNil)
def K4r7:OpsF:=(oVal (.tmp 8) (kMove (.con (.int .i64 0))) oNil)
def K4r8:OpsF:=(oVal (.tmp 46) (kMove (.tmp 8)) (oVal (.tmp 47) (kUn (fadA 1) (.tmp 4)) (oVal (.tmp 48) (kLoad none (.tmp 47)) (oVal (.tmp 49) (kInt aLss (.tmp 46) (.tmp 48)) oNil))))
def K4r9:OpsF:=(oVal (.tmp 53) (kLoad (some 3) (.tmp 4)) (oVal (.tmp 54) (kMove (.tmp 8)) (oCall (.tmp 55) (.con (.func 14 [] [])) [(.tmp 53),(.tmp 54)] (oVal (.tmp 52) (kMove (.tmp 55)) (oVal (.tmp 56) (kUn (extA 0) (.tmp 52)) (oVal (.tmp 57) (kUn (extA 1) (.tmp 52)) (oVal (.tmp 58) (kUn (extA 2) (.tmp 52)) (oVal (.tmp 10) (kAlloc [(.int .i64 0),(.int .i64 0)] (tag 38)) (oVal (.tmp 9) (kMove (.tmp 56)) (oVal .none (kStore 2 (.tmp 10) (.tmp 57)) (oVal (.tmp 11) (kMove (.tmp 58)) oNil)))))))))))
def K4r10:OpsF:=(oVal (.tmp 59) (kMove (.tmp 11)) (oVal (.tmp 60) (kInt aNeq (.tmp 59) (.con (.int .i64 0))) oNil))
def K4r11:OpsF:=(oVal (.tmp 2) (kMove (.con (.bool false))) oNil)
def K4r12:OpsF:=(oVal (.tmp 12) (kMove (.con (.int .i64 0))) (oVal (.tmp 13) (kMove (.con (.int .i64 0))) oNil))
def K4r13:OpsF:=(oVal (.tmp 14) (kMove (.con (.int .i64 0))) oNil)
def K4r14:OpsF:=(oVal (.tmp 61) (kMove (.tmp 14)) (oVal (.tmp 62) (kUn (fadA 2) (.tmp 4)) (oVal (.tmp 63) (kLoad none (.tmp 62)) (oVal (.tmp 64) (kUn lenSlA (.tmp 63)) (oVal (.tmp 65) (kInt aLss (.tmp 61) (.tmp 64)) oNil)))))
def K4r15:OpsF:=(oVal (.tmp 68) (kUn (fadA 2) (.tmp 4)) (oVal (.tmp 69) (kLoad none (.tmp 68)) (oVal (.tmp 70) (kMove (.tmp 14)) (oVal (.tmp 71) (kTwo (ixsA 6) (.tmp 69) (.tmp 70)) (oVal (.tmp 72) (kUn (fadA 1) (.tmp 71)) (oVal (.tmp 73) (kLoad none (.tmp 72)) (oVal (.tmp 74) (kMove (.tmp 8)) (oVal (.tmp 75) (kInt aEql (.tmp 73) (.tmp 74)) oNil))))))))
def K4r16:OpsF:=(oEnd [] (oVal (.tmp 76) (kMove (.tmp 12)) (oVal (.tmp 77) (kUn (fadA 2) (.tmp 4)) (oVal (.tmp 78) (kLoad none (.tmp 77)) (oVal (.tmp 79) (kMove (.tmp 14)) (oVal (.tmp 80) (kTwo (ixsA 6) (.tmp 78) (.tmp 79)) (oVal (.tmp 81) (kUn (fadA 2) (.tmp 80)) (oVal (.tmp 82) (kUn (fadA 0) (.tmp 81)) (oVal (.tmp 83) (kLoad none (.tmp 82)) (oVal (.tmp 84) (kInt aAdd (.tmp 76) (.tmp 83)) (oVal (.tmp 85) (kMove (.tmp 13)) (oVal (.tmp 86) (kUn (fadA 2) (.tmp 4)) (oVal (.tmp 87) (kLoad none (.tmp 86)) (oVal (.tmp 88) (kMove (.tmp 14)) (oVal (.tmp 89) (kTwo (ixsA 6) (.tmp 87) (.tmp 88)) (oVal (.tmp 90) (kUn (fadA 2) (.tmp 89)) (oVal (.tmp 91) (kUn (fadA 1) (.tmp 90)) (oVal (.tmp 92) (kLoad none (.tmp 91)) (oVal (.tmp 93) (kInt aAdd (.tmp 85) (.tmp 92)) (oVal (.tmp 12) (kMove (.tmp 84)) (oVal (.tmp 13) (kMove (.tmp 93)) oNil)))))))))))))))))))))
def K4r17:OpsF:=(oVal (.tmp 66) (kMove (.tmp 14)) (oVal (.tmp 67) (kInt aAdd (.tmp 66) (.con (.int .i64 1))) (oVal (.tmp 14) (kMove (.tmp 67)) oNil)))
def K4l0:K:=(kSeq (kSeq (kRegion K4r14 [65]) (kCond (.tmp 65) kSkip (kExit 2))) (kSeq (kBlock 3 (kSeq (kRegion K4r15 [75]) (kCond (.tmp 75) (kRegionD K4r16 [12,13]) kSkip))) (kRegion K4r17 [14])))
def K4r18:OpsF:=(oVal (.tmp 94) (kMove (.tmp 13)) (oVal (.tmp 95) (kInt aEql (.tmp 94) (.con (.int .i64 0))) oNil))
def K4r19s6:OpsF:=(oVal (.tmp 102) (kPick (.tmp 98) (.con (.bool true)) (.tmp 101)) oNil)
def K4r19s5:OpsF:=(oIf 98 false (oVal (.tmp 101) (kEql (.row [(0,none,.int),(1,none,.int)]) true (.tmp 99) (.tmp 100)) K4r19s6) (oSkip (.tmp 101) K4r19s6))
def K4r19s4:OpsF:=(oIf 98 false (oCallT (some [10]) (.tmp 100) (.con (.func 21 [] [])) [(.con (.int .i64 0))] K4r19s5) (oSkip (.tmp 100) K4r19s5))
def K4r19:OpsF:=(oEnd [] (oVal (.tmp 96) (kMove (.tmp 9)) (oVal (.tmp 97) (kInt aNeq (.tmp 96) (.con (.int .i64 2))) (oVal (.tmp 98) (kMove (.tmp 97)) (oIf 98 false (oVal (.tmp 99) (kLoad (some 2) (.tmp 10)) K4r19s4) (oSkip (.tmp 99) K4r19s4))))))
def K4r20:OpsF:=(oVal (.tmp 2) (kMove (.con (.bool false))) oNil)
def K4r21:OpsF:=(oEnd [] (oVal (.tmp 104) (kLoad (some 3) (.tmp 4)) (oVal (.tmp 105) (kLoad (some 3) (.tmp 4)) (oVal (.tmp 106) (kUn (fadA 0) (.tmp 10)) (oVal (.tmp 107) (kLoad none (.tmp 106)) (oCallT (some [4]) (.tmp 108) (.con (.func 22 [] [])) [(.tmp 105),(.tmp 107),(.con (.bool true))] (oVal (.tmp 109) (kMove (.tmp 8)) (oCall (.tmp 110) (.con (.func 15 [] [])) [(.tmp 104),(.tmp 108),(.tmp 109)] (oVal (.tmp 103) (kMove (.tmp 110)) (oVal (.tmp 111) (kUn (extA 0) (.tmp 103)) (oVal (.tmp 112) (kUn (extA 1) (.tmp 103)) (oVal (.tmp 15) (kMove (.tmp 111)) (oVal (.tmp 16) (kMove (.tmp 112)) oNil)))))))))))))
def K4r22:OpsF:=(oEnd [] (oVal (.tmp 114) (kLoad (some 3) (.tmp 4)) (oVal (.tmp 115) (kLoad (some 3) (.tmp 4)) (oVal (.tmp 116) (kUn (fadA 1) (.tmp 10)) (oVal (.tmp 117) (kLoad none (.tmp 116)) (oCallT (some [4]) (.tmp 118) (.con (.func 22 [] [])) [(.tmp 115),(.tmp 117),(.con (.bool false))] (oVal (.tmp 119) (kMove (.tmp 8)) (oCall (.tmp 120) (.con (.func 15 [] [])) [(.tmp 114),(.tmp 118),(.tmp 119)] (oVal (.tmp 113) (kMove (.tmp 120)) (oVal (.tmp 121) (kUn (extA 0) (.tmp 113)) (oVal (.tmp 122) (kUn (extA 1) (.tmp 113)) (oVal (.tmp 17) (kMove (.tmp 121)) (oVal (.tmp 18) (kMove (.tmp 122)) oNil)))))))))))))
def K4r23s32:OpsF:=(oVal (.tmp 155) (kPick (.tmp 148) (.con (.bool true)) (.tmp 154)) oNil)
def K4r23s31:OpsF:=(oIf 148 false (oVal (.tmp 154) (kPick (.tmp 151) (.tmp 153) (.con (.bool false))) K4r23s32) (oSkip (.tmp 154) K4r23s32))
def K4r23s30:OpsF:=(oIf 151 true (oVal (.tmp 153) (kInt aNeq (.tmp 152) (.con (.int .i64 3))) K4r23s31) (oSkip (.tmp 153) K4r23s31))
def K4r23s29:OpsF:=(oIf 151 true (oVal (.tmp 152) (kMove (.tmp 9)) K4r23s30) (oSkip (.tmp 152) K4r23s30))
def K4r23s28:OpsF:=(oIf 148 false (oVal (.tmp 151) (kMove (.tmp 150)) K4r23s29) (oSkip (.tmp 151) K4r23s29))
def K4r23s27:OpsF:=(oIf 148 false (oVal (.tmp 150) (kInt aNeq (.tmp 149) (.con (.int .i64 1))) K4r23s28) (oSkip (.tmp 150) K4r23s28))
def K4r23s24:OpsF:=(oVal (.tmp 147) (kPick (.tmp 141) (.con (.bool true)) (.tmp 146)) (oVal (.tmp 148) (kMove (.tmp 147)) (oIf 148 false (oVal (.tmp 149) (kMove (.tmp 9)) K4r23s27) (oSkip (.tmp 149) K4r23s27))))
def K4r23s23:OpsF:=(oIf 141 false (oVal (.tmp 146) (kEql .bool true (.tmp 143) (.tmp 145)) K4r23s24) (oSkip (.tmp 146) K4r23s24))
def K4r23s22:OpsF:=(oIf 141 false (oVal (.tmp 145) (kGtr (.tmp 144) (.con (.int .i64 0))) K4r23s23) (oSkip (.tmp 145) K4r23s23))
def K4r23s21:OpsF:=(oIf 141 false (oVal (.tmp 144) (kMove (.tmp 12)) K4r23s22) (oSkip (.tmp 144) K4r23s22))
def K4r23s20:OpsF:=(oIf 141 false (oVal (.tmp 143) (kInt aEql (.tmp 142) (.con (.int .i64 1))) K4r23s21) (oSkip (.tmp 143) K4r23s21))
def K4r23s17:OpsF:=(oVal (.tmp 140) (kPick (.tmp 135) (.con (.bool true)) (.tmp 139)) (oVal (.tmp 141) (kMove (.tmp 140)) (oIf 141 false (oVal (.tmp 142) (kMove (.tmp 9)) K4r23s20) (oSkip (.tmp 142) K4r23s20))))
def K4r23s16:OpsF:=(oIf 135 false (oVal (.tmp 139) (kInt aNeq (.tmp 136) (.tmp 138)) K4r23s17) (oSkip (.tmp 139) K4r23s17))
def K4r23s15:OpsF:=(oIf 135 false (oVal (.tmp 138) (kLoad none (.tmp 137)) K4r23s16) (oSkip (.tmp 138) K4r23s16))
def K4r23s14:OpsF:=(oIf 135 false (oVal (.tmp 137) (kUn (fadA 1) (.tmp 10)) K4r23s15) (oSkip (.tmp 137) K4r23s15))
def K4r23s11:OpsF:=(oVal (.tmp 134) (kPick (.tmp 129) (.con (.bool true)) (.tmp 133)) (oVal (.tmp 135) (kMove (.tmp 134)) (oIf 135 false (oVal (.tmp 136) (kMove (.tmp 17)) K4r23s14) (oSkip (.tmp 136) K4r23s14))))
def K4r23s10:OpsF:=(oIf 129 false (oVal (.tmp 133) (kInt aNeq (.tmp 130) (.tmp 132)) K4r23s11) (oSkip (.tmp 133) K4r23s11))
def K4r23s9:OpsF:=(oIf 129 false (oVal (.tmp 132) (kLoad none (.tmp 131)) K4r23s10) (oSkip (.tmp 132) K4r23s10))
def K4r23s8:OpsF:=(oIf 129 false (oVal (.tmp 131) (kUn (fadA 0) (.tmp 10)) K4r23s9) (oSkip (.tmp 131) K4r23s9))
def K4r23s5:OpsF:=(oVal (.tmp 128) (kPick (.tmp 125) (.con (.bool true)) (.tmp 127)) (oVal (.tmp 129) (kMove (.tmp 128)) (oIf 129 false (oVal (.tmp 130) (kMove (.tmp 15)) K4r23s8) (oSkip (.tmp 130) K4r23s8))))
def K4r23s4:OpsF:=(oIf 125 false (oVal (.tmp 127) (kUn notA (.tmp 126)) K4r23s5) (oSkip (.tmp 127) K4r23s5))
def K4r23:OpsF:=(oVal (.tmp 123) (kMove (.tmp 16)) (oVal (.tmp 124) (kUn notA (.tmp 123)) (oVal (.tmp 125) (kMove (.tmp 124)) (oIf 125 false (oVal (.tmp 126) (kMove (.tmp 18)) K4r23s4) (oSkip (.tmp 126) K4r23s4)))))
def K4r24:OpsF:=(oVal (.tmp 2) (kMove (.con (.bool false))) oNil)
def K4r25:OpsF:=(oVal (.tmp 50) (kMove (.tmp 8)) (oVal (.tmp 51) (kInt aAdd (.tmp 50) (.con (.int .i64 1))) (oVal (.tmp 8) (kMove (.tmp 51)) oNil)))
def K4l1:K:=(kSeq (kSeq (kRegion K4r8 [49]) (kCond (.tmp 49) kSkip (kExit 0))) (kSeq (kBlock 1 (kSeq (kRegion K4r9 [10,9,11]) (kSeq (kSeq (kRegion K4r10 [60]) (kCond (.tmp 60) (kSeq (kRegion K4r11 [2]) kRet) kSkip)) (kSeq (kRegion K4r12 [12,13]) (kSeq (kSeq (kRegion K4r13 [14]) (kBlock 2 (kLoop K4l0))) (kSeq (kSeq (kRegion K4r18 [95]) (kCond (.tmp 95) (kSeq (kSeq (kRegionD K4r19 [102]) (kCond (.tmp 102) (kSeq (kRegion K4r20 [2]) kRet) kSkip)) (kExit 1)) kSkip)) (kSeq (kRegionD K4r21 [15,16]) (kSeq (kRegionD K4r22 [17,18]) (kSeq (kRegion K4r23 [155]) (kCond (.tmp 155) (kSeq (kRegion K4r24 [2]) kRet) kSkip)))))))))) (kRegion K4r25 [8])))
def K4r26:OpsF:=(oEnd [] (oVal (.tmp 156) (kLoad (some 3) (.tmp 4)) (oCallT (some [4]) (.tmp 157) (.con (.func 22 [] [])) [(.tmp 156),(.con (.int .i64 (-1))),(.con (.bool true))] (oVal (.tmp 158) (kLoad (some 3) (.tmp 4)) (oCall (.tmp 159) (.con (.func 22 [] [])) [(.tmp 158),(.con (.int .i64 (-1))),(.con (.bool false))] (oVal (.tmp 19) (kMove (.tmp 157)) (oVal (.tmp 20) (kMove (.tmp 159)) oNil)))))))
def K4r27:OpsF:=(oVal (.tmp 21) (kMove (.con (.int .i64 0))) oNil)
def K4r28:OpsF:=(oVal (.tmp 160) (kMove (.tmp 21)) (oVal (.tmp 161) (kUn (fadA 0) (.tmp 4)) (oVal (.tmp 162) (kLoad none (.tmp 161)) (oVal (.tmp 163) (kInt aLss (.tmp 160) (.tmp 162)) oNil))))
def K4r29:OpsF:=(oVal (.tmp 167) (kLoad (some 3) (.tmp 4)) (oVal (.tmp 168) (kMove (.tmp 21)) (oCall (.tmp 169) (.con (.func 17 [] [])) [(.tmp 167),(.tmp 168)] (oVal (.tmp 166) (kMove (.tmp 169)) (oVal (.tmp 170) (kUn (extA 0) (.tmp 166)) (oVal (.tmp 171) (kUn (extA 1) (.tmp 166)) (oVal (.tmp 22) (kAlloc [(.int .i64 0),(.int .i64 0)] (tag 38)) (oVal .none (kStore 2 (.tmp 22) (.tmp 170)) (oVal (.tmp 23) (kMove (.tmp 171)) oNil)))))))))
def K4r30:OpsF:=(oEnd [] (oVal (.tmp 172) (kLoad (some 3) (.tmp 4)) (oVal (.tmp 173) (kMove (.tmp 19)) (oVal (.tmp 174) (kMove (.tmp 21)) (oCallT (some [4]) (.tmp 175) (.con (.func 18 [] [])) [(.tmp 172),(.tmp 173),(.tmp 174)] (oVal (.tmp 176) (kLoad (some 3) (.tmp 4)) (oVal (.tmp 177) (kMove (.tmp 20)) (oVal (.tmp 178) (kMove (.tmp 21)) (oCall (.tmp 179) (.con (.func 18 [] [])) [(.tmp 176),(.tmp 177),(.tmp 178)] (oCall (.tmp 180) (.con (.func 23 [] [])) [(.tmp 175),(.tmp 179)] (oVal (.tmp 24) (kAlloc [(.int .i64 0),(.int .i64 0)] (tag 38)) (oVal .none (kStore 2 (.tmp 24) (.tmp 180)) oNil))))))))))))
def K4r31s22:OpsF:=(oVal (.tmp 203) (kPick (.tmp 188) (.con (.bool true)) (.tmp 202)) oNil)
def K4r31s21:OpsF:=(oIf 188 false (oVal (.tmp 202) (kEql (.row [(0,none,.int),(1,none,.int)]) true (.tmp 192) (.tmp 201)) K4r31s22) (oSkip (.tmp 202) K4r31s22))
def K4r31s20:OpsF:=(oIf 188 false (oCallT (some [191]) (.tmp 201) (.con (.func 23 [] [])) [(.tmp 196),(.tmp 200)] K4r31s21) (oSkip (.tmp 201) K4r31s21))
def K4r31s19:OpsF:=(oIf 188 false (oCallT (some [191]) (.tmp 200) (.con (.func 19 [] [])) [(.tmp 197),(.tmp 199)] K4r31s20) (oSkip (.tmp 200) K4r31s20))
def K4r31s18:OpsF:=(oIf 188 false (oVal (.tmp 199) (kLoad none (.tmp 198)) K4r31s19) (oSkip (.tmp 199) K4r31s19))
def K4r31s17:OpsF:=(oIf 188 false (oVal (.tmp 198) (kUn (fadA 1) (.tmp 24)) K4r31s18) (oSkip (.tmp 198) K4r31s18))
def K4r31s16:OpsF:=(oIf 188 false (oVal (.tmp 197) (kMove (.tmp 5)) K4r31s17) (oSkip (.tmp 197) K4r31s17))
def K4r31s15:OpsF:=(oIf 188 false (oCallT (some [191,198]) (.tmp 196) (.con (.func 19 [] [])) [(.tmp 193),(.tmp 195)] K4r31s16) (oSkip (.tmp 196) K4r31s16))
def K4r31s14:OpsF:=(oIf 188 false (oVal (.tmp 195) (kLoad none (.tmp 194)) K4r31s15) (oSkip (.tmp 195) K4r31s15))
def K4r31s13:OpsF:=(oIf 188 false (oVal (.tmp 194) (kUn (fadA 0) (.tmp 24)) K4r31s14) (oSkip (.tmp 194) K4r31s14))
def K4r31s12:OpsF:=(oIf 188 false (oVal (.tmp 193) (kMove (.tmp 5)) K4r31s13) (oSkip (.tmp 193) K4r31s13))
def K4r31s11:OpsF:=(oIf 188 false (oVal (.tmp 192) (kLoad (some 2) (.tmp 191)) K4r31s12) (oSkip (.tmp 192) K4r31s12))
def K4r31s10:OpsF:=(oIf 188 false (oVal (.tmp 191) (kTwo (ixsA 2) (.tmp 189) (.tmp 190)) K4r31s11) (oSkip (.tmp 191) K4r31s11))
def K4r31s9:OpsF:=(oIf 188 false (oVal (.tmp 190) (kMove (.tmp 21)) K4r31s10) (oSkip (.tmp 190) K4r31s10))
def K4r31s6:OpsF:=(oVal (.tmp 187) (kPick (.tmp 183) (.con (.bool true)) (.tmp 186)) (oVal (.tmp 188) (kMove (.tmp 187)) (oIf 188 false (oVal (.tmp 189) (kMove (.tmp 6)) K4r31s9) (oSkip (.tmp 189) K4r31s9))))
def K4r31s5:OpsF:=(oIf 183 false (oVal (.tmp 186) (kEql (.row [(0,none,.int),(1,none,.int)]) true (.tmp 184) (.tmp 185)) K4r31s6) (oSkip (.tmp 186) K4r31s6))
def K4r31s4:OpsF:=(oIf 183 false (oVal (.tmp 185) (kLoad (some 2) (.tmp 24)) K4r31s5) (oSkip (.tmp 185) K4r31s5))
def K4r31:OpsF:=(oEnd [] (oVal (.tmp 181) (kMove (.tmp 23)) (oVal (.tmp 182) (kInt aNeq (.tmp 181) (.con (.int .i64 0))) (oVal (.tmp 183) (kMove (.tmp 182)) (oIf 183 false (oVal (.tmp 184) (kLoad (some 2) (.tmp 22)) K4r31s4) (oSkip (.tmp 184) K4r31s4))))))
def K4r32:OpsF:=(oVal (.tmp 2) (kMove (.con (.bool false))) oNil)
def K4r33:OpsF:=(oVal (.tmp 164) (kMove (.tmp 21)) (oVal (.tmp 165) (kInt aAdd (.tmp 164) (.con (.int .i64 1))) (oVal (.tmp 21) (kMove (.tmp 165)) oNil)))
def K4l2:K:=(kSeq (kSeq (kRegion K4r28 [163]) (kCond (.tmp 163) kSkip (kExit 4))) (kSeq (kBlock 5 (kSeq (kRegion K4r29 [22,23]) (kSeq (kRegionD K4r30 [24]) (kSeq (kRegionD K4r31 [203]) (kCond (.tmp 203) (kSeq (kRegion K4r32 [2]) kRet) kSkip))))) (kRegion K4r33 [21])))
def K4r34:OpsF:=(oCall (.tmp 204) (.con (.func 20 [] [])) [] (oVal (.tmp 2) (kMove (.tmp 204)) oNil))
theorem res4:Try.f4.results.toList=[.tmp 2]:=by kernel_rfl
def K15r0:OpsF:=(oVal (.tmp 3) (kBox (tag 27) (.tmp 0)) (oVal (.tmp 6) (kMove (.con (.int .i64 0))) (oVal (.tmp 7) (kMove (.con (.bool false))) oNil)))
def K15r1:OpsF:=(oVal (.tmp 8) (kMove (.con (.int .i64 0))) (oVal (.tmp 9) (kMove (.con (.int .i64 0))) (oVal (.tmp 10) (kMove (.con (.bool false))) oNil)))
def K15r2:OpsF:=(oVal (.tmp 11) (kMove (.con (.int .i64 0))) oNil)
def K15r3:OpsF:=(oVal (.tmp 16) (kMove (.tmp 11)) (oVal (.tmp 17) (kMove (.tmp 1)) (oVal (.tmp 18) (kUn lenSlA (.tmp 17)) (oVal (.tmp 19) (kInt aLss (.tmp 16) (.tmp 18)) oNil))))
def K15r4:OpsF:=(oVal (.tmp 22) (kUn (fadA 2) (.tmp 3)) (oVal (.tmp 23) (kLoad none (.tmp 22)) (oVal (.tmp 24) (kMove (.tmp 11)) (oVal (.tmp 25) (kTwo (ixsA 6) (.tmp 23) (.tmp 24)) (oVal (.tmp 26) (kUn (fadA 1) (.tmp 25)) (oVal (.tmp 27) (kLoad none (.tmp 26)) (oVal (.tmp 28) (kMove (.tmp 2)) (oVal (.tmp 29) (kInt aEql (.tmp 27) (.tmp 28)) oNil))))))))
def K15r5:OpsF:=(oVal (.tmp 30) (kMove (.tmp 8)) (oVal (.tmp 31) (kMove (.tmp 1)) (oVal (.tmp 32) (kMove (.tmp 11)) (oVal (.tmp 33) (kTwo (ixsA 2) (.tmp 31) (.tmp 32)) (oVal (.tmp 34) (kUn (fadA 0) (.tmp 33)) (oVal (.tmp 35) (kLoad none (.tmp 34)) (oVal (.tmp 36) (kInt aAdd (.tmp 30) (.tmp 35)) (oVal (.tmp 8) (kMove (.tmp 36)) oNil))))))))
def K15r6:OpsF:=(oVal (.tmp 20) (kMove (.tmp 11)) (oVal (.tmp 21) (kInt aAdd (.tmp 20) (.con (.int .i64 1))) (oVal (.tmp 11) (kMove (.tmp 21)) oNil)))
def K15l0:K:=(kSeq (kSeq (kRegion K15r3 [19]) (kCond (.tmp 19) kSkip (kExit 0))) (kSeq (kBlock 1 (kSeq (kRegion K15r4 [29]) (kCond (.tmp 29) (kRegion K15r5 [8]) kSkip))) (kRegion K15r6 [11])))
def K15r7:OpsF:=(oVal (.tmp 37) (kMove (.tmp 8)) (oVal (.tmp 38) (kInt aEql (.tmp 37) (.con (.int .i64 0))) oNil))
def K15r8:OpsF:=(oVal (.tmp 6) (kMove (.con (.int .i64 0))) (oVal (.tmp 7) (kMove (.con (.bool false))) oNil))
def K15r9:OpsF:=(oVal (.tmp 12) (kMove (.con (.int .i64 0))) oNil)
def K15r10:OpsF:=(oVal (.tmp 39) (kMove (.tmp 12)) (oVal (.tmp 40) (kMove (.tmp 1)) (oVal (.tmp 41) (kUn lenSlA (.tmp 40)) (oVal (.tmp 42) (kInt aLss (.tmp 39) (.tmp 41)) oNil))))
def K15r11:OpsF:=(oVal (.tmp 45) (kMove (.tmp 1)) (oVal (.tmp 46) (kMove (.tmp 12)) (oVal (.tmp 47) (kTwo (ixsA 2) (.tmp 45) (.tmp 46)) (oVal (.tmp 48) (kUn (fadA 1) (.tmp 47)) (oVal (.tmp 49) (kLoad none (.tmp 48)) (oVal (.tmp 13) (kMove (.tmp 49)) oNil))))))
def K15r12s15:OpsF:=(oVal (.tmp 65) (kPick (.tmp 58) (.con (.bool true)) (.tmp 64)) oNil)
def K15r12s14:OpsF:=(oIf 58 false (oVal (.tmp 64) (kPick (.tmp 60) (.tmp 63) (.con (.bool false))) K15r12s15) (oSkip (.tmp 64) K15r12s15))
def K15r12s13:OpsF:=(oIf 60 true (oVal (.tmp 63) (kInt aGeq (.tmp 61) (.tmp 62)) K15r12s14) (oSkip (.tmp 63) K15r12s14))
def K15r12s12:OpsF:=(oIf 60 true (oVal (.tmp 62) (kMove (.tmp 9)) K15r12s13) (oSkip (.tmp 62) K15r12s13))
def K15r12s11:OpsF:=(oIf 60 true (oVal (.tmp 61) (kMove (.tmp 13)) K15r12s12) (oSkip (.tmp 61) K15r12s12))
def K15r12s10:OpsF:=(oIf 58 false (oVal (.tmp 60) (kMove (.tmp 59)) K15r12s11) (oSkip (.tmp 60) K15r12s11))
def K15r12:OpsF:=(oVal (.tmp 50) (kUn (fadA 2) (.tmp 3)) (oVal (.tmp 51) (kLoad none (.tmp 50)) (oVal (.tmp 52) (kMove (.tmp 12)) (oVal (.tmp 53) (kTwo (ixsA 6) (.tmp 51) (.tmp 52)) (oVal (.tmp 54) (kUn (fadA 1) (.tmp 53)) (oVal (.tmp 55) (kLoad none (.tmp 54)) (oVal (.tmp 56) (kMove (.tmp 2)) (oVal (.tmp 57) (kInt aNeq (.tmp 55) (.tmp 56)) (oVal (.tmp 58) (kMove (.tmp 57)) (oIf 58 false (oVal (.tmp 59) (kMove (.tmp 10)) K15r12s10) (oSkip (.tmp 59) K15r12s10)))))))))))
def K15r13:OpsF:=(oVal (.tmp 14) (kMove (.con (.int .i64 0))) oNil)
def K15r14:OpsF:=(oVal (.tmp 15) (kMove (.con (.int .i64 0))) oNil)
def K15r15:OpsF:=(oVal (.tmp 66) (kMove (.tmp 15)) (oVal (.tmp 67) (kMove (.tmp 1)) (oVal (.tmp 68) (kUn lenSlA (.tmp 67)) (oVal (.tmp 69) (kInt aLss (.tmp 66) (.tmp 68)) oNil))))
def K15r16s16:OpsF:=(oVal (.tmp 88) (kPick (.tmp 80) (.tmp 87) (.con (.bool false))) oNil)
def K15r16s15:OpsF:=(oIf 80 true (oVal (.tmp 87) (kInt aLeq (.tmp 85) (.tmp 86)) K15r16s16) (oSkip (.tmp 87) K15r16s16))
def K15r16s14:OpsF:=(oIf 80 true (oVal (.tmp 86) (kMove (.tmp 13)) K15r16s15) (oSkip (.tmp 86) K15r16s15))
def K15r16s13:OpsF:=(oIf 80 true (oVal (.tmp 85) (kLoad none (.tmp 84)) K15r16s14) (oSkip (.tmp 85) K15r16s14))
def K15r16s12:OpsF:=(oIf 80 true (oVal (.tmp 84) (kUn (fadA 1) (.tmp 83)) K15r16s13) (oSkip (.tmp 84) K15r16s13))
def K15r16s11:OpsF:=(oIf 80 true (oVal (.tmp 83) (kTwo (ixsA 2) (.tmp 81) (.tmp 82)) K15r16s12) (oSkip (.tmp 83) K15r16s12))
def K15r16s10:OpsF:=(oIf 80 true (oVal (.tmp 82) (kMove (.tmp 15)) K15r16s11) (oSkip (.tmp 82) K15r16s11))
def K15r16:OpsF:=(oVal (.tmp 72) (kUn (fadA 2) (.tmp 3)) (oVal (.tmp 73) (kLoad none (.tmp 72)) (oVal (.tmp 74) (kMove (.tmp 15)) (oVal (.tmp 75) (kTwo (ixsA 6) (.tmp 73) (.tmp 74)) (oVal (.tmp 76) (kUn (fadA 1) (.tmp 75)) (oVal (.tmp 77) (kLoad none (.tmp 76)) (oVal (.tmp 78) (kMove (.tmp 2)) (oVal (.tmp 79) (kInt aEql (.tmp 77) (.tmp 78)) (oVal (.tmp 80) (kMove (.tmp 79)) (oIf 80 true (oVal (.tmp 81) (kMove (.tmp 1)) K15r16s10) (oSkip (.tmp 81) K15r16s10)))))))))))
def K15r17:OpsF:=(oVal (.tmp 89) (kMove (.tmp 14)) (oVal (.tmp 90) (kMove (.tmp 1)) (oVal (.tmp 91) (kMove (.tmp 15)) (oVal (.tmp 92) (kTwo (ixsA 2) (.tmp 90) (.tmp 91)) (oVal (.tmp 93) (kUn (fadA 0) (.tmp 92)) (oVal (.tmp 94) (kLoad none (.tmp 93)) (oVal (.tmp 95) (kInt aAdd (.tmp 89) (.tmp 94)) (oVal (.tmp 14) (kMove (.tmp 95)) oNil))))))))
def K15r18:OpsF:=(oVal (.tmp 70) (kMove (.tmp 15)) (oVal (.tmp 71) (kInt aAdd (.tmp 70) (.con (.int .i64 1))) (oVal (.tmp 15) (kMove (.tmp 71)) oNil)))
def K15l1:K:=(kSeq (kSeq (kRegion K15r15 [69]) (kCond (.tmp 69) kSkip (kExit 4))) (kSeq (kBlock 5 (kSeq (kRegion K15r16 [88]) (kCond (.tmp 88) (kRegion K15r17 [14]) kSkip))) (kRegion K15r18 [15])))
def K15r19:OpsF:=(oVal (.tmp 96) (kMove (.tmp 14)) (oVal (.tmp 97) (kInt aMul (.con (.int .i64 2)) (.tmp 96)) (oVal (.tmp 98) (kMove (.tmp 8)) (oVal (.tmp 99) (kInt aGeq (.tmp 97) (.tmp 98)) oNil))))
def K15r20:OpsF:=(oVal (.tmp 100) (kMove (.tmp 13)) (oVal (.tmp 9) (kMove (.tmp 100)) (oVal (.tmp 10) (kMove (.con (.bool true))) oNil)))
def K15r21:OpsF:=(oVal (.tmp 43) (kMove (.tmp 12)) (oVal (.tmp 44) (kInt aAdd (.tmp 43) (.con (.int .i64 1))) (oVal (.tmp 12) (kMove (.tmp 44)) oNil)))
def K15l2:K:=(kSeq (kSeq (kRegion K15r10 [42]) (kCond (.tmp 42) kSkip (kExit 2))) (kSeq (kBlock 3 (kSeq (kRegion K15r11 [13]) (kSeq (kSeq (kRegion K15r12 [65]) (kCond (.tmp 65) (kExit 3) kSkip)) (kSeq (kRegion K15r13 [14]) (kSeq (kSeq (kRegion K15r14 [15]) (kBlock 4 (kLoop K15l1))) (kSeq (kRegion K15r19 [99]) (kCond (.tmp 99) (kRegion K15r20 [9,10]) kSkip))))))) (kRegion K15r21 [12])))
def K15r22:OpsF:=(oVal (.tmp 101) (kMove (.tmp 9)) (oVal (.tmp 102) (kMove (.tmp 10)) (oVal (.tmp 6) (kMove (.tmp 101)) (oVal (.tmp 7) (kMove (.tmp 102)) oNil))))
theorem res15:Try.f15.results.toList=[.tmp 6,.tmp 7]:=by kernel_rfl
def K15:K:=(kSeq (kRegion K15r0 [3,6,7]) (kSeq (kRegion K15r1 [8,9,10]) (kSeq (kSeq (kRegion K15r2 [11]) (kBlock 0 (kLoop K15l0))) (kSeq (kSeq (kRegion K15r7 [38]) (kCond (.tmp 38) (kSeq (kRegion K15r8 [6,7]) kRet) kSkip)) (kSeq (kSeq (kRegion K15r9 [12]) (kBlock 2 (kLoop K15l2))) (kSeq (kRegion K15r22 [6,7]) kRet))))))
theorem enter15 (cl:CallF) (a0 a1 a2:AV) (s:St):enterA Try.prog X cl 15 [a0,a1,a2] s Try.f15=finA Try.prog Try.f15 (K15 cl ⟨15,none,Try.f15.ntmps,X 15⟩ (paramsEnv 0 [a0,a1,a2] .nil) [] s) :=
  enterA_eq (b:=Try.f15.body.getD .skip) (by kernel_rfl) (by kernel_rfl) (by kernel_rfl) (by kernel_rfl) (by kernel_rfl)
def K19r0:OpsF:=(oVal (.tmp 4) (kMove (.con (.int .i64 0))) oNil)
def K19r1:OpsF:=(oVal (.tmp 5) (kMove (.con (.int .i64 0))) oNil)
def K19r2:OpsF:=(oVal (.tmp 6) (kMove (.con (.int .i64 0))) oNil)
def K19r3s12:OpsF:=(oVal (.tmp 20) (kPick (.tmp 12) (.tmp 19) (.con (.bool false))) oNil)
def K19r3s11:OpsF:=(oIf 12 true (oVal (.tmp 19) (kInt aLss (.tmp 17) (.tmp 18)) K19r3s12) (oSkip (.tmp 19) K19r3s12))
def K19r3s10:OpsF:=(oIf 12 true (oVal (.tmp 18) (kMove (.tmp 1)) K19r3s11) (oSkip (.tmp 18) K19r3s11))
def K19r3s9:OpsF:=(oIf 12 true (oVal (.tmp 17) (kLoad none (.tmp 16)) K19r3s10) (oSkip (.tmp 17) K19r3s10))
def K19r3s8:OpsF:=(oIf 12 true (oVal (.tmp 16) (kUn (fadA 0) (.tmp 15)) K19r3s9) (oSkip (.tmp 16) K19r3s9))
def K19r3s7:OpsF:=(oIf 12 true (oVal (.tmp 15) (kTwo (ixsA 2) (.tmp 13) (.tmp 14)) K19r3s8) (oSkip (.tmp 15) K19r3s8))
def K19r3s6:OpsF:=(oIf 12 true (oVal (.tmp 14) (kMove (.tmp 6)) K19r3s7) (oSkip (.tmp 14) K19r3s7))
def K19r3:OpsF:=(oVal (.tmp 8) (kMove (.tmp 6)) (oVal (.tmp 9) (kMove (.tmp 0)) (oVal (.tmp 10) (kUn lenSlA (.tmp 9)) (oVal (.tmp 11) (kInt aLss (.tmp 8) (.tmp 10)) (oVal (.tmp 12) (kMove (.tmp 11)) (oIf 12 true (oVal (.tmp 13) (kMove (.tmp 0)) K19r3s6) (oSkip (.tmp 13) K19r3s6)))))))
def K19r4:OpsF:=(oVal (.tmp 23) (kMove (.tmp 1)) (oVal (.tmp 7) (kMove (.tmp 23)) oNil))
def K19r5:OpsF:=(oVal (.tmp 24) (kMove (.tmp 6)) (oVal (.tmp 25) (kInt aAdd (.tmp 24) (.con (.int .i64 1))) (oVal (.tmp 26) (kMove (.tmp 0)) (oVal (.tmp 27) (kUn lenSlA (.tmp 26)) (oVal (.tmp 28) (kInt aLss (.tmp 25) (.tmp 27)) oNil)))))
def K19r6:OpsF:=(oVal (.tmp 29) (kMove (.tmp 7)) (oVal (.tmp 30) (kMove (.tmp 0)) (oVal (.tmp 31) (kMove (.tmp 6)) (oVal (.tmp 32) (kInt aAdd (.tmp 31) (.con (.int .i64 1))) (oVal (.tmp 33) (kTwo (ixsA 2) (.tmp 30) (.tmp 32)) (oVal (.tmp 34) (kUn (fadA 0) (.tmp 33)) (oVal (.tmp 35) (kLoad none (.tmp 34)) (oVal (.tmp 36) (kFold minA (.tmp 29) [(.tmp 35)]) (oVal (.tmp 7) (kMove (.tmp 36)) oNil)))))))))
def K19r7:OpsF:=(oEnd [] (oVal (.tmp 37) (kMove (.tmp 5)) (oVal (.tmp 38) (kMove (.tmp 7)) (oVal (.tmp 39) (kMove (.tmp 0)) (oVal (.tmp 40) (kMove (.tmp 6)) (oVal (.tmp 41) (kTwo (ixsA 2) (.tmp 39) (.tmp 40)) (oVal (.tmp 42) (kUn (fadA 0) (.tmp 41)) (oVal (.tmp 43) (kLoad none (.tmp 42)) (oVal (.tmp 44) (kInt aSub (.tmp 38) (.tmp 43)) (oVal (.tmp 45) (kMove (.tmp 0)) (oVal (.tmp 46) (kMove (.tmp 6)) (oVal (.tmp 47) (kTwo (ixsA 2) (.tmp 45) (.tmp 46)) (oVal (.tmp 48) (kUn (fadA 1) (.tmp 47)) (oVal (.tmp 49) (kLoad none (.tmp 48)) (oVal (.tmp 50) (kInt aMul (.tmp 44) (.tmp 49)) (oVal (.tmp 51) (kInt aAdd (.tmp 37) (.tmp 50)) (oVal (.tmp 5) (kMove (.tmp 51)) oNil)))))))))))))))))
def K19r8:OpsF:=(oVal (.tmp 21) (kMove (.tmp 6)) (oVal (.tmp 22) (kInt aAdd (.tmp 21) (.con (.int .i64 1))) (oVal (.tmp 6) (kMove (.tmp 22)) oNil)))
def K19l0:K:=(kSeq (kSeq (kRegion K19r3 [20]) (kCond (.tmp 20) kSkip (kExit 0))) (kSeq (kBlock 1 (kSeq (kRegion K19r4 [7]) (kSeq (kSeq (kRegion K19r5 [28]) (kCond (.tmp 28) (kRegion K19r6 [7]) kSkip)) (kRegionD K19r7 [5])))) (kRegion K19r8 [6])))
def K19r9:OpsF:=(oVal (.tmp 52) (kMove (.tmp 5)) (oVal (.tmp 53) (kInt aQuo (.tmp 52) (.con (.int .i64 1000))) (oVal (.tmp 4) (kMove (.tmp 53)) oNil)))
theorem res19:Try.f19.results.toList=[.tmp 4]:=by kernel_rfl
def K19:K:=(kSeq (kRegion K19r0 [4]) (kSeq (kRegion K19r1 [5]) (kSeq (kSeq (kRegion K19r2 [6]) (kBlock 0 (kLoop K19l0))) (kSeq (kRegion K19r9 [4]) kRet))))
theorem enter19 (cl:CallF) (a0 a1:AV) (s:St):enterA Try.prog X cl 19 [a0,a1] s Try.f19=finA Try.prog Try.f19 (K19 cl ⟨19,none,Try.f19.ntmps,X 19⟩ (paramsEnv 0 [a0,a1] .nil) [] s) :=
  enterA_eq (b:=Try.f19.body.getD .skip) (by kernel_rfl) (by kernel_rfl) (by kernel_rfl) (by kernel_rfl) (by kernel_rfl)
def K18r0:OpsF:=(oVal (.tmp 3) (kBox (tag 27) (.tmp 0)) (oVal (.tmp 6) (kMove (.con (.int .i64 0))) oNil))
def K18r1:OpsF:=(oVal (.tmp 7) (kMove (.con (.int .i64 0))) oNil)
def K18r2:OpsF:=(oVal (.tmp 8) (kMove (.con (.int .i64 0))) oNil)
def K18r3:OpsF:=(oVal (.tmp 9) (kMove (.tmp 8)) (oVal (.tmp 10) (kMove (.tmp 1)) (oVal (.tmp 11) (kUn lenSlA (.tmp 10)) (oVal (.tmp 12) (kInt aLss (.tmp 9) (.tmp 11)) oNil))))
def K18r4:OpsF:=(oVal (.tmp 15) (kUn (fadA 2) (.tmp 3)) (oVal (.tmp 16) (kLoad none (.tmp 15)) (oVal (.tmp 17) (kMove (.tmp 8)) (oVal (.tmp 18) (kTwo (ixsA 6) (.tmp 16) (.tmp 17)) (oVal (.tmp 19) (kUn (fadA 0) (.tmp 18)) (oVal (.tmp 20) (kLoad none (.tmp 19)) (oVal (.tmp 21) (kMove (.tmp 2)) (oVal (.tmp 22) (kInt aEql (.tmp 20) (.tmp 21)) oNil))))))))
def K18r5:OpsF:=(oEnd [] (oVal (.tmp 23) (kMove (.tmp 7)) (oVal (.tmp 24) (kMove (.tmp 1)) (oVal (.tmp 25) (kMove (.tmp 8)) (oVal (.tmp 26) (kTwo (ixsA 2) (.tmp 24) (.tmp 25)) (oVal (.tmp 27) (kUn (fadA 0) (.tmp 26)) (oVal (.tmp 28) (kLoad none (.tmp 27)) (oVal (.tmp 29) (kMove (.tmp 1)) (oVal (.tmp 30) (kMove (.tmp 8)) (oVal (.tmp 31) (kTwo (ixsA 2) (.tmp 29) (.tmp 30)) (oVal (.tmp 32) (kUn (fadA 1) (.tmp 31)) (oVal (.tmp 33) (kLoad none (.tmp 32)) (oVal (.tmp 34) (kInt aMul (.tmp 28) (.tmp 33)) (oVal (.tmp 35) (kInt aQuo (.tmp 34) (.con (.int .i64 1000))) (oVal (.tmp 36) (kInt aAdd (.tmp 23) (.tmp 35)) (oVal (.tmp 7) (kMove (.tmp 36)) oNil))))))))))))))))
def K18r6:OpsF:=(oVal (.tmp 13) (kMove (.tmp 8)) (oVal (.tmp 14) (kInt aAdd (.tmp 13) (.con (.int .i64 1))) (oVal (.tmp 8) (kMove (.tmp 14)) oNil)))
def K18l0:K:=(kSeq (kSeq (kRegion K18r3 [12]) (kCond (.tmp 12) kSkip (kExit 0))) (kSeq (kBlock 1 (kSeq (kRegion K18r4 [22]) (kCond (.tmp 22) (kRegionD K18r5 [7]) kSkip))) (kRegion K18r6 [8])))
def K18r7:OpsF:=(oVal (.tmp 37) (kMove (.tmp 7)) (oVal (.tmp 6) (kMove (.tmp 37)) oNil))
theorem res18:Try.f18.results.toList=[.tmp 6]:=by kernel_rfl
def K18:K:=(kSeq (kRegion K18r0 [3,6]) (kSeq (kRegion K18r1 [7]) (kSeq (kSeq (kRegion K18r2 [8]) (kBlock 0 (kLoop K18l0))) (kSeq (kRegion K18r7 [6]) kRet))))
theorem enter18 (cl:CallF) (a0 a1 a2:AV) (s:St):enterA Try.prog X cl 18 [a0,a1,a2] s Try.f18=finA Try.prog Try.f18 (K18 cl ⟨18,none,Try.f18.ntmps,X 18⟩ (paramsEnv 0 [a0,a1,a2] .nil) [] s) :=
  enterA_eq (b:=Try.f18.body.getD .skip) (by kernel_rfl) (by kernel_rfl) (by kernel_rfl) (by kernel_rfl) (by kernel_rfl)
def K22r0:OpsF:=(oVal (.tmp 3) (kBox (tag 27) (.tmp 0)) (oVal (.tmp 6) (kMove (.con .nilslice)) oNil))
def K22r1:OpsF:=(oVal (.tmp 7) (kMove (.con .nilslice)) oNil)
def K22r2:OpsF:=(oVal (.tmp 8) (kMove (.con (.int .i64 0))) oNil)
def K22r3:OpsF:=(oVal (.tmp 11) (kMove (.tmp 8)) (oVal (.tmp 12) (kUn (fadA 2) (.tmp 3)) (oVal (.tmp 13) (kLoad none (.tmp 12)) (oVal (.tmp 14) (kUn lenSlA (.tmp 13)) (oVal (.tmp 15) (kInt aLss (.tmp 11) (.tmp 14)) oNil)))))
def K22r4:OpsF:=(oVal (.tmp 18) (kUn (fadA 2) (.tmp 3)) (oVal (.tmp 19) (kLoad none (.tmp 18)) (oVal (.tmp 20) (kMove (.tmp 8)) (oVal (.tmp 21) (kTwo (ixsA 6) (.tmp 19) (.tmp 20)) (oVal (.tmp 22) (kLoad (some 6) (.tmp 21)) (oVal (.tmp 9) (kAlloc [(.int .i64 0),(.int .i64 0),(.int .i64 0),(.int .i64 0),(.int .i64 0),(.int .i64 0)] (tag 51)) (oVal .none (kStore 6 (.tmp 9) (.tmp 22)) oNil)))))))
def K22r5:OpsF:=(oVal (.tmp 23) (kUn (fadA 2) (.tmp 9)) (oVal (.tmp 24) (kUn (fadA 0) (.tmp 23)) (oVal (.tmp 25) (kLoad none (.tmp 24)) (oVal (.tmp 26) (kUn (fadA 4) (.tmp 9)) (oVal (.tmp 27) (kUn (fadA 1) (.tmp 26)) (oVal (.tmp 28) (kLoad none (.tmp 27)) (oVal (.tmp 29) (kBuild [(.int .i64 0),(.int .i64 0)] [(0,1,(.tmp 25)),(1,1,(.tmp 28))]) (oVal (.tmp 10) (kAlloc [(.int .i64 0),(.int .i64 0)] (tag 64)) (oVal .none (kStore 2 (.tmp 10) (.tmp 29)) oNil)))))))))
def K22r6:OpsF:=(oVal (.tmp 30) (kMove (.tmp 2)) oNil)
def K22r7:OpsF:=(oVal (.tmp 31) (kUn (fadA 4) (.tmp 9)) (oVal (.tmp 32) (kUn (fadA 0) (.tmp 31)) (oVal (.tmp 33) (kLoad none (.tmp 32)) (oVal (.tmp 34) (kUn (fadA 1) (.tmp 10)) (oVal .none (kStore 1 (.tmp 34) (.tmp 33)) oNil)))))
def K22r8s16:OpsF:=(oVal (.tmp 51) (kPick (.tmp 42) (.con (.bool true)) (.tmp 50)) oNil)
def K22r8s15:OpsF:=(oIf 42 false (oVal (.tmp 50) (kPick (.tmp 45) (.tmp 49) (.con (.bool false))) K22r8s16) (oSkip (.tmp 50) K22r8s16))
def K22r8s14:OpsF:=(oIf 45 true (oVal (.tmp 49) (kInt aGeq (.tmp 47) (.tmp 48)) K22r8s15) (oSkip (.tmp 49) K22r8s15))
def K22r8s13:OpsF:=(oIf 45 true (oVal (.tmp 48) (kMove (.tmp 1)) K22r8s14) (oSkip (.tmp 48) K22r8s14))
def K22r8s12:OpsF:=(oIf 45 true (oVal (.tmp 47) (kLoad none (.tmp 46)) K22r8s13) (oSkip (.tmp 47) K22r8s13))
def K22r8s11:OpsF:=(oIf 45 true (oVal (.tmp 46) (kUn (fadA 1) (.tmp 10)) K22r8s12) (oSkip (.tmp 46) K22r8s12))
def K22r8s10:OpsF:=(oIf 42 false (oVal (.tmp 45) (kMove (.tmp 44)) K22r8s11) (oSkip (.tmp 45) K22r8s11))
def K22r8s9:OpsF:=(oIf 42 false (oVal (.tmp 44) (kUn notA (.tmp 43)) K22r8s10) (oSkip (.tmp 44) K22r8s10))
def K22r8s6:OpsF:=(oVal (.tmp 41) (kPick (.tmp 36) (.tmp 40) (.con (.bool false))) (oVal (.tmp 42) (kMove (.tmp 41)) (oIf 42 false (oVal (.tmp 43) (kMove (.tmp 2)) K22r8s9) (oSkip (.tmp 43) K22r8s9))))
def K22r8s5:OpsF:=(oIf 36 true (oVal (.tmp 40) (kInt aLeq (.tmp 38) (.tmp 39)) K22r8s6) (oSkip (.tmp 40) K22r8s6))
def K22r8s4:OpsF:=(oIf 36 true (oVal (.tmp 39) (kMove (.tmp 1)) K22r8s5) (oSkip (.tmp 39) K22r8s5))
def K22r8s3:OpsF:=(oIf 36 true (oVal (.tmp 38) (kLoad none (.tmp 37)) K22r8s4) (oSkip (.tmp 38) K22r8s4))
def K22r8:OpsF:=(oVal (.tmp 35) (kMove (.tmp 2)) (oVal (.tmp 36) (kMove (.tmp 35)) (oIf 36 true (oVal (.tmp 37) (kUn (fadA 1) (.tmp 10)) K22r8s3) (oSkip (.tmp 37) K22r8s3))))
def K22r9:OpsF:=(oVal (.tmp 52) (kUn (fadA 2) (.tmp 9)) (oVal (.tmp 53) (kUn (fadA 1) (.tmp 52)) (oVal (.tmp 54) (kLoad none (.tmp 53)) (oVal (.tmp 55) (kUn (fadA 0) (.tmp 10)) (oVal .none (kStore 1 (.tmp 55) (.tmp 54)) oNil)))))
def K22r10:OpsF:=(oVal (.tmp 56) (kMove (.tmp 7)) (oVal (.tmp 57) (kLoad (some 2) (.tmp 10)) (oVal (.tmp 58) (kBuildSlice [(.int .i64 0),(.int .i64 0)] 1 [(0,2,(.tmp 57))]) (oVal (.tmp 59) (kTwo (appendA false 2 16 (tag 64)) (.tmp 56) (.tmp 58)) (oVal (.tmp 7) (kMove (.tmp 59)) oNil)))))
def K22r11:OpsF:=(oVal (.tmp 16) (kMove (.tmp 8)) (oVal (.tmp 17) (kInt aAdd (.tmp 16) (.con (.int .i64 1))) (oVal (.tmp 8) (kMove (.tmp 17)) oNil)))
def K22l0:K:=(kSeq (kSeq (kRegion K22r3 [15]) (kCond (.tmp 15) kSkip (kExit 0))) (kSeq (kBlock 1 (kSeq (kRegion K22r4 [9]) (kSeq (kRegion K22r5 [10]) (kSeq (kSeq (kRegion K22r6 [30]) (kCond (.tmp 30) (kRegion K22r7 []) kSkip)) (kSeq (kSeq (kRegion K22r8 [51]) (kCond (.tmp 51) (kRegion K22r9 []) kSkip)) (kRegion K22r10 [7])))))) (kRegion K22r11 [8])))
def K22r12:OpsF:=(oVal (.tmp 60) (kMove (.tmp 7)) (oVal (.tmp 6) (kMove (.tmp 60)) oNil))
theorem res22:Try.f22.results.toList=[.tmp 6]:=by kernel_rfl
def K22:K:=(kSeq (kRegion K22r0 [3,6]) (kSeq (kRegion K22r1 [7]) (kSeq (kSeq (kRegion K22r2 [8]) (kBlock 0 (kLoop K22l0))) (kSeq (kRegion K22r12 [6]) kRet))))
theorem enter22 (cl:CallF) (a0 a1 a2:AV) (s:St):enterA Try.prog X cl 22 [a0,a1,a2] s Try.f22=finA Try.prog Try.f22 (K22 cl ⟨22,none,Try.f22.ntmps,X 22⟩ (paramsEnv 0 [a0,a1,a2] .nil) [] s) :=
  enterA_eq (b:=Try.f22.body.getD .skip) (by kernel_rfl) (by kernel_rfl) (by kernel_rfl) (by kernel_rfl) (by kernel_rfl)
def K21r0:OpsF:=(oVal (.tmp 2) (kAlloc [(.int .i64 0),(.int .i64 0)] (tag 38)) oNil)
def K21r1:OpsF:=(oVal (.tmp 3) (kMove (.tmp 0)) (oVal (.tmp 4) (kMove (.tmp 0)) (oCall (.tmp 5) (.con (.func 23 [] [])) [(.tmp 3),(.tmp 4)] (oVal .none (kStore 2 (.tmp 2) (.tmp 5)) oNil))))
theorem res21:Try.f21.results.toList=[.cell 2 38]:=by kernel_rfl
def K21:K:=(kSeq (kRegion K21r0 [2]) (kSeq (kRegion K21r1 []) kRet))
theorem enter21 (cl:CallF) (a0:AV) (s:St):enterA Try.prog X cl 21 [a0] s Try.f21=finA Try.prog Try.f21 (K21 cl ⟨21,none,Try.f21.ntmps,X 21⟩ (paramsEnv 0 [a0] .nil) [] s) :=
  enterA_eq (b:=Try.f21.body.getD .skip) (by kernel_rfl) (by kernel_rfl) (by kernel_rfl) (by kernel_rfl) (by kernel_rfl)
def K23r0:OpsF:=(oVal (.tmp 4) (kAlloc [(.int .i64 0),(.int .i64 0)] (tag 38)) oNil)
def K23r1:OpsF:=(oVal (.tmp 5) (kMove (.tmp 0)) (oVal (.tmp 6) (kMove (.tmp 1)) (oVal (.tmp 7) (kBuild [(.int .i64 0),(.int .i64 0)] [(0,1,(.tmp 5)),(1,1,(.tmp 6))]) (oVal .none (kStore 2 (.tmp 4) (.tmp 7)) oNil))))
theorem res23:Try.f23.results.toList=[.cell 4 38]:=by kernel_rfl
def K23:K:=(kSeq (kRegion K23r0 [4]) (kSeq (kRegion K23r1 []) kRet))
theorem enter23 (cl:CallF) (a0 a1:AV) (s:St):enterA Try.prog X cl 23 [a0,a1] s Try.f23=finA Try.prog Try.f23 (K23 cl ⟨23,none,Try.f23.ntmps,X 23⟩ (paramsEnv 0 [a0,a1] .nil) [] s) :=
  enterA_eq (b:=Try.f23.body.getD .skip) (by kernel_rfl) (by kernel_rfl) (by kernel_rfl) (by kernel_rfl) (by kernel_rfl)
end
end Go.Proofs.Ytamlnddeiokbdaa.code
