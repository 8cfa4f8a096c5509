/- The code of functions as the interpreter has it, region by region. -/
import Derived.Test.YtamlnddeiokbdaaAbsTab
import Derived.Test.YtamlnddeiokbdaaAbsWalk
import Derived.KernelRfl
set_option maxRecDepth 100000
namespace Go.Proofs.Ytamlnddeiokbdaa.code
open Go.Abs
noncomputable section
def K35r0:OpsF:=(oVal (.tmp 2) (kMove (.con (.int .i64 0))) oNil)
def K35r1:OpsF:=(oVal (.tmp 3) (kMove (.con (.int .i64 0))) oNil)
def K35r2:OpsF:=(oVal (.tmp 6) (kMove (.tmp 0)) (oVal (.tmp 7) (kUn lenSlA (.tmp 6)) (oVal (.tmp 8) (kMove (.con (.int .i64 0))) oNil)))
def K35r3:OpsF:=(oVal (.tmp 9) (kInt aLss (.tmp 8) (.tmp 7)) oNil)
def K35r4:OpsF:=(oVal (.tmp 10) (kTwo (ixsA 1) (.tmp 6) (.tmp 8)) (oVal (.tmp 11) (kLoad none (.tmp 10)) (oVal (.tmp 5) (kMove (.tmp 11)) oNil)))
def K35r5:OpsF:=(oVal (.tmp 12) (kMove (.tmp 5)) (oVal (.tmp 13) (kMove (.tmp 3)) (oVal (.tmp 14) (kInt aNeq (.tmp 12) (.tmp 13)) oNil)))
def K35r6:OpsF:=(oVal (.tmp 15) (kMove (.tmp 5)) (oVal (.tmp 2) (kMove (.tmp 15)) oNil))
def K35r7:OpsF:=(oVal (.tmp 16) (kInt aAdd (.tmp 8) (.con (.int .i64 1))) (oVal (.tmp 8) (kMove (.tmp 16)) oNil))
def K35l0:K:=(kSeq (kRegion K35r3 [9]) (kSeq (kCond (.tmp 9) kSkip (kExit 0)) (kSeq (kBlock 1 (kSeq (kRegion K35r4 [5]) (kSeq (kRegion K35r5 [14]) (kCond (.tmp 14) (kSeq (kRegion K35r6 [2]) kRet) kSkip)))) (kRegion K35r7 [8]))))
def K35r8:OpsF:=(oVal (.tmp 17) (kMove (.tmp 3)) (oVal (.tmp 2) (kMove (.tmp 17)) oNil))
theorem res35:Try.f35.results.toList=[.tmp 2]:=by kernel_rfl
def K35:K:=(kSeq (kRegion K35r0 [2]) (kSeq (kRegion K35r1 [3]) (kSeq (kSeq (kRegion K35r2 [6,7,8]) (kBlock 0 (kLoop K35l0))) (kSeq (kRegion K35r8 [2]) kRet))))
theorem enter35 (cl:CallF) (a0:AV) (s:St):enterA Try.prog X cl 35 [a0] s Try.f35=finA Try.prog Try.f35 (K35 cl ⟨35,none,Try.f35.ntmps,X 35⟩ (paramsEnv 0 [a0] .nil) [] s) :=
  enterA_eq (b:=Try.f35.body.getD .skip) (by kernel_rfl) (by kernel_rfl) (by kernel_rfl) (by kernel_rfl) (by kernel_rfl)
def K58r0:OpsF:=(oVal (.tmp 6) (kMove (.con (.int .i64 0))) oNil)
def K58r1:OpsF:=(oVal (.tmp 8) (kMove (.tmp 0)) (oVal (.tmp 9) (kMove (.tmp 1)) (oVal (.tmp 10) (kInt aLss (.tmp 8) (.tmp 9)) (oVal (.tmp 7) (kMove (.tmp 10)) oNil))))
def K58r2:OpsF:=(oVal (.tmp 6) (kMove (.con (.int .i64 7))) oNil)
def K58r3:OpsF:=(oVal (.tmp 12) (kMove (.tmp 0)) (oVal (.tmp 13) (kMove (.tmp 2)) (oVal (.tmp 14) (kGtr (.tmp 12) (.tmp 13)) (oVal (.tmp 11) (kMove (.tmp 14)) oNil))))
def K58r4:OpsF:=(oVal (.tmp 6) (kMove (.con (.int .i64 6))) oNil)
def K58r5:OpsF:=(oVal (.tmp 6) (kMove (.con (.int .i64 0))) oNil)
theorem res58:Try.f58.results.toList=[.tmp 6]:=by kernel_rfl
def K58:K:=(kSeq (kRegion K58r0 [6]) (kSeq (kBlock 0 (kSeq (kRegion K58r1 [7]) (kCond (.tmp 7) (kSeq (kRegion K58r2 [6]) kRet) (kSeq (kRegion K58r3 [11]) (kCond (.tmp 11) (kSeq (kRegion K58r4 [6]) kRet) kSkip))))) (kSeq (kRegion K58r5 [6]) kRet)))
theorem enter58 (cl:CallF) (a0 a1 a2:AV) (s:St):enterA Try.prog X cl 58 [a0,a1,a2] s Try.f58=finA Try.prog Try.f58 (K58 cl ⟨58,none,Try.f58.ntmps,X 58⟩ (paramsEnv 0 [a0,a1,a2] .nil) [] s) :=
  enterA_eq (b:=Try.f58.body.getD .skip) (by kernel_rfl) (by kernel_rfl) (by kernel_rfl) (by kernel_rfl) (by kernel_rfl)
def K43r0:OpsF:=(oVal (.tmp 4) (kMove (.con (.int .i64 0))) oNil)
def K43r1s6:OpsF:=(oVal (.tmp 11) (kPick (.tmp 7) (.con (.bool true)) (.tmp 10)) oNil)
def K43r1s5:OpsF:=(oIf 7 false (oVal (.tmp 10) (kInt aGeq (.tmp 8) (.tmp 9)) K43r1s6) (oSkip (.tmp 10) K43r1s6))
def K43r1s4:OpsF:=(oIf 7 false (oVal (.tmp 9) (kMove (.tmp 1)) K43r1s5) (oSkip (.tmp 9) K43r1s5))
def K43r1:OpsF:=(oVal (.tmp 5) (kMove (.tmp 0)) (oVal (.tmp 6) (kInt aLss (.tmp 5) (.con (.int .i64 0))) (oVal (.tmp 7) (kMove (.tmp 6)) (oIf 7 false (oVal (.tmp 8) (kMove (.tmp 0)) K43r1s4) (oSkip (.tmp 8) K43r1s4)))))
def K43r2:OpsF:=(oVal (.tmp 4) (kMove (.con (.int .i64 3))) oNil)
def K43r3:OpsF:=(oVal (.tmp 4) (kMove (.con (.int .i64 0))) oNil)
theorem res43:Try.f43.results.toList=[.tmp 4]:=by kernel_rfl
def K43:K:=(kSeq (kRegion K43r0 [4]) (kSeq (kSeq (kRegion K43r1 [11]) (kCond (.tmp 11) (kSeq (kRegion K43r2 [4]) kRet) kSkip)) (kSeq (kRegion K43r3 [4]) kRet)))
theorem enter43 (cl:CallF) (a0 a1:AV) (s:St):enterA Try.prog X cl 43 [a0,a1] s Try.f43=finA Try.prog Try.f43 (K43 cl ⟨43,none,Try.f43.ntmps,X 43⟩ (paramsEnv 0 [a0,a1] .nil) [] s) :=
  enterA_eq (b:=Try.f43.body.getD .skip) (by kernel_rfl) (by kernel_rfl) (by kernel_rfl) (by kernel_rfl) (by kernel_rfl)
def K71r0:OpsF:=(oVal (.tmp 3) (kBox (tag 38) (.tmp 0)) (oVal (.tmp 6) (kMove (.con (.int .i64 0))) oNil))
def K71r1:OpsF:=(oEnd [] (oVal (.tmp 8) (kUn (fadA 0) (.tmp 3)) (oVal (.tmp 9) (kLoad none (.tmp 8)) (oVal (.tmp 10) (kMove (.tmp 1)) (oVal (.tmp 11) (kMove (.tmp 2)) (oCallT (some [13]) (.tmp 12) (.con (.func 56 [] [])) [(.tmp 9),(.tmp 10),(.tmp 11)] (oVal (.tmp 13) (kUn (fadA 1) (.tmp 3)) (oVal (.tmp 14) (kLoad none (.tmp 13)) (oVal (.tmp 15) (kMove (.tmp 1)) (oVal (.tmp 16) (kMove (.tmp 2)) (oCall (.tmp 17) (.con (.func 56 [] [])) [(.tmp 14),(.tmp 15),(.tmp 16)] (oVal (.tmp 18) (kBuildSlice [(.int .i64 0),(.int .i64 0)] 2 [(0,1,(.tmp 12)),(1,1,(.tmp 17))]) (oCall (.tmp 19) (.con (.func 35 [] [])) [(.tmp 18)] (oVal (.tmp 7) (kMove (.tmp 19)) oNil))))))))))))))
def K71r2:OpsF:=(oVal (.tmp 20) (kMove (.tmp 7)) (oVal (.tmp 21) (kInt aNeq (.tmp 20) (.con (.int .i64 0))) oNil))
def K71r3:OpsF:=(oVal (.tmp 22) (kMove (.tmp 7)) (oVal (.tmp 6) (kMove (.tmp 22)) oNil))
def K71r4:OpsF:=(oVal (.tmp 23) (kUn (fadA 0) (.tmp 3)) (oVal (.tmp 24) (kLoad none (.tmp 23)) (oVal (.tmp 25) (kUn (fadA 1) (.tmp 3)) (oVal (.tmp 26) (kLoad none (.tmp 25)) (oVal (.tmp 27) (kGtr (.tmp 24) (.tmp 26)) oNil)))))
def K71r5:OpsF:=(oVal (.tmp 6) (kMove (.con (.int .i64 5))) oNil)
def K71r6:OpsF:=(oVal (.tmp 6) (kMove (.con (.int .i64 0))) oNil)
theorem res71:Try.f71.results.toList=[.tmp 6]:=by kernel_rfl
def K71:K:=(kSeq (kRegion K71r0 [3,6]) (kSeq (kSeq (kRegionD K71r1 [7]) (kSeq (kRegion K71r2 [21]) (kCond (.tmp 21) (kSeq (kRegion K71r3 [6]) kRet) kSkip))) (kSeq (kSeq (kRegion K71r4 [27]) (kCond (.tmp 27) (kSeq (kRegion K71r5 [6]) kRet) kSkip)) (kSeq (kRegion K71r6 [6]) kRet))))
theorem enter71 (cl:CallF) (a0 a1 a2:AV) (s:St):enterA Try.prog X cl 71 [a0,a1,a2] s Try.f71=finA Try.prog Try.f71 (K71 cl ⟨71,none,Try.f71.ntmps,X 71⟩ (paramsEnv 0 [a0,a1,a2] .nil) [] s) :=
  enterA_eq (b:=Try.f71.body.getD .skip) (by kernel_rfl) (by kernel_rfl) (by kernel_rfl) (by kernel_rfl) (by kernel_rfl)
def K56r0:OpsF:=(oVal (.tmp 6) (kMove (.con (.int .i64 0))) oNil)
def K56r1s7:OpsF:=(oVal (.tmp 14) (kPick (.tmp 10) (.con (.bool true)) (.tmp 13)) oNil)
def K56r1s6:OpsF:=(oIf 10 false (oVal (.tmp 13) (kGtr (.tmp 11) (.tmp 12)) K56r1s7) (oSkip (.tmp 13) K56r1s7))
def K56r1s5:OpsF:=(oIf 10 false (oVal (.tmp 12) (kMove (.tmp 2)) K56r1s6) (oSkip (.tmp 12) K56r1s6))
def K56r1:OpsF:=(oVal (.tmp 7) (kMove (.tmp 0)) (oVal (.tmp 8) (kMove (.tmp 1)) (oVal (.tmp 9) (kInt aLss (.tmp 7) (.tmp 8)) (oVal (.tmp 10) (kMove (.tmp 9)) (oIf 10 false (oVal (.tmp 11) (kMove (.tmp 0)) K56r1s5) (oSkip (.tmp 11) K56r1s5))))))
def K56r2:OpsF:=(oVal (.tmp 6) (kMove (.con (.int .i64 1))) oNil)
def K56r3:OpsF:=(oVal (.tmp 6) (kMove (.con (.int .i64 0))) oNil)
theorem res56:Try.f56.results.toList=[.tmp 6]:=by kernel_rfl
def K56:K:=(kSeq (kRegion K56r0 [6]) (kSeq (kSeq (kRegion K56r1 [14]) (kCond (.tmp 14) (kSeq (kRegion K56r2 [6]) kRet) kSkip)) (kSeq (kRegion K56r3 [6]) kRet)))
theorem enter56 (cl:CallF) (a0 a1 a2:AV) (s:St):enterA Try.prog X cl 56 [a0,a1,a2] s Try.f56=finA Try.prog Try.f56 (K56 cl ⟨56,none,Try.f56.ntmps,X 56⟩ (paramsEnv 0 [a0,a1,a2] .nil) [] s) :=
  enterA_eq (b:=Try.f56.body.getD .skip) (by kernel_rfl) (by kernel_rfl) (by kernel_rfl) (by kernel_rfl) (by kernel_rfl)
def K36r0:OpsF:=(oVal (.tmp 1) (kBox (tag 27) (.tmp 0)) (oVal (.tmp 2) (kMove (.con (.int .i64 0))) oNil))
def K36r1:OpsF:=(oEnd [] (oVal (.tmp 3) (kUn (fadA 0) (.tmp 1)) (oVal (.tmp 4) (kLoad none (.tmp 3)) (oCallT (some [6,1]) (.tmp 5) (.con (.func 56 [] [])) [(.tmp 4),(.con (.int .i64 1)),(.con (.int .i64 8))] (oVal (.tmp 6) (kUn (fadA 1) (.tmp 1)) (oVal (.tmp 7) (kLoad none (.tmp 6)) (oCallT (some [1]) (.tmp 8) (.con (.func 56 [] [])) [(.tmp 7),(.con (.int .i64 1)),(.con (.int .i64 8))] (oVal (.tmp 9) (kLoad (some 3) (.tmp 1)) (oCall (.tmp 10) (.con (.func 57 [] [])) [(.tmp 9)] (oVal (.tmp 11) (kBuildSlice [(.int .i64 0),(.int .i64 0),(.int .i64 0)] 3 [(0,1,(.tmp 5)),(1,1,(.tmp 8)),(2,1,(.tmp 10))]) (oCall (.tmp 12) (.con (.func 35 [] [])) [(.tmp 11)] (oVal (.tmp 2) (kMove (.tmp 12)) oNil))))))))))))
theorem res36:Try.f36.results.toList=[.tmp 2]:=by kernel_rfl
def K36:K:=(kSeq (kRegion K36r0 [1,2]) (kSeq (kRegionD K36r1 [2]) kRet))
theorem enter36 (cl:CallF) (a0:AV) (s:St):enterA Try.prog X cl 36 [a0] s Try.f36=finA Try.prog Try.f36 (K36 cl ⟨36,none,Try.f36.ntmps,X 36⟩ (paramsEnv 0 [a0] .nil) [] s) :=
  enterA_eq (b:=Try.f36.body.getD .skip) (by kernel_rfl) (by kernel_rfl) (by kernel_rfl) (by kernel_rfl) (by kernel_rfl)
def K57r0:OpsF:=(oVal (.tmp 1) (kBox (tag 27) (.tmp 0)) (oVal (.tmp 2) (kMove (.con (.int .i64 0))) oNil))
def K57r1:OpsF:=(oVal (.tmp 7) (kUn (fadA 2) (.tmp 1)) (oVal (.tmp 8) (kLoad none (.tmp 7)) (oVal (.tmp 9) (kUn lenSlA (.tmp 8)) (oCall (.tmp 10) (.con (.func 58 [] [])) [(.tmp 9),(.con (.int .i64 0)),(.con (.int .i64 40))] (oVal (.tmp 3) (kMove (.tmp 10)) oNil)))))
def K57r2:OpsF:=(oVal (.tmp 11) (kMove (.tmp 3)) (oVal (.tmp 12) (kInt aNeq (.tmp 11) (.con (.int .i64 0))) oNil))
def K57r3:OpsF:=(oVal (.tmp 13) (kMove (.tmp 3)) (oVal (.tmp 2) (kMove (.tmp 13)) oNil))
def K57r4:OpsF:=(oVal (.tmp 14) (kUn (fadA 2) (.tmp 1)) (oVal (.tmp 15) (kLoad none (.tmp 14)) (oVal (.tmp 16) (kUn lenSlA (.tmp 15)) (oVal (.tmp 17) (kMove (.con (.int .i64 0))) oNil))))
def K57r5:OpsF:=(oVal (.tmp 18) (kInt aLss (.tmp 17) (.tmp 16)) oNil)
def K57r6:OpsF:=(oVal (.tmp 19) (kTwo (ixsA 6) (.tmp 15) (.tmp 17)) (oVal (.tmp 20) (kLoad (some 6) (.tmp 19)) (oVal (.tmp 5) (kAlloc [(.int .i64 0),(.int .i64 0),(.int .i64 0),(.int .i64 0),(.int .i64 0),(.int .i64 0)] (tag 51)) (oVal .none (kStore 6 (.tmp 5) (.tmp 20)) oNil))))
def K57r7:OpsF:=(oEnd [] (oVal (.tmp 21) (kUn (fadA 0) (.tmp 5)) (oVal (.tmp 22) (kLoad none (.tmp 21)) (oVal (.tmp 23) (kUn (fadA 0) (.tmp 1)) (oVal (.tmp 24) (kLoad none (.tmp 23)) (oCallT (some [26,28,31,34]) (.tmp 25) (.con (.func 43 [] [])) [(.tmp 22),(.tmp 24)] (oVal (.tmp 26) (kUn (fadA 1) (.tmp 5)) (oVal (.tmp 27) (kLoad none (.tmp 26)) (oVal (.tmp 28) (kUn (fadA 1) (.tmp 1)) (oVal (.tmp 29) (kLoad none (.tmp 28)) (oCallT (some [31,34]) (.tmp 30) (.con (.func 43 [] [])) [(.tmp 27),(.tmp 29)] (oVal (.tmp 31) (kUn (fadA 2) (.tmp 5)) (oVal (.tmp 32) (kLoad (some 2) (.tmp 31)) (oCallT (some [34]) (.tmp 33) (.con (.func 71 [] [])) [(.tmp 32),(.con (.int .i64 0)),(.con (.int .i64 100000))] (oVal (.tmp 34) (kUn (fadA 4) (.tmp 5)) (oVal (.tmp 35) (kLoad (some 2) (.tmp 34)) (oCall (.tmp 36) (.con (.func 71 [] [])) [(.tmp 35),(.con (.int .i64 0)),(.con (.int .i64 100000))] (oVal (.tmp 37) (kBuildSlice [(.int .i64 0),(.int .i64 0),(.int .i64 0),(.int .i64 0)] 4 [(0,1,(.tmp 25)),(1,1,(.tmp 30)),(2,1,(.tmp 33)),(3,1,(.tmp 36))]) (oCall (.tmp 38) (.con (.func 35 [] [])) [(.tmp 37)] (oVal (.tmp 6) (kMove (.tmp 38)) oNil))))))))))))))))))))
def K57r8:OpsF:=(oVal (.tmp 39) (kMove (.tmp 6)) (oVal (.tmp 40) (kInt aNeq (.tmp 39) (.con (.int .i64 0))) oNil))
def K57r9:OpsF:=(oVal (.tmp 41) (kMove (.tmp 6)) (oVal (.tmp 2) (kMove (.tmp 41)) oNil))
def K57r10:OpsF:=(oVal (.tmp 42) (kInt aAdd (.tmp 17) (.con (.int .i64 1))) (oVal (.tmp 17) (kMove (.tmp 42)) oNil))
def K57l0:K:=(kSeq (kRegion K57r5 [18]) (kSeq (kCond (.tmp 18) kSkip (kExit 0)) (kSeq (kBlock 1 (kSeq (kRegion K57r6 [5]) (kSeq (kRegionD K57r7 [6]) (kSeq (kRegion K57r8 [40]) (kCond (.tmp 40) (kSeq (kRegion K57r9 [2]) kRet) kSkip))))) (kRegion K57r10 [17]))))
def K57r11:OpsF:=(oVal (.tmp 2) (kMove (.con (.int .i64 0))) oNil)
theorem res57:Try.f57.results.toList=[.tmp 2]:=by kernel_rfl
def K57:K:=(kSeq (kRegion K57r0 [1,2]) (kSeq (kSeq (kRegion K57r1 [3]) (kSeq (kRegion K57r2 [12]) (kCond (.tmp 12) (kSeq (kRegion K57r3 [2]) kRet) kSkip))) (kSeq (kSeq (kRegion K57r4 [15,16,17]) (kBlock 0 (kLoop K57l0))) (kSeq (kRegion K57r11 [2]) kRet))))
theorem enter57 (cl:CallF) (a0:AV) (s:St):enterA Try.prog X cl 57 [a0] s Try.f57=finA Try.prog Try.f57 (K57 cl ⟨57,none,Try.f57.ntmps,X 57⟩ (paramsEnv 0 [a0] .nil) [] s) :=
  enterA_eq (b:=Try.f57.body.getD .skip) (by kernel_rfl) (by kernel_rfl) (by kernel_rfl) (by kernel_rfl) (by kernel_rfl)
end
end Go.Proofs.Ytamlnddeiokbdaa.code
set_option maxRecDepth 100000
namespace Go.Proofs.Ytamlnddeiokbdaa.code
open Go.Abs
noncomputable section
def K17r0:OpsF:=(oVal (.tmp 2) (kBox (tag 27) (.tmp 0)) (oVal (.tmp 3) (kBox (tag 3) (.tmp 1)) (oVal (.tmp 4) (kAlloc [(.int .i64 0),(.int .i64 0)] (tag 38)) (oVal (.tmp 5) (kMove (.con (.int .i64 0))) oNil))))
def K17r1:OpsF:=(oEnd [] (oVal (.tmp 7) (kLoad (some 3) (.tmp 2)) (oCallT (some [3,10]) (.tmp 8) (.con (.func 36 [] [])) [(.tmp 7)] (oVal (.tmp 9) (kLoad none (.tmp 3)) (oVal (.tmp 10) (kUn (fadA 0) (.tmp 2)) (oVal (.tmp 11) (kLoad none (.tmp 10)) (oCall (.tmp 12) (.con (.func 43 [] [])) [(.tmp 9),(.tmp 11)] (oVal (.tmp 13) (kBuildSlice [(.int .i64 0),(.int .i64 0)] 2 [(0,1,(.tmp 8)),(1,1,(.tmp 12))]) (oCall (.tmp 14) (.con (.func 35 [] [])) [(.tmp 13)] (oVal (.tmp 6) (kMove (.tmp 14)) oNil))))))))))
def K17r2:OpsF:=(oVal (.tmp 15) (kMove (.tmp 6)) (oVal (.tmp 16) (kInt aNeq (.tmp 15) (.con (.int .i64 0))) oNil))
def K17r3:OpsF:=(oVal (.tmp 17) (kBuild [(.int .i64 0),(.int .i64 0)] []) (oVal (.tmp 18) (kMove (.tmp 6)) (oVal .none (kStore 2 (.tmp 4) (.tmp 17)) (oVal (.tmp 5) (kMove (.tmp 18)) oNil))))
def K17r4:OpsF:=(oVal (.tmp 19) (kFunc 50 [] [(.tmp 2),(.tmp 3)]) (oCall (.tmp 20) (.con (.func 38 [] [])) [(.tmp 19)] (oVal .none (kStore 2 (.tmp 4) (.tmp 20)) (oVal (.tmp 5) (kMove (.con (.int .i64 0))) oNil))))
theorem res17:Try.f17.results.toList=[.cell 4 38,.tmp 5]:=by kernel_rfl
def K17:K:=(kSeq (kRegion K17r0 [2,3,4,5]) (kSeq (kSeq (kRegionD K17r1 [6]) (kSeq (kRegion K17r2 [16]) (kCond (.tmp 16) (kSeq (kRegion K17r3 [5]) kRet) kSkip))) (kSeq (kRegion K17r4 [5]) kRet)))
theorem enter17 (cl:CallF) (a0 a1:AV) (s:St):enterA Try.prog X cl 17 [a0,a1] s Try.f17=finA Try.prog Try.f17 (K17 cl ⟨17,none,Try.f17.ntmps,X 17⟩ (paramsEnv 0 [a0,a1] .nil) [] s) :=
  enterA_eq (b:=Try.f17.body.getD .skip) (by kernel_rfl) (by kernel_rfl) (by kernel_rfl) (by kernel_rfl) (by kernel_rfl)
def K50r0:OpsF:=(oVal (.tmp 3) (kBox (tag 82) (.tmp 0)) (oVal (.tmp 4) (kMove (.con (.int .i64 0))) oNil))
def K50r1:OpsF:=(oEnd [] (oVal (.tmp 5) (kLoad (some 2) (.tmp 3)) (oVal (.tmp 6) (kUn (fadA 2) (.tmp 1)) (oVal (.tmp 7) (kLoad none (.tmp 6)) (oCallT (some [2]) (.tmp 8) (.con (.func 41 [] [])) [(.tmp 5),(.tmp 7)] (oVal (.tmp 9) (kLoad none (.tmp 2)) (oVal (.tmp 10) (kLook .int (.int .i64 0) false (.tmp 8) (.tmp 9)) (oVal (.tmp 4) (kMove (.tmp 10)) oNil))))))))
theorem res50:Try.f50.results.toList=[.tmp 4]:=by kernel_rfl
def K50:K:=(kSeq (kRegion K50r0 [3,4]) (kSeq (kRegionD K50r1 [4]) kRet))
theorem enter50 (cl:CallF) (a0 a1 a2:AV) (s:St):enterA Try.prog X cl 50 [a0,a1,a2] s Try.f50=finA Try.prog Try.f50 (K50 cl ⟨50,none,Try.f50.ntmps,X 50⟩ (paramsEnv 0 [a0,a1,a2] .nil) [] s) :=
  enterA_eq (b:=Try.f50.body.getD .skip) (by kernel_rfl) (by kernel_rfl) (by kernel_rfl) (by kernel_rfl) (by kernel_rfl)
def K38r0:OpsF:=(oVal (.tmp 2) (kAlloc [(.int .i64 0),(.int .i64 0)] (tag 38)) oNil)
def K38r1:OpsF:=(oVal (.tmp 3) (kMove (.con (.func 60 [] []))) oNil)
def K38r2:OpsF:=(oVal (.tmp 4) (kMove (.con (.func 61 [] []))) oNil)
def K38r3:OpsF:=(oVal (.tmp 5) (kMove (.tmp 0)) (oVal (.tmp 6) (kMove (.tmp 3)) (oVal (.tmp 7) (kMove (.tmp 4)) (oVal (.tmp 8) (kBuild [.nilfunc,.nilfunc] [(0,1,(.tmp 6)),(1,1,(.tmp 7))]) (oCall (.tmp 9) (.tmp 5) [(.tmp 8)] (oVal (.tmp 10) (kMove (.tmp 0)) (oVal (.tmp 11) (kMove (.tmp 4)) (oVal (.tmp 12) (kMove (.tmp 3)) (oVal (.tmp 13) (kBuild [.nilfunc,.nilfunc] [(0,1,(.tmp 11)),(1,1,(.tmp 12))]) (oCall (.tmp 14) (.tmp 10) [(.tmp 13)] (oVal (.tmp 15) (kBuild [(.int .i64 0),(.int .i64 0)] [(0,1,(.tmp 9)),(1,1,(.tmp 14))]) (oVal .none (kStore 2 (.tmp 2) (.tmp 15)) oNil))))))))))))
theorem res38:Try.f38.results.toList=[.cell 2 38]:=by kernel_rfl
def K38:K:=(kSeq (kRegion K38r0 [2]) (kSeq (kRegion K38r1 [3]) (kSeq (kRegion K38r2 [4]) (kSeq (kRegion K38r3 []) kRet))))
theorem enter38 (cl:CallF) (a0:AV) (s:St):enterA Try.prog X cl 38 [a0] s Try.f38=finA Try.prog Try.f38 (K38 cl ⟨38,none,Try.f38.ntmps,X 38⟩ (paramsEnv 0 [a0] .nil) [] s) :=
  enterA_eq (b:=Try.f38.body.getD .skip) (by kernel_rfl) (by kernel_rfl) (by kernel_rfl) (by kernel_rfl) (by kernel_rfl)
def K60r0:OpsF:=(oVal (.tmp 1) (kBox (tag 38) (.tmp 0)) (oVal (.tmp 2) (kMove (.con (.int .i64 0))) oNil))
def K60r1:OpsF:=(oVal (.tmp 3) (kUn (fadA 0) (.tmp 1)) (oVal (.tmp 4) (kLoad none (.tmp 3)) (oVal (.tmp 2) (kMove (.tmp 4)) oNil)))
theorem res60:Try.f60.results.toList=[.tmp 2]:=by kernel_rfl
def K60:K:=(kSeq (kRegion K60r0 [1,2]) (kSeq (kRegion K60r1 [2]) kRet))
theorem enter60 (cl:CallF) (a0:AV) (s:St):enterA Try.prog X cl 60 [a0] s Try.f60=finA Try.prog Try.f60 (K60 cl ⟨60,none,Try.f60.ntmps,X 60⟩ (paramsEnv 0 [a0] .nil) [] s) :=
  enterA_eq (b:=Try.f60.body.getD .skip) (by kernel_rfl) (by kernel_rfl) (by kernel_rfl) (by kernel_rfl) (by kernel_rfl)
def K61r0:OpsF:=(oVal (.tmp 1) (kBox (tag 38) (.tmp 0)) (oVal (.tmp 2) (kMove (.con (.int .i64 0))) oNil))
def K61r1:OpsF:=(oVal (.tmp 3) (kUn (fadA 1) (.tmp 1)) (oVal (.tmp 4) (kLoad none (.tmp 3)) (oVal (.tmp 2) (kMove (.tmp 4)) oNil)))
theorem res61:Try.f61.results.toList=[.tmp 2]:=by kernel_rfl
def K61:K:=(kSeq (kRegion K61r0 [1,2]) (kSeq (kRegion K61r1 [2]) kRet))
theorem enter61 (cl:CallF) (a0:AV) (s:St):enterA Try.prog X cl 61 [a0] s Try.f61=finA Try.prog Try.f61 (K61 cl ⟨61,none,Try.f61.ntmps,X 61⟩ (paramsEnv 0 [a0] .nil) [] s) :=
  enterA_eq (b:=Try.f61.body.getD .skip) (by kernel_rfl) (by kernel_rfl) (by kernel_rfl) (by kernel_rfl) (by kernel_rfl)
def K41r0:OpsF:=(oVal (.tmp 2) (kBox (tag 82) (.tmp 0)) (oVal (.tmp 4) (kMove (.con .nilmap)) oNil))
def K41r1:OpsF:=(oVal (.tmp 8) kMap (oVal (.tmp 5) (kMove (.tmp 8)) oNil))
def K41r2:OpsF:=(oVal (.tmp 9) (kMove (.tmp 1)) (oVal (.tmp 10) (kUn lenSlA (.tmp 9)) (oVal (.tmp 11) (kMove (.con (.int .i64 0))) oNil)))
def K41r3:OpsF:=(oVal (.tmp 12) (kInt aLss (.tmp 11) (.tmp 10)) oNil)
def K41r4:OpsF:=(oVal (.tmp 13) (kTwo (ixsA 6) (.tmp 9) (.tmp 11)) (oVal (.tmp 14) (kLoad (some 6) (.tmp 13)) (oVal (.tmp 7) (kAlloc [(.int .i64 0),(.int .i64 0),(.int .i64 0),(.int .i64 0),(.int .i64 0),(.int .i64 0)] (tag 51)) (oVal .none (kStore 6 (.tmp 7) (.tmp 14)) oNil))))
def K41r5:OpsF:=(oEnd [] (oVal (.tmp 15) (kMove (.tmp 5)) (oVal (.tmp 16) (kUn (fadA 0) (.tmp 7)) (oVal (.tmp 17) (kLoad none (.tmp 16)) (oVal (.tmp 18) (kLook .int (.int .i64 0) false (.tmp 15) (.tmp 17)) (oVal (.tmp 19) (kLoad (some 2) (.tmp 2)) (oVal (.tmp 20) (kLoad (some 6) (.tmp 7)) (oCallT (some [16,15]) (.tmp 21) (.con (.func 62 [] [])) [(.tmp 19),(.tmp 20)] (oCallT (some [16,15]) (.tmp 22) (.con (.func 63 [] [])) [(.tmp 21)] (oVal (.tmp 23) (kInt aAdd (.tmp 18) (.tmp 22)) (oVal .none (kUpd .int (.tmp 15) (.tmp 17) (.tmp 23)) oNil)))))))))))
def K41r6:OpsF:=(oVal (.tmp 24) (kInt aAdd (.tmp 11) (.con (.int .i64 1))) (oVal (.tmp 11) (kMove (.tmp 24)) oNil))
def K41l0:K:=(kSeq (kRegion K41r3 [12]) (kSeq (kCond (.tmp 12) kSkip (kExit 0)) (kSeq (kBlock 1 (kSeq (kRegion K41r4 [7]) (kRegionD K41r5 []))) (kRegion K41r6 [11]))))
def K41r7:OpsF:=(oVal (.tmp 25) (kMove (.tmp 5)) (oVal (.tmp 4) (kMove (.tmp 25)) oNil))
theorem res41:Try.f41.results.toList=[.tmp 4]:=by kernel_rfl
def K41:K:=(kSeq (kRegion K41r0 [2,4]) (kSeq (kRegion K41r1 [5]) (kSeq (kSeq (kRegion K41r2 [9,10,11]) (kBlock 0 (kLoop K41l0))) (kSeq (kRegion K41r7 [4]) kRet))))
theorem enter41 (cl:CallF) (a0 a1:AV) (s:St):enterA Try.prog X cl 41 [a0,a1] s Try.f41=finA Try.prog Try.f41 (K41 cl ⟨41,none,Try.f41.ntmps,X 41⟩ (paramsEnv 0 [a0,a1] .nil) [] s) :=
  enterA_eq (b:=Try.f41.body.getD .skip) (by kernel_rfl) (by kernel_rfl) (by kernel_rfl) (by kernel_rfl) (by kernel_rfl)
def K62r0:OpsF:=(oVal (.tmp 2) (kBox (tag 82) (.tmp 0)) (oVal (.tmp 3) (kBox (tag 51) (.tmp 1)) (oVal (.tmp 4) (kAlloc [(.int .i64 0),(.int .i64 0)] (tag 103)) oNil)))
def K62r1:OpsF:=(oEnd [] (oVal (.tmp 5) (kUn (fadA 0) (.tmp 2)) (oVal (.tmp 6) (kLoad none (.tmp 5)) (oVal (.tmp 7) (kUn (fadA 2) (.tmp 3)) (oVal (.tmp 8) (kLoad (some 2) (.tmp 7)) (oCallT (some [10,12]) (.tmp 9) (.tmp 6) [(.tmp 8)] (oVal (.tmp 10) (kUn (fadA 0) (.tmp 2)) (oVal (.tmp 11) (kLoad none (.tmp 10)) (oVal (.tmp 12) (kUn (fadA 4) (.tmp 3)) (oVal (.tmp 13) (kLoad (some 2) (.tmp 12)) (oCall (.tmp 14) (.tmp 11) [(.tmp 13)] (oVal (.tmp 15) (kBuild [(.int .i64 0),(.int .i64 0)] [(0,1,(.tmp 9)),(1,1,(.tmp 14))]) (oVal .none (kStore 2 (.tmp 4) (.tmp 15)) oNil)))))))))))))
theorem res62:Try.f62.results.toList=[.cell 4 103]:=by kernel_rfl
def K62:K:=(kSeq (kRegion K62r0 [2,3,4]) (kSeq (kRegionD K62r1 []) kRet))
theorem enter62 (cl:CallF) (a0 a1:AV) (s:St):enterA Try.prog X cl 62 [a0,a1] s Try.f62=finA Try.prog Try.f62 (K62 cl ⟨62,none,Try.f62.ntmps,X 62⟩ (paramsEnv 0 [a0,a1] .nil) [] s) :=
  enterA_eq (b:=Try.f62.body.getD .skip) (by kernel_rfl) (by kernel_rfl) (by kernel_rfl) (by kernel_rfl) (by kernel_rfl)
def K63r0:OpsF:=(oVal (.tmp 1) (kBox (tag 103) (.tmp 0)) (oVal (.tmp 2) (kMove (.con (.int .i64 0))) oNil))
def K63r1:OpsF:=(oVal (.tmp 3) (kTwo (ixaA 2 1) (.tmp 1) (.con (.int .i64 0))) (oVal (.tmp 4) (kLoad none (.tmp 3)) (oVal (.tmp 5) (kTwo (ixaA 2 1) (.tmp 1) (.con (.int .i64 1))) (oVal (.tmp 6) (kLoad none (.tmp 5)) (oVal (.tmp 7) (kInt aMul (.tmp 4) (.tmp 6)) (oVal (.tmp 8) (kInt aQuo (.tmp 7) (.con (.int .i64 1000))) (oVal (.tmp 2) (kMove (.tmp 8)) oNil)))))))
theorem res63:Try.f63.results.toList=[.tmp 2]:=by kernel_rfl
def K63:K:=(kSeq (kRegion K63r0 [1,2]) (kSeq (kRegion K63r1 [2]) kRet))
theorem enter63 (cl:CallF) (a0:AV) (s:St):enterA Try.prog X cl 63 [a0] s Try.f63=finA Try.prog Try.f63 (K63 cl ⟨63,none,Try.f63.ntmps,X 63⟩ (paramsEnv 0 [a0] .nil) [] s) :=
  enterA_eq (b:=Try.f63.body.getD .skip) (by kernel_rfl) (by kernel_rfl) (by kernel_rfl) (by kernel_rfl) (by kernel_rfl)
end
end Go.Proofs.Ytamlnddeiokbdaa.code
set_option maxRecDepth 100000
namespace Go.Proofs.Ytamlnddeiokbdaa.code
open Go.Abs
noncomputable section
def K12r0:OpsF:=(oVal (.tmp 2) (kBox (tag 27) (.tmp 0)) (oVal (.tmp 3) (kBox (tag 29) (.tmp 1)) (oVal (.tmp 4) (kMove (.con .nilslice)) (oVal (.tmp 5) (kMove (.con (.int .i64 0))) oNil))))
def K12r1:OpsF:=(oEnd [] (oVal (.tmp 9) (kLoad (some 3) (.tmp 2)) (oCallT (some [3]) (.tmp 10) (.con (.func 36 [] [])) [(.tmp 9)] (oVal (.tmp 11) (kLoad none (.tmp 3)) (oCall (.tmp 12) (.con (.func 37 [] [])) [(.tmp 11)] (oVal (.tmp 13) (kBuildSlice [(.int .i64 0),(.int .i64 0)] 2 [(0,1,(.tmp 10)),(1,1,(.tmp 12))]) (oCall (.tmp 14) (.con (.func 35 [] [])) [(.tmp 13)] (oVal (.tmp 6) (kMove (.tmp 14)) oNil))))))))
def K12r2:OpsF:=(oVal (.tmp 15) (kMove (.tmp 6)) (oVal (.tmp 16) (kInt aNeq (.tmp 15) (.con (.int .i64 0))) oNil))
def K12r3:OpsF:=(oVal (.tmp 17) (kMove (.tmp 6)) (oVal (.tmp 4) (kMove (.con .nilslice)) (oVal (.tmp 5) (kMove (.tmp 17)) oNil)))
def K12r4:OpsF:=(oVal (.tmp 18) (kUn (fadA 0) (.tmp 2)) (oVal (.tmp 19) (kLoad none (.tmp 18)) (oVal (.tmp 20) (kMake [(.int .i64 0),(.int .i64 0)] 16 (.tmp 19) (.tmp 19)) (oVal (.tmp 7) (kMove (.tmp 20)) oNil))))
def K12r5:OpsF:=(oVal (.tmp 21) (kMove (.tmp 7)) (oVal (.tmp 22) (kUn lenSlA (.tmp 21)) (oVal (.tmp 23) (kMove (.con (.int .i64 0))) oNil)))
def K12r6:OpsF:=(oVal (.tmp 24) (kInt aLss (.tmp 23) (.tmp 22)) oNil)
def K12r7:OpsF:=(oVal (.tmp 25) (kMove (.tmp 23)) (oVal (.tmp 8) (kAlloc [(.int .i64 0)] (tag 3)) (oVal .none (kStore 1 (.tmp 8) (.tmp 25)) oNil)))
def K12r8:OpsF:=(oEnd [] (oVal (.tmp 26) (kMove (.tmp 7)) (oVal (.tmp 27) (kLoad none (.tmp 8)) (oVal (.tmp 28) (kFunc 39 [] [(.tmp 2),(.tmp 8),(.tmp 3)]) (oCallT (some [8]) (.tmp 29) (.con (.func 38 [] [])) [(.tmp 28)] (oVal (.tmp 30) (kTwo (ixsA 2) (.tmp 26) (.tmp 27)) (oVal .none (kStore 2 (.tmp 30) (.tmp 29)) oNil)))))))
def K12r9:OpsF:=(oVal (.tmp 31) (kInt aAdd (.tmp 23) (.con (.int .i64 1))) (oVal (.tmp 23) (kMove (.tmp 31)) oNil))
def K12l0:K:=(kSeq (kRegion K12r6 [24]) (kSeq (kCond (.tmp 24) kSkip (kExit 0)) (kSeq (kBlock 1 (kSeq (kRegion K12r7 [8]) (kRegionD K12r8 []))) (kRegion K12r9 [23]))))
def K12r10:OpsF:=(oVal (.tmp 32) (kMove (.tmp 7)) (oVal (.tmp 4) (kMove (.tmp 32)) (oVal (.tmp 5) (kMove (.con (.int .i64 0))) oNil)))
theorem res12:Try.f12.results.toList=[.tmp 4,.tmp 5]:=by kernel_rfl
def K12:K:=(kSeq (kRegion K12r0 [2,3,4,5]) (kSeq (kSeq (kRegionD K12r1 [6]) (kSeq (kRegion K12r2 [16]) (kCond (.tmp 16) (kSeq (kRegion K12r3 [4,5]) kRet) kSkip))) (kSeq (kRegion K12r4 [7]) (kSeq (kSeq (kRegion K12r5 [22,23]) (kBlock 0 (kLoop K12l0))) (kSeq (kRegion K12r10 [4,5]) kRet)))))
theorem enter12 (cl:CallF) (a0 a1:AV) (s:St):enterA Try.prog X cl 12 [a0,a1] s Try.f12=finA Try.prog Try.f12 (K12 cl ⟨12,none,Try.f12.ntmps,X 12⟩ (paramsEnv 0 [a0,a1] .nil) [] s) :=
  enterA_eq (b:=Try.f12.body.getD .skip) (by kernel_rfl) (by kernel_rfl) (by kernel_rfl) (by kernel_rfl) (by kernel_rfl)
def K39r0:OpsF:=(oVal (.tmp 4) (kBox (tag 82) (.tmp 0)) (oVal (.tmp 5) (kMove (.con (.int .i64 0))) oNil))
def K39r1:OpsF:=(oEnd [] (oVal (.tmp 6) (kLoad (some 2) (.tmp 4)) (oVal (.tmp 7) (kUn (fadA 2) (.tmp 1)) (oVal (.tmp 8) (kLoad none (.tmp 7)) (oCallT (some [2,3]) (.tmp 9) (.con (.func 41 [] [])) [(.tmp 6),(.tmp 8)] (oVal (.tmp 10) (kLoad none (.tmp 2)) (oVal (.tmp 11) (kLook .int (.int .i64 0) false (.tmp 9) (.tmp 10)) (oVal (.tmp 12) (kLoad none (.tmp 3)) (oCall (.tmp 13) (.con (.func 40 [] [])) [(.tmp 11),(.tmp 12)] (oVal (.tmp 5) (kMove (.tmp 13)) oNil))))))))))
theorem res39:Try.f39.results.toList=[.tmp 5]:=by kernel_rfl
def K39:K:=(kSeq (kRegion K39r0 [4,5]) (kSeq (kRegionD K39r1 [5]) kRet))
theorem enter39 (cl:CallF) (a0 a1 a2 a3:AV) (s:St):enterA Try.prog X cl 39 [a0,a1,a2,a3] s Try.f39=finA Try.prog Try.f39 (K39 cl ⟨39,none,Try.f39.ntmps,X 39⟩ (paramsEnv 0 [a0,a1,a2,a3] .nil) [] s) :=
  enterA_eq (b:=Try.f39.body.getD .skip) (by kernel_rfl) (by kernel_rfl) (by kernel_rfl) (by kernel_rfl) (by kernel_rfl)
def K40r0:OpsF:=(oVal (.tmp 4) (kMove (.con (.int .i64 0))) oNil)
def K40r1:OpsF:=(oVal (.tmp 5) (kMove (.con (.int .i64 0))) oNil)
def K40r2:OpsF:=(oVal (.tmp 9) (kMove (.tmp 1)) (oVal (.tmp 10) (kUn lenSlA (.tmp 9)) (oVal (.tmp 11) (kMove (.con (.int .i64 0))) oNil)))
def K40r3:OpsF:=(oVal (.tmp 12) (kInt aLss (.tmp 11) (.tmp 10)) oNil)
def K40r4:OpsF:=(oVal (.tmp 13) (kMove (.tmp 11)) (oVal (.tmp 14) (kTwo (ixsA 2) (.tmp 9) (.tmp 11)) (oVal (.tmp 15) (kLoad (some 2) (.tmp 14)) (oVal (.tmp 7) (kAlloc [(.int .i64 0),(.int .i64 0)] (tag 75)) (oVal (.tmp 6) (kMove (.tmp 13)) (oVal .none (kStore 2 (.tmp 7) (.tmp 15)) oNil))))))
def K40r5:OpsF:=(oVal (.tmp 16) (kMove (.tmp 0)) (oVal (.tmp 8) (kMove (.tmp 16)) oNil))
def K40r6:OpsF:=(oVal (.tmp 17) (kMove (.tmp 6)) (oVal (.tmp 18) (kInt aAdd (.tmp 17) (.con (.int .i64 1))) (oVal (.tmp 19) (kMove (.tmp 1)) (oVal (.tmp 20) (kUn lenSlA (.tmp 19)) (oVal (.tmp 21) (kInt aLss (.tmp 18) (.tmp 20)) oNil)))))
def K40r7:OpsF:=(oVal (.tmp 22) (kMove (.tmp 0)) (oVal (.tmp 23) (kMove (.tmp 1)) (oVal (.tmp 24) (kMove (.tmp 6)) (oVal (.tmp 25) (kInt aAdd (.tmp 24) (.con (.int .i64 1))) (oVal (.tmp 26) (kTwo (ixsA 2) (.tmp 23) (.tmp 25)) (oVal (.tmp 27) (kUn (fadA 0) (.tmp 26)) (oVal (.tmp 28) (kLoad none (.tmp 27)) (oVal (.tmp 29) (kFold minA (.tmp 22) [(.tmp 28)]) (oVal (.tmp 8) (kMove (.tmp 29)) oNil)))))))))
def K40r8:OpsF:=(oVal (.tmp 30) (kMove (.tmp 5)) (oVal (.tmp 31) (kMove (.tmp 8)) (oVal (.tmp 32) (kUn (fadA 0) (.tmp 7)) (oVal (.tmp 33) (kLoad none (.tmp 32)) (oVal (.tmp 34) (kInt aSub (.tmp 31) (.tmp 33)) (oVal (.tmp 35) (kFold maxA (.con (.int .i64 0)) [(.tmp 34)]) (oVal (.tmp 36) (kUn (fadA 1) (.tmp 7)) (oVal (.tmp 37) (kLoad none (.tmp 36)) (oVal (.tmp 38) (kInt aMul (.tmp 35) (.tmp 37)) (oVal (.tmp 39) (kInt aAdd (.tmp 30) (.tmp 38)) (oVal (.tmp 5) (kMove (.tmp 39)) oNil)))))))))))
def K40r9:OpsF:=(oVal (.tmp 40) (kInt aAdd (.tmp 11) (.con (.int .i64 1))) (oVal (.tmp 11) (kMove (.tmp 40)) oNil))
def K40l0:K:=(kSeq (kRegion K40r3 [12]) (kSeq (kCond (.tmp 12) kSkip (kExit 0)) (kSeq (kBlock 1 (kSeq (kRegion K40r4 [7,6]) (kSeq (kRegion K40r5 [8]) (kSeq (kSeq (kRegion K40r6 [21]) (kCond (.tmp 21) (kRegion K40r7 [8]) kSkip)) (kRegion K40r8 [5]))))) (kRegion K40r9 [11]))))
def K40r10:OpsF:=(oVal (.tmp 41) (kMove (.tmp 5)) (oVal (.tmp 42) (kInt aQuo (.tmp 41) (.con (.int .i64 1000))) (oVal (.tmp 4) (kMove (.tmp 42)) oNil)))
theorem res40:Try.f40.results.toList=[.tmp 4]:=by kernel_rfl
def K40:K:=(kSeq (kRegion K40r0 [4]) (kSeq (kRegion K40r1 [5]) (kSeq (kSeq (kRegion K40r2 [9,10,11]) (kBlock 0 (kLoop K40l0))) (kSeq (kRegion K40r10 [4]) kRet))))
theorem enter40 (cl:CallF) (a0 a1:AV) (s:St):enterA Try.prog X cl 40 [a0,a1] s Try.f40=finA Try.prog Try.f40 (K40 cl ⟨40,none,Try.f40.ntmps,X 40⟩ (paramsEnv 0 [a0,a1] .nil) [] s) :=
  enterA_eq (b:=Try.f40.body.getD .skip) (by kernel_rfl) (by kernel_rfl) (by kernel_rfl) (by kernel_rfl) (by kernel_rfl)
def K37r0:OpsF:=(oVal (.tmp 2) (kMove (.con (.int .i64 0))) oNil)
def K37r1:OpsF:=(oVal (.tmp 7) (kMove (.tmp 0)) (oVal (.tmp 8) (kUn lenSlA (.tmp 7)) (oCall (.tmp 9) (.con (.func 58 [] [])) [(.tmp 8),(.con (.int .i64 1)),(.con (.int .i64 5))] (oVal (.tmp 3) (kMove (.tmp 9)) oNil))))
def K37r2:OpsF:=(oVal (.tmp 10) (kMove (.tmp 3)) (oVal (.tmp 11) (kInt aNeq (.tmp 10) (.con (.int .i64 0))) oNil))
def K37r3:OpsF:=(oVal (.tmp 12) (kMove (.tmp 3)) (oVal (.tmp 2) (kMove (.tmp 12)) oNil))
def K37r4:OpsF:=(oVal (.tmp 13) (kMove (.tmp 0)) (oVal (.tmp 14) (kUn lenSlA (.tmp 13)) (oVal (.tmp 15) (kMove (.con (.int .i64 0))) oNil)))
def K37r5:OpsF:=(oVal (.tmp 16) (kInt aLss (.tmp 15) (.tmp 14)) oNil)
def K37r6:OpsF:=(oVal (.tmp 17) (kMove (.tmp 15)) (oVal (.tmp 18) (kTwo (ixsA 2) (.tmp 13) (.tmp 15)) (oVal (.tmp 19) (kLoad (some 2) (.tmp 18)) (oVal (.tmp 5) (kAlloc [(.int .i64 0),(.int .i64 0)] (tag 75)) (oVal (.tmp 4) (kMove (.tmp 17)) (oVal .none (kStore 2 (.tmp 5) (.tmp 19)) oNil))))))
def K37r7:OpsF:=(oEnd [] (oVal (.tmp 20) (kUn (fadA 0) (.tmp 5)) (oVal (.tmp 21) (kLoad none (.tmp 20)) (oCallT (some [23,26]) (.tmp 22) (.con (.func 56 [] [])) [(.tmp 21),(.con (.int .i64 0)),(.con (.int .i64 1000000000))] (oVal (.tmp 23) (kUn (fadA 1) (.tmp 5)) (oVal (.tmp 24) (kLoad none (.tmp 23)) (oCallT (some [26]) (.tmp 25) (.con (.func 56 [] [])) [(.tmp 24),(.con (.int .i64 0)),(.con (.int .i64 1000))] (oVal (.tmp 26) (kUn (fadA 0) (.tmp 5)) (oVal (.tmp 27) (kLoad none (.tmp 26)) (oVal (.tmp 28) (kMove (.tmp 0)) (oVal (.tmp 29) (kMove (.tmp 4)) (oVal (.tmp 30) (kSlice (sliceVal 2) (.tmp 28) none (some (.tmp 29))) (oCall (.tmp 31) (.con (.func 59 [] [])) [(.tmp 27),(.tmp 30)] (oVal (.tmp 32) (kBuildSlice [(.int .i64 0),(.int .i64 0),(.int .i64 0)] 3 [(0,1,(.tmp 22)),(1,1,(.tmp 25)),(2,1,(.tmp 31))]) (oCall (.tmp 33) (.con (.func 35 [] [])) [(.tmp 32)] (oVal (.tmp 6) (kMove (.tmp 33)) oNil))))))))))))))))
def K37r8:OpsF:=(oVal (.tmp 34) (kMove (.tmp 6)) (oVal (.tmp 35) (kInt aNeq (.tmp 34) (.con (.int .i64 0))) oNil))
def K37r9:OpsF:=(oVal (.tmp 36) (kMove (.tmp 6)) (oVal (.tmp 2) (kMove (.tmp 36)) oNil))
def K37r10:OpsF:=(oVal (.tmp 37) (kInt aAdd (.tmp 15) (.con (.int .i64 1))) (oVal (.tmp 15) (kMove (.tmp 37)) oNil))
def K37l0:K:=(kSeq (kRegion K37r5 [16]) (kSeq (kCond (.tmp 16) kSkip (kExit 0)) (kSeq (kBlock 1 (kSeq (kRegion K37r6 [5,4]) (kSeq (kRegionD K37r7 [6]) (kSeq (kRegion K37r8 [35]) (kCond (.tmp 35) (kSeq (kRegion K37r9 [2]) kRet) kSkip))))) (kRegion K37r10 [15]))))
def K37r11:OpsF:=(oVal (.tmp 2) (kMove (.con (.int .i64 0))) oNil)
theorem res37:Try.f37.results.toList=[.tmp 2]:=by kernel_rfl
def K37:K:=(kSeq (kRegion K37r0 [2]) (kSeq (kSeq (kRegion K37r1 [3]) (kSeq (kRegion K37r2 [11]) (kCond (.tmp 11) (kSeq (kRegion K37r3 [2]) kRet) kSkip))) (kSeq (kSeq (kRegion K37r4 [13,14,15]) (kBlock 0 (kLoop K37l0))) (kSeq (kRegion K37r11 [2]) kRet))))
theorem enter37 (cl:CallF) (a0:AV) (s:St):enterA Try.prog X cl 37 [a0] s Try.f37=finA Try.prog Try.f37 (K37 cl ⟨37,none,Try.f37.ntmps,X 37⟩ (paramsEnv 0 [a0] .nil) [] s) :=
  enterA_eq (b:=Try.f37.body.getD .skip) (by kernel_rfl) (by kernel_rfl) (by kernel_rfl) (by kernel_rfl) (by kernel_rfl)
def K59r0:OpsF:=(oVal (.tmp 4) (kMove (.con (.int .i64 0))) oNil)
def K59r1:OpsF:=(oVal (.tmp 5) (kMove (.tmp 1)) (oVal (.tmp 6) (kUn lenSlA (.tmp 5)) (oVal (.tmp 7) (kInt aEql (.tmp 6) (.con (.int .i64 0))) oNil)))
def K59r2:OpsF:=(oVal (.tmp 8) (kMove (.tmp 0)) (oVal (.tmp 9) (kInt aEql (.tmp 8) (.con (.int .i64 0))) (oCall (.tmp 10) (.con (.func 72 [] [])) [(.tmp 9),(.con (.int .i64 2))] (oVal (.tmp 4) (kMove (.tmp 10)) oNil))))
def K59r3:OpsF:=(oVal (.tmp 11) (kMove (.tmp 0)) (oVal (.tmp 12) (kMove (.tmp 1)) (oVal (.tmp 13) (kMove (.tmp 1)) (oVal (.tmp 14) (kUn lenSlA (.tmp 13)) (oVal (.tmp 15) (kInt aSub (.tmp 14) (.con (.int .i64 1))) (oVal (.tmp 16) (kTwo (ixsA 2) (.tmp 12) (.tmp 15)) (oVal (.tmp 17) (kUn (fadA 0) (.tmp 16)) (oVal (.tmp 18) (kLoad none (.tmp 17)) (oVal (.tmp 19) (kGtr (.tmp 11) (.tmp 18)) (oCall (.tmp 20) (.con (.func 72 [] [])) [(.tmp 19),(.con (.int .i64 5))] (oVal (.tmp 4) (kMove (.tmp 20)) oNil)))))))))))
theorem res59:Try.f59.results.toList=[.tmp 4]:=by kernel_rfl
def K59:K:=(kSeq (kRegion K59r0 [4]) (kSeq (kSeq (kRegion K59r1 [7]) (kCond (.tmp 7) (kSeq (kRegion K59r2 [4]) kRet) kSkip)) (kSeq (kRegion K59r3 [4]) kRet)))
theorem enter59 (cl:CallF) (a0 a1:AV) (s:St):enterA Try.prog X cl 59 [a0,a1] s Try.f59=finA Try.prog Try.f59 (K59 cl ⟨59,none,Try.f59.ntmps,X 59⟩ (paramsEnv 0 [a0,a1] .nil) [] s) :=
  enterA_eq (b:=Try.f59.body.getD .skip) (by kernel_rfl) (by kernel_rfl) (by kernel_rfl) (by kernel_rfl) (by kernel_rfl)
def K72r0:OpsF:=(oVal (.tmp 4) (kMove (.con (.int .i64 0))) oNil)
def K72r1:OpsF:=(oVal (.tmp 5) (kMove (.tmp 0)) oNil)
def K72r2:OpsF:=(oVal (.tmp 4) (kMove (.con (.int .i64 0))) oNil)
def K72r3:OpsF:=(oVal (.tmp 6) (kMove (.tmp 1)) (oVal (.tmp 4) (kMove (.tmp 6)) oNil))
theorem res72:Try.f72.results.toList=[.tmp 4]:=by kernel_rfl
def K72:K:=(kSeq (kRegion K72r0 [4]) (kSeq (kSeq (kRegion K72r1 [5]) (kCond (.tmp 5) (kSeq (kRegion K72r2 [4]) kRet) kSkip)) (kSeq (kRegion K72r3 [4]) kRet)))
theorem enter72 (cl:CallF) (a0 a1:AV) (s:St):enterA Try.prog X cl 72 [a0,a1] s Try.f72=finA Try.prog Try.f72 (K72 cl ⟨72,none,Try.f72.ntmps,X 72⟩ (paramsEnv 0 [a0,a1] .nil) [] s) :=
  enterA_eq (b:=Try.f72.body.getD .skip) (by kernel_rfl) (by kernel_rfl) (by kernel_rfl) (by kernel_rfl) (by kernel_rfl)
end
end Go.Proofs.Ytamlnddeiokbdaa.code
set_option maxRecDepth 100000
namespace Go.Proofs.Ytamlnddeiokbdaa.code
open Go.Abs
noncomputable section
def K30r0:OpsF:=(oVal (.tmp 2) (kMove (.con (.int .u64 0))) oNil)
def K30r1:OpsF:=(oVal (.tmp 4) (kMove (.tmp 0)) (oVal (.tmp 5) (kMove (.tmp 0)) (oVal (.tmp 6) (kUn nilA (.tmp 5)) (oVal (.tmp 7) (kUn (fadA 0) (.tmp 6)) (oVal (.tmp 8) (kLoad none (.tmp 7)) (oVal (.tmp 9) (kInt aAdd (.tmp 8) (.con (.int .u64 11562461410679940143))) (oVal (.tmp 10) (kUn nilA (.tmp 4)) (oVal (.tmp 11) (kUn (fadA 0) (.tmp 10)) (oVal .none (kStore 1 (.tmp 11) (.tmp 9)) oNil)))))))))
def K30r2:OpsF:=(oVal (.tmp 12) (kMove (.tmp 0)) (oVal (.tmp 13) (kUn nilA (.tmp 12)) (oVal (.tmp 14) (kUn (fadA 0) (.tmp 13)) (oVal (.tmp 15) (kLoad none (.tmp 14)) (oVal (.tmp 3) (kMove (.tmp 15)) oNil)))))
def K30r3:OpsF:=(oVal (.tmp 16) (kMove (.tmp 3)) (oVal (.tmp 17) (kMove (.tmp 3)) (oVal (.tmp 18) (kShr (.tmp 17) (.con (.int .u64 30))) (oVal (.tmp 19) (kInt aXor (.tmp 16) (.tmp 18)) (oVal (.tmp 20) (kInt aMul (.tmp 19) (.con (.int .u64 13787848793156543929))) (oVal (.tmp 3) (kMove (.tmp 20)) oNil))))))
def K30r4:OpsF:=(oVal (.tmp 21) (kMove (.tmp 3)) (oVal (.tmp 22) (kMove (.tmp 3)) (oVal (.tmp 23) (kShr (.tmp 22) (.con (.int .u64 27))) (oVal (.tmp 24) (kInt aXor (.tmp 21) (.tmp 23)) (oVal (.tmp 25) (kInt aMul (.tmp 24) (.con (.int .u64 10723151780598845931))) (oVal (.tmp 3) (kMove (.tmp 25)) oNil))))))
def K30r5:OpsF:=(oVal (.tmp 26) (kMove (.tmp 3)) (oVal (.tmp 27) (kMove (.tmp 3)) (oVal (.tmp 28) (kShr (.tmp 27) (.con (.int .u64 31))) (oVal (.tmp 29) (kInt aXor (.tmp 26) (.tmp 28)) (oVal (.tmp 2) (kMove (.tmp 29)) oNil)))))
theorem res30:Try.f30.results.toList=[.tmp 2]:=by kernel_rfl
def K30:K:=(kSeq (kRegion K30r0 [2]) (kSeq (kRegion K30r1 []) (kSeq (kRegion K30r2 [3]) (kSeq (kRegion K30r3 [3]) (kSeq (kRegion K30r4 [3]) (kSeq (kRegion K30r5 [2]) kRet))))))
theorem enter30 (cl:CallF) (a0:AV) (s:St):enterA Try.prog X cl 30 [a0] s Try.f30=finA Try.prog Try.f30 (K30 cl ⟨30,none,Try.f30.ntmps,X 30⟩ (paramsEnv 0 [a0] .nil) [] s) :=
  enterA_eq (b:=Try.f30.body.getD .skip) (by kernel_rfl) (by kernel_rfl) (by kernel_rfl) (by kernel_rfl) (by kernel_rfl)
def K33r0:OpsF:=(oVal (.tmp 4) (kMove (.con (.int .i64 0))) oNil)
def K33r1:OpsF:=(oVal (.tmp 5) (kMove (.tmp 1)) (oVal (.tmp 6) (kInt aLss (.tmp 5) (.con (.int .i64 2))) oNil))
def K33r2:OpsF:=(oVal (.tmp 4) (kMove (.con (.int .i64 0))) oNil)
def K33r3:OpsF:=(oVal (.tmp 7) (kMove (.tmp 0)) (oCall (.tmp 8) (.con (.func 30 [] [])) [(.tmp 7)] (oVal (.tmp 9) (kShr (.tmp 8) (.con (.int .u64 2))) (oVal (.tmp 10) (kMove (.tmp 1)) (oVal (.tmp 11) (kUn (cviA .u64) (.tmp 10)) (oVal (.tmp 12) (kInt aRem (.tmp 9) (.tmp 11)) (oVal (.tmp 13) (kUn (cviA .i64) (.tmp 12)) (oVal (.tmp 4) (kMove (.tmp 13)) oNil))))))))
theorem res33:Try.f33.results.toList=[.tmp 4]:=by kernel_rfl
def K33:K:=(kSeq (kRegion K33r0 [4]) (kSeq (kSeq (kRegion K33r1 [6]) (kCond (.tmp 6) (kSeq (kRegion K33r2 [4]) kRet) kSkip)) (kSeq (kRegion K33r3 [4]) kRet)))
theorem enter33 (cl:CallF) (a0 a1:AV) (s:St):enterA Try.prog X cl 33 [a0,a1] s Try.f33=finA Try.prog Try.f33 (K33 cl ⟨33,none,Try.f33.ntmps,X 33⟩ (paramsEnv 0 [a0,a1] .nil) [] s) :=
  enterA_eq (b:=Try.f33.body.getD .skip) (by kernel_rfl) (by kernel_rfl) (by kernel_rfl) (by kernel_rfl) (by kernel_rfl)
def K31r0:OpsF:=(oVal (.tmp 6) (kMove (.con (.int .i64 0))) oNil)
def K31r1:OpsF:=(oVal (.tmp 7) (kMove (.tmp 1)) (oVal (.tmp 8) (kMove (.tmp 0)) (oVal (.tmp 9) (kMove (.tmp 2)) (oVal (.tmp 10) (kMove (.tmp 1)) (oVal (.tmp 11) (kInt aSub (.tmp 9) (.tmp 10)) (oVal (.tmp 12) (kInt aAdd (.tmp 11) (.con (.int .i64 1))) (oCall (.tmp 13) (.con (.func 33 [] [])) [(.tmp 8),(.tmp 12)] (oVal (.tmp 14) (kInt aAdd (.tmp 7) (.tmp 13)) (oVal (.tmp 6) (kMove (.tmp 14)) oNil)))))))))
theorem res31:Try.f31.results.toList=[.tmp 6]:=by kernel_rfl
def K31:K:=(kSeq (kRegion K31r0 [6]) (kSeq (kRegion K31r1 [6]) kRet))
theorem enter31 (cl:CallF) (a0 a1 a2:AV) (s:St):enterA Try.prog X cl 31 [a0,a1,a2] s Try.f31=finA Try.prog Try.f31 (K31 cl ⟨31,none,Try.f31.ntmps,X 31⟩ (paramsEnv 0 [a0,a1,a2] .nil) [] s) :=
  enterA_eq (b:=Try.f31.body.getD .skip) (by kernel_rfl) (by kernel_rfl) (by kernel_rfl) (by kernel_rfl) (by kernel_rfl)
def K32r0:OpsF:=(oVal (.tmp 4) (kMove (.con (.int .i64 0))) oNil)
def K32r1:OpsF:=(oVal (.tmp 5) (kMove (.tmp 1)) (oVal (.tmp 6) (kUn lenSlA (.tmp 5)) (oVal (.tmp 7) (kInt aEql (.tmp 6) (.con (.int .i64 0))) oNil)))
def K32r2:OpsF:=(oVal (.tmp 4) (kMove (.con (.int .i64 0))) oNil)
def K32r3:OpsF:=(oVal (.tmp 8) (kMove (.tmp 1)) (oVal (.tmp 9) (kMove (.tmp 0)) (oVal (.tmp 10) (kMove (.tmp 1)) (oVal (.tmp 11) (kUn lenSlA (.tmp 10)) (oCall (.tmp 12) (.con (.func 33 [] [])) [(.tmp 9),(.tmp 11)] (oVal (.tmp 13) (kTwo (ixsA 1) (.tmp 8) (.tmp 12)) (oVal (.tmp 14) (kLoad none (.tmp 13)) (oVal (.tmp 4) (kMove (.tmp 14)) oNil))))))))
theorem res32:Try.f32.results.toList=[.tmp 4]:=by kernel_rfl
def K32:K:=(kSeq (kRegion K32r0 [4]) (kSeq (kSeq (kRegion K32r1 [7]) (kCond (.tmp 7) (kSeq (kRegion K32r2 [4]) kRet) kSkip)) (kSeq (kRegion K32r3 [4]) kRet)))
theorem enter32 (cl:CallF) (a0 a1:AV) (s:St):enterA Try.prog X cl 32 [a0,a1] s Try.f32=finA Try.prog Try.f32 (K32 cl ⟨32,none,Try.f32.ntmps,X 32⟩ (paramsEnv 0 [a0,a1] .nil) [] s) :=
  enterA_eq (b:=Try.f32.body.getD .skip) (by kernel_rfl) (by kernel_rfl) (by kernel_rfl) (by kernel_rfl) (by kernel_rfl)
def K34r0:OpsF:=(oVal (.tmp 6) (kAlloc [(.int .i64 0),(.int .i64 0)] (tag 38)) oNil)
def K34r1:OpsF:=(oVal (.tmp 9) (kMove (.tmp 0)) (oVal (.tmp 10) (kMove (.tmp 1)) (oVal (.tmp 11) (kMove (.tmp 2)) (oCall (.tmp 12) (.con (.func 31 [] [])) [(.tmp 9),(.tmp 10),(.tmp 11)] (oVal (.tmp 7) (kMove (.tmp 12)) oNil)))))
def K34r2:OpsF:=(oVal (.tmp 13) (kMove (.tmp 0)) (oVal (.tmp 14) (kMove (.tmp 7)) (oVal (.tmp 15) (kMove (.tmp 2)) (oVal (.tmp 16) (kMove (.tmp 7)) (oVal (.tmp 17) (kInt aAdd (.tmp 16) (.con (.int .i64 4))) (oVal (.tmp 18) (kFold minA (.tmp 15) [(.tmp 17)]) (oVal (.tmp 19) (kMove (.tmp 2)) (oVal (.tmp 20) (kBuildSlice [(.int .i64 0),(.int .i64 0),(.int .i64 0)] 3 [(0,1,(.tmp 14)),(1,1,(.tmp 18)),(2,1,(.tmp 19))]) (oCall (.tmp 21) (.con (.func 32 [] [])) [(.tmp 13),(.tmp 20)] (oVal (.tmp 8) (kMove (.tmp 21)) oNil))))))))))
def K34r3:OpsF:=(oVal (.tmp 22) (kMove (.tmp 7)) (oVal (.tmp 23) (kMove (.tmp 0)) (oVal (.tmp 24) (kMove (.tmp 7)) (oVal (.tmp 25) (kMove (.tmp 8)) (oCall (.tmp 26) (.con (.func 31 [] [])) [(.tmp 23),(.tmp 24),(.tmp 25)] (oVal (.tmp 27) (kBuild [(.int .i64 0),(.int .i64 0)] [(0,1,(.tmp 22)),(1,1,(.tmp 26))]) (oVal .none (kStore 2 (.tmp 6) (.tmp 27)) oNil)))))))
theorem res34:Try.f34.results.toList=[.cell 6 38]:=by kernel_rfl
def K34:K:=(kSeq (kRegion K34r0 [6]) (kSeq (kRegion K34r1 [7]) (kSeq (kRegion K34r2 [8]) (kSeq (kRegion K34r3 []) kRet))))
theorem enter34 (cl:CallF) (a0 a1 a2:AV) (s:St):enterA Try.prog X cl 34 [a0,a1,a2] s Try.f34=finA Try.prog Try.f34 (K34 cl ⟨34,none,Try.f34.ntmps,X 34⟩ (paramsEnv 0 [a0,a1,a2] .nil) [] s) :=
  enterA_eq (b:=Try.f34.body.getD .skip) (by kernel_rfl) (by kernel_rfl) (by kernel_rfl) (by kernel_rfl) (by kernel_rfl)
def K42r0:OpsF:=(oVal (.tmp 3) (kBox (tag 38) (.tmp 1)) (oVal (.tmp 4) (kMove (.con (.int .i64 0))) oNil))
def K42r1:OpsF:=(oEnd [] (oVal (.tmp 5) (kMove (.tmp 0)) (oVal (.tmp 6) (kUn (fadA 0) (.tmp 3)) (oVal (.tmp 7) (kLoad none (.tmp 6)) (oVal (.tmp 8) (kUn (fadA 1) (.tmp 3)) (oVal (.tmp 9) (kLoad none (.tmp 8)) (oVal (.tmp 10) (kMove (.tmp 0)) (oVal (.tmp 11) (kUn (fadA 0) (.tmp 3)) (oVal (.tmp 12) (kLoad none (.tmp 11)) (oVal (.tmp 13) (kUn (fadA 1) (.tmp 3)) (oVal (.tmp 14) (kLoad none (.tmp 13)) (oCallT (some [6,8,17,19]) (.tmp 15) (.con (.func 31 [] [])) [(.tmp 10),(.tmp 12),(.tmp 14)] (oVal (.tmp 16) (kMove (.tmp 0)) (oVal (.tmp 17) (kUn (fadA 0) (.tmp 3)) (oVal (.tmp 18) (kLoad none (.tmp 17)) (oVal (.tmp 19) (kUn (fadA 1) (.tmp 3)) (oVal (.tmp 20) (kLoad none (.tmp 19)) (oCallT (some [6,8]) (.tmp 21) (.con (.func 31 [] [])) [(.tmp 16),(.tmp 18),(.tmp 20)] (oVal (.tmp 22) (kBuildSlice [(.int .i64 0),(.int .i64 0),(.int .i64 0),(.int .i64 0)] 4 [(0,1,(.tmp 7)),(1,1,(.tmp 9)),(2,1,(.tmp 15)),(3,1,(.tmp 21))]) (oCall (.tmp 23) (.con (.func 32 [] [])) [(.tmp 5),(.tmp 22)] (oVal (.tmp 4) (kMove (.tmp 23)) oNil)))))))))))))))))))))
theorem res42:Try.f42.results.toList=[.tmp 4]:=by kernel_rfl
def K42:K:=(kSeq (kRegion K42r0 [3,4]) (kSeq (kRegionD K42r1 [4]) kRet))
theorem enter42 (cl:CallF) (a0 a1:AV) (s:St):enterA Try.prog X cl 42 [a0,a1] s Try.f42=finA Try.prog Try.f42 (K42 cl ⟨42,none,Try.f42.ntmps,X 42⟩ (paramsEnv 0 [a0,a1] .nil) [] s) :=
  enterA_eq (b:=Try.f42.body.getD .skip) (by kernel_rfl) (by kernel_rfl) (by kernel_rfl) (by kernel_rfl) (by kernel_rfl)
def K24r0:OpsF:=(oVal (.tmp 4) (kMove (.con .nilslice)) oNil)
def K24r1:OpsF:=(oVal (.tmp 8) (kMove (.tmp 1)) (oVal (.tmp 9) (kFold maxA (.con (.int .i64 0)) [(.tmp 8)]) (oVal (.tmp 10) (kMake [(.int .i64 0)] 8 (.tmp 9) (.tmp 9)) (oVal (.tmp 5) (kMove (.tmp 10)) oNil))))
def K24r2:OpsF:=(oVal (.tmp 6) (kMove (.con (.int .i64 0))) oNil)
def K24r3:OpsF:=(oVal (.tmp 11) (kMove (.tmp 6)) (oVal (.tmp 12) (kMove (.tmp 5)) (oVal (.tmp 13) (kUn lenSlA (.tmp 12)) (oVal (.tmp 14) (kInt aLss (.tmp 11) (.tmp 13)) oNil))))
def K24r4:OpsF:=(oVal (.tmp 17) (kMove (.tmp 0)) (oVal (.tmp 18) (kMove (.tmp 6)) (oVal (.tmp 19) (kInt aAdd (.tmp 18) (.con (.int .i64 1))) (oCall (.tmp 20) (.con (.func 33 [] [])) [(.tmp 17),(.tmp 19)] (oVal (.tmp 7) (kMove (.tmp 20)) oNil)))))
def K24r5:OpsF:=(oVal (.tmp 21) (kMove (.tmp 5)) (oVal (.tmp 22) (kMove (.tmp 6)) (oVal (.tmp 23) (kMove (.tmp 5)) (oVal (.tmp 24) (kMove (.tmp 7)) (oVal (.tmp 25) (kTwo (ixsA 1) (.tmp 23) (.tmp 24)) (oVal (.tmp 26) (kLoad none (.tmp 25)) (oVal (.tmp 27) (kTwo (ixsA 1) (.tmp 21) (.tmp 22)) (oVal .none (kStore 1 (.tmp 27) (.tmp 26)) oNil))))))))
def K24r6:OpsF:=(oVal (.tmp 28) (kMove (.tmp 5)) (oVal (.tmp 29) (kMove (.tmp 7)) (oVal (.tmp 30) (kMove (.tmp 6)) (oVal (.tmp 31) (kTwo (ixsA 1) (.tmp 28) (.tmp 29)) (oVal .none (kStore 1 (.tmp 31) (.tmp 30)) oNil)))))
def K24r7:OpsF:=(oVal (.tmp 15) (kMove (.tmp 6)) (oVal (.tmp 16) (kInt aAdd (.tmp 15) (.con (.int .i64 1))) (oVal (.tmp 6) (kMove (.tmp 16)) oNil)))
def K24l0:K:=(kSeq (kSeq (kRegion K24r3 [14]) (kCond (.tmp 14) kSkip (kExit 0))) (kSeq (kBlock 1 (kSeq (kRegion K24r4 [7]) (kSeq (kRegion K24r5 []) (kRegion K24r6 [])))) (kRegion K24r7 [6])))
def K24r8:OpsF:=(oVal (.tmp 32) (kMove (.tmp 5)) (oVal (.tmp 4) (kMove (.tmp 32)) oNil))
theorem res24:Try.f24.results.toList=[.tmp 4]:=by kernel_rfl
def K24:K:=(kSeq (kRegion K24r0 [4]) (kSeq (kRegion K24r1 [5]) (kSeq (kSeq (kRegion K24r2 [6]) (kBlock 0 (kLoop K24l0))) (kSeq (kRegion K24r8 [4]) kRet))))
theorem enter24 (cl:CallF) (a0 a1:AV) (s:St):enterA Try.prog X cl 24 [a0,a1] s Try.f24=finA Try.prog Try.f24 (K24 cl ⟨24,none,Try.f24.ntmps,X 24⟩ (paramsEnv 0 [a0,a1] .nil) [] s) :=
  enterA_eq (b:=Try.f24.body.getD .skip) (by kernel_rfl) (by kernel_rfl) (by kernel_rfl) (by kernel_rfl) (by kernel_rfl)
end
end Go.Proofs.Ytamlnddeiokbdaa.code
set_option maxRecDepth 100000
namespace Go.Proofs.Ytamlnddeiokbdaa.code
open Go.Abs
noncomputable section
def K10r0:OpsF:=(oVal (.tmp 8) (kAlloc [(.int .i64 0),(.int .i64 0),.nilslice] (tag 27)) oNil)
def K10r1:OpsF:=(oVal (.tmp 13) (kMove (.tmp 0)) (oVal (.tmp 14) (kMove (.tmp 1)) (oCall (.tmp 15) (.con (.func 31 [] [])) [(.tmp 13),(.con (.int .i64 1)),(.tmp 14)] (oVal (.tmp 16) (kMove (.tmp 0)) (oVal (.tmp 17) (kMove (.tmp 2)) (oCall (.tmp 18) (.con (.func 31 [] [])) [(.tmp 16),(.con (.int .i64 1)),(.tmp 17)] (oVal (.tmp 19) (kBuild [(.int .i64 0),(.int .i64 0),.nilslice] [(0,1,(.tmp 15)),(1,1,(.tmp 18))]) (oVal (.tmp 9) (kAlloc [(.int .i64 0),(.int .i64 0),.nilslice] (tag 27)) (oVal .none (kStore 3 (.tmp 9) (.tmp 19)) oNil)))))))))
def K10r2:OpsF:=(oVal (.tmp 20) (kMove (.tmp 0)) (oVal (.tmp 21) (kBuildSlice [(.int .i64 0),(.int .i64 0),(.int .i64 0)] 3 [(0,1,(.con (.int .i64 6))),(1,1,(.con (.int .i64 100))),(2,1,(.con (.int .i64 5000)))]) (oCall (.tmp 22) (.con (.func 32 [] [])) [(.tmp 20),(.tmp 21)] (oVal (.tmp 23) (kMove (.tmp 0)) (oVal (.tmp 24) (kBuildSlice [(.int .i64 0),(.int .i64 0),(.int .i64 0)] 3 [(0,1,(.con (.int .i64 6))),(1,1,(.con (.int .i64 30))),(2,1,(.con (.int .i64 2000)))]) (oCall (.tmp 25) (.con (.func 32 [] [])) [(.tmp 23),(.tmp 24)] (oVal (.tmp 10) (kMove (.tmp 22)) (oVal (.tmp 11) (kMove (.tmp 25)) oNil))))))))
def K10r3:OpsF:=(oVal (.tmp 26) (kMove (.tmp 0)) (oVal (.tmp 27) (kMove (.tmp 3)) (oVal (.tmp 28) (kInt aAdd (.tmp 27) (.con (.int .i64 1))) (oCall (.tmp 29) (.con (.func 33 [] [])) [(.tmp 26),(.tmp 28)] (oVal (.tmp 12) (kMove (.tmp 29)) oNil)))))
def K10r4:OpsF:=(oVal (.tmp 30) (kMove (.tmp 12)) (oVal (.tmp 31) (kGtr (.tmp 30) (.con (.int .i64 0))) oNil))
def K10r5:OpsF:=(oEnd [] (oVal (.tmp 34) (kUn (fadA 2) (.tmp 9)) (oVal (.tmp 35) (kLoad none (.tmp 34)) (oVal (.tmp 36) (kMove (.tmp 0)) (oVal (.tmp 37) (kUn (fadA 0) (.tmp 9)) (oVal (.tmp 38) (kLoad none (.tmp 37)) (oCallT (some [34,41]) (.tmp 39) (.con (.func 33 [] [])) [(.tmp 36),(.tmp 38)] (oVal (.tmp 40) (kMove (.tmp 0)) (oVal (.tmp 41) (kUn (fadA 1) (.tmp 9)) (oVal (.tmp 42) (kLoad none (.tmp 41)) (oCallT (some [34]) (.tmp 43) (.con (.func 33 [] [])) [(.tmp 40),(.tmp 42)] (oVal (.tmp 44) (kMove (.tmp 0)) (oVal (.tmp 45) (kMove (.tmp 10)) (oCallT (some [34]) (.tmp 46) (.con (.func 34 [] [])) [(.tmp 44),(.con (.int .i64 0)),(.tmp 45)] (oVal (.tmp 47) (kMove (.tmp 0)) (oVal (.tmp 48) (kMove (.tmp 11)) (oCallT (some [34]) (.tmp 49) (.con (.func 34 [] [])) [(.tmp 47),(.con (.int .i64 0)),(.tmp 48)] (oVal (.tmp 50) (kBuild [(.int .i64 0),(.int .i64 0),(.int .i64 0),(.int .i64 0),(.int .i64 0),(.int .i64 0)] [(0,1,(.tmp 39)),(1,1,(.tmp 43)),(2,2,(.tmp 46)),(4,2,(.tmp 49))]) (oVal (.tmp 51) (kBuildSlice [(.int .i64 0),(.int .i64 0),(.int .i64 0),(.int .i64 0),(.int .i64 0),(.int .i64 0)] 1 [(0,6,(.tmp 50))]) (oVal (.tmp 52) (kTwo (appendA false 6 48 (tag 51)) (.tmp 35) (.tmp 51)) (oVal (.tmp 53) (kUn (fadA 2) (.tmp 9)) (oVal .none (kStore 1 (.tmp 53) (.tmp 52)) oNil))))))))))))))))))))))
def K10r6:OpsF:=(oVal (.tmp 32) (kMove (.tmp 12)) (oVal (.tmp 33) (kInt aSub (.tmp 32) (.con (.int .i64 1))) (oVal (.tmp 12) (kMove (.tmp 33)) oNil)))
def K10l0:K:=(kSeq (kSeq (kRegion K10r4 [31]) (kCond (.tmp 31) kSkip (kExit 0))) (kSeq (kBlock 1 (kRegionD K10r5 [])) (kRegion K10r6 [12])))
def K10r7:OpsF:=(oVal (.tmp 54) (kLoad (some 3) (.tmp 9)) (oVal .none (kStore 3 (.tmp 8) (.tmp 54)) oNil))
theorem res10:Try.f10.results.toList=[.cell 8 27]:=by kernel_rfl
def K10:K:=(kSeq (kRegion K10r0 [8]) (kSeq (kRegion K10r1 [9]) (kSeq (kRegion K10r2 [10,11]) (kSeq (kSeq (kRegion K10r3 [12]) (kBlock 0 (kLoop K10l0))) (kSeq (kRegion K10r7 []) kRet)))))
theorem enter10 (cl:CallF) (a0 a1 a2 a3:AV) (s:St):enterA Try.prog X cl 10 [a0,a1,a2,a3] s Try.f10=finA Try.prog Try.f10 (K10 cl ⟨10,none,Try.f10.ntmps,X 10⟩ (paramsEnv 0 [a0,a1,a2,a3] .nil) [] s) :=
  enterA_eq (b:=Try.f10.body.getD .skip) (by kernel_rfl) (by kernel_rfl) (by kernel_rfl) (by kernel_rfl) (by kernel_rfl)
def K11r0:OpsF:=(oVal (.tmp 4) (kMove (.con .nilslice)) oNil)
def K11r1:OpsF:=(oVal (.tmp 5) (kMove (.con .nilslice)) oNil)
def K11r2:OpsF:=(oVal (.tmp 6) (kMove (.con (.int .i64 0))) oNil)
def K11r3:OpsF:=(oVal (.tmp 8) (kMove (.tmp 0)) (oVal (.tmp 9) (kMove (.tmp 1)) (oCall (.tmp 10) (.con (.func 31 [] [])) [(.tmp 8),(.con (.int .i64 1)),(.tmp 9)] (oVal (.tmp 7) (kMove (.tmp 10)) oNil))))
def K11r4:OpsF:=(oVal (.tmp 11) (kMove (.tmp 7)) (oVal (.tmp 12) (kGtr (.tmp 11) (.con (.int .i64 0))) oNil))
def K11r5:OpsF:=(oVal (.tmp 15) (kMove (.tmp 5)) (oVal (.tmp 16) (kMove (.tmp 6)) (oVal (.tmp 17) (kMove (.tmp 0)) (oCall (.tmp 18) (.con (.func 33 [] [])) [(.tmp 17),(.con (.int .i64 1001))] (oVal (.tmp 19) (kBuild [(.int .i64 0),(.int .i64 0)] [(0,1,(.tmp 16)),(1,1,(.tmp 18))]) (oVal (.tmp 20) (kBuildSlice [(.int .i64 0),(.int .i64 0)] 1 [(0,2,(.tmp 19))]) (oVal (.tmp 21) (kTwo (appendA false 2 16 (tag 75)) (.tmp 15) (.tmp 20)) (oVal (.tmp 5) (kMove (.tmp 21)) oNil))))))))
def K11r6:OpsF:=(oVal (.tmp 22) (kMove (.tmp 6)) (oVal (.tmp 23) (kMove (.tmp 0)) (oVal (.tmp 24) (kMove (.tmp 0)) (oVal (.tmp 25) (kBuildSlice [(.int .i64 0),(.int .i64 0),(.int .i64 0)] 3 [(0,1,(.con (.int .i64 5))),(1,1,(.con (.int .i64 100))),(2,1,(.con (.int .i64 5000)))]) (oCall (.tmp 26) (.con (.func 32 [] [])) [(.tmp 24),(.tmp 25)] (oCall (.tmp 27) (.con (.func 31 [] [])) [(.tmp 23),(.con (.int .i64 1)),(.tmp 26)] (oVal (.tmp 28) (kInt aAdd (.tmp 22) (.tmp 27)) (oVal (.tmp 6) (kMove (.tmp 28)) oNil))))))))
def K11r7:OpsF:=(oVal (.tmp 13) (kMove (.tmp 7)) (oVal (.tmp 14) (kInt aSub (.tmp 13) (.con (.int .i64 1))) (oVal (.tmp 7) (kMove (.tmp 14)) oNil)))
def K11l0:K:=(kSeq (kSeq (kRegion K11r4 [12]) (kCond (.tmp 12) kSkip (kExit 0))) (kSeq (kBlock 1 (kSeq (kRegion K11r5 [5]) (kRegion K11r6 [6]))) (kRegion K11r7 [7])))
def K11r8:OpsF:=(oVal (.tmp 29) (kMove (.tmp 5)) (oVal (.tmp 4) (kMove (.tmp 29)) oNil))
theorem res11:Try.f11.results.toList=[.tmp 4]:=by kernel_rfl
def K11:K:=(kSeq (kRegion K11r0 [4]) (kSeq (kRegion K11r1 [5]) (kSeq (kRegion K11r2 [6]) (kSeq (kSeq (kRegion K11r3 [7]) (kBlock 0 (kLoop K11l0))) (kSeq (kRegion K11r8 [4]) kRet)))))
theorem enter11 (cl:CallF) (a0 a1:AV) (s:St):enterA Try.prog X cl 11 [a0,a1] s Try.f11=finA Try.prog Try.f11 (K11 cl ⟨11,none,Try.f11.ntmps,X 11⟩ (paramsEnv 0 [a0,a1] .nil) [] s) :=
  enterA_eq (b:=Try.f11.body.getD .skip) (by kernel_rfl) (by kernel_rfl) (by kernel_rfl) (by kernel_rfl) (by kernel_rfl)
end
end Go.Proofs.Ytamlnddeiokbdaa.code
set_option maxRecDepth 100000
namespace Go.Proofs.Ytamlnddeiokbdaa.code
open Go.Abs
noncomputable section
def K14r0:OpsF:=(oVal (.tmp 2) (kBox (tag 27) (.tmp 0)) (oVal (.tmp 4) (kMove (.con (.int .i64 0))) (oVal (.tmp 5) (kAlloc [(.int .i64 0),(.int .i64 0)] (tag 38)) (oVal (.tmp 6) (kMove (.con (.int .i64 0))) oNil))))
def K14r1:OpsF:=(oEnd [] (oVal (.tmp 10) (kLoad (some 3) (.tmp 2)) (oCallT (some [13]) (.tmp 11) (.con (.func 36 [] [])) [(.tmp 10)] (oVal (.tmp 12) (kMove (.tmp 1)) (oVal (.tmp 13) (kUn (fadA 1) (.tmp 2)) (oVal (.tmp 14) (kLoad none (.tmp 13)) (oCall (.tmp 15) (.con (.func 43 [] [])) [(.tmp 12),(.tmp 14)] (oVal (.tmp 16) (kBuildSlice [(.int .i64 0),(.int .i64 0)] 2 [(0,1,(.tmp 11)),(1,1,(.tmp 15))]) (oCall (.tmp 17) (.con (.func 35 [] [])) [(.tmp 16)] (oVal (.tmp 7) (kMove (.tmp 17)) oNil))))))))))
def K14r2:OpsF:=(oVal (.tmp 18) (kMove (.tmp 7)) (oVal (.tmp 19) (kInt aNeq (.tmp 18) (.con (.int .i64 0))) oNil))
def K14r3:OpsF:=(oVal (.tmp 20) (kBuild [(.int .i64 0),(.int .i64 0)] []) (oVal (.tmp 21) (kMove (.tmp 7)) (oVal (.tmp 4) (kMove (.con (.int .i64 0))) (oVal .none (kStore 2 (.tmp 5) (.tmp 20)) (oVal (.tmp 6) (kMove (.tmp 21)) oNil)))))
def K14r4:OpsF:=(oVal (.tmp 22) (kLoad (some 3) (.tmp 2)) (oVal (.tmp 23) (kMove (.tmp 1)) (oCall (.tmp 24) (.con (.func 44 [] [])) [(.tmp 22),(.tmp 23)] (oVal (.tmp 8) (kAlloc [.nilfunc] (tag 89)) (oVal .none (kStore 1 (.tmp 8) (.tmp 24)) oNil)))))
def K14r5:OpsF:=(oVal (.tmp 25) (kFunc 45 [] [(.tmp 8)]) (oCall (.tmp 26) (.con (.func 38 [] [])) [(.tmp 25)] (oVal (.tmp 9) (kAlloc [(.int .i64 0),(.int .i64 0)] (tag 38)) (oVal .none (kStore 2 (.tmp 9) (.tmp 26)) oNil))))
def K14r6:OpsF:=(oVal (.tmp 27) (kFunc 47 [] [(.tmp 8)]) (oCall (.tmp 28) (.con (.func 38 [] [])) [(.tmp 27)] (oVal .none (kStore 2 (.tmp 5) (.tmp 28)) oNil)))
def K14r7:OpsF:=(oEnd [] (oVal (.tmp 29) (kUn (fadA 1) (.tmp 9)) (oVal (.tmp 30) (kLoad none (.tmp 29)) (oVal (.tmp 31) (kGtr (.tmp 30) (.con (.int .i64 0))) (oVal (.tmp 32) (kUn (fadA 0) (.tmp 9)) (oVal (.tmp 33) (kLoad none (.tmp 32)) (oVal (.tmp 34) (kGtr (.tmp 33) (.con (.int .i64 0))) (oCallT (some [5]) (.tmp 35) (.con (.func 49 [] [])) [(.tmp 31),(.tmp 34)] (oVal (.tmp 36) (kLoad (some 2) (.tmp 5)) (oVal (.tmp 4) (kMove (.tmp 35)) (oVal .none (kStore 2 (.tmp 5) (.tmp 36)) (oVal (.tmp 6) (kMove (.con (.int .i64 0))) oNil))))))))))))
theorem res14:Try.f14.results.toList=[.tmp 4,.cell 5 38,.tmp 6]:=by kernel_rfl
def K14:K:=(kSeq (kRegion K14r0 [2,4,5,6]) (kSeq (kSeq (kRegionD K14r1 [7]) (kSeq (kRegion K14r2 [19]) (kCond (.tmp 19) (kSeq (kRegion K14r3 [4,6]) kRet) kSkip))) (kSeq (kRegion K14r4 [8]) (kSeq (kRegion K14r5 [9]) (kSeq (kRegion K14r6 []) (kSeq (kRegionD K14r7 [4,6]) kRet))))))
theorem enter14 (cl:CallF) (a0 a1:AV) (s:St):enterA Try.prog X cl 14 [a0,a1] s Try.f14=finA Try.prog Try.f14 (K14 cl ⟨14,none,Try.f14.ntmps,X 14⟩ (paramsEnv 0 [a0,a1] .nil) [] s) :=
  enterA_eq (b:=Try.f14.body.getD .skip) (by kernel_rfl) (by kernel_rfl) (by kernel_rfl) (by kernel_rfl) (by kernel_rfl)
def K44r0:OpsF:=(oVal (.tmp 2) (kBox (tag 27) (.tmp 0)) (oVal (.tmp 3) (kBox (tag 3) (.tmp 1)) (oVal (.tmp 4) (kMove (.con .nilfunc)) oNil)))
def K44r1:OpsF:=(oVal (.tmp 5) (kFunc 64 [] [(.tmp 2),(.tmp 3)]) (oVal (.tmp 4) (kMove (.tmp 5)) oNil))
theorem res44:Try.f44.results.toList=[.tmp 4]:=by kernel_rfl
def K44:K:=(kSeq (kRegion K44r0 [2,3,4]) (kSeq (kRegion K44r1 [4]) kRet))
theorem enter44 (cl:CallF) (a0 a1:AV) (s:St):enterA Try.prog X cl 44 [a0,a1] s Try.f44=finA Try.prog Try.f44 (K44 cl ⟨44,none,Try.f44.ntmps,X 44⟩ (paramsEnv 0 [a0,a1] .nil) [] s) :=
  enterA_eq (b:=Try.f44.body.getD .skip) (by kernel_rfl) (by kernel_rfl) (by kernel_rfl) (by kernel_rfl) (by kernel_rfl)
def K64r0:OpsF:=(oVal (.tmp 6) (kUn (fadA 2) (.tmp 1)) (oVal (.tmp 7) (kLoad none (.tmp 6)) (oVal (.tmp 8) (kUn lenSlA (.tmp 7)) (oVal (.tmp 9) (kMove (.con (.int .i64 0))) oNil))))
def K64r1:OpsF:=(oVal (.tmp 10) (kInt aLss (.tmp 9) (.tmp 8)) oNil)
def K64r2:OpsF:=(oVal (.tmp 11) (kTwo (ixsA 6) (.tmp 7) (.tmp 9)) (oVal (.tmp 12) (kLoad (some 6) (.tmp 11)) (oVal (.tmp 5) (kAlloc [(.int .i64 0),(.int .i64 0),(.int .i64 0),(.int .i64 0),(.int .i64 0),(.int .i64 0)] (tag 51)) (oVal .none (kStore 6 (.tmp 5) (.tmp 12)) oNil))))
def K64r3s15:OpsF:=(oVal (.tmp 28) (kPick (.tmp 23) (.tmp 27) (.con (.bool false))) oNil)
def K64r3s14:OpsF:=(oIf 23 true (oVal (.tmp 27) (kUn notA (.tmp 26)) K64r3s15) (oSkip (.tmp 27) K64r3s15))
def K64r3s13:OpsF:=(oIf 23 true (oCall (.tmp 26) (.tmp 24) [(.tmp 25)] K64r3s14) (oSkip (.tmp 26) K64r3s14))
def K64r3s12:OpsF:=(oIf 23 true (oVal (.tmp 25) (kLoad (some 6) (.tmp 5)) K64r3s13) (oSkip (.tmp 25) K64r3s13))
def K64r3s9:OpsF:=(oVal (.tmp 22) (kPick (.tmp 17) (.tmp 21) (.con (.bool false))) (oVal (.tmp 23) (kMove (.tmp 22)) (oIf 23 true (oVal (.tmp 24) (kMove (.tmp 0)) K64r3s12) (oSkip (.tmp 24) K64r3s12))))
def K64r3s8:OpsF:=(oIf 17 true (oVal (.tmp 21) (kGtr (.tmp 20) (.con (.int .i64 0))) K64r3s9) (oSkip (.tmp 21) K64r3s9))
def K64r3s7:OpsF:=(oIf 17 true (oVal (.tmp 20) (kLoad none (.tmp 19)) K64r3s8) (oSkip (.tmp 20) K64r3s8))
def K64r3s6:OpsF:=(oIf 17 true (oVal (.tmp 19) (kUn (fadA 1) (.tmp 18)) K64r3s7) (oSkip (.tmp 19) K64r3s7))
def K64r3:OpsF:=(oVal (.tmp 13) (kUn (fadA 1) (.tmp 5)) (oVal (.tmp 14) (kLoad none (.tmp 13)) (oVal (.tmp 15) (kLoad none (.tmp 2)) (oVal (.tmp 16) (kInt aEql (.tmp 14) (.tmp 15)) (oVal (.tmp 17) (kMove (.tmp 16)) (oIf 17 true (oVal (.tmp 18) (kUn (fadA 2) (.tmp 5)) K64r3s6) (oSkip (.tmp 18) K64r3s6)))))))
def K64r4:OpsF:=(oVal (.tmp 29) (kInt aAdd (.tmp 9) (.con (.int .i64 1))) (oVal (.tmp 9) (kMove (.tmp 29)) oNil))
def K64l0:K:=(kSeq (kRegion K64r1 [10]) (kSeq (kCond (.tmp 10) kSkip (kExit 0)) (kSeq (kBlock 1 (kSeq (kRegion K64r2 [5]) (kSeq (kRegion K64r3 [28]) (kCond (.tmp 28) kRet kSkip)))) (kRegion K64r4 [9]))))
theorem res64:Try.f64.results.toList=[]:=by kernel_rfl
def K64:K:=(kSeq (kRegion K64r0 [7,8,9]) (kBlock 0 (kLoop K64l0)))
theorem enter64 (cl:CallF) (a0 a1 a2:AV) (s:St):enterA Try.prog X cl 64 [a0,a1,a2] s Try.f64=finA Try.prog Try.f64 (K64 cl ⟨64,none,Try.f64.ntmps,X 64⟩ (paramsEnv 0 [a0,a1,a2] .nil) [] s) :=
  enterA_eq (b:=Try.f64.body.getD .skip) (by kernel_rfl) (by kernel_rfl) (by kernel_rfl) (by kernel_rfl) (by kernel_rfl)
def K45r0:OpsF:=(oVal (.tmp 2) (kBox (tag 82) (.tmp 0)) (oVal (.tmp 3) (kMove (.con (.int .i64 0))) oNil))
def K45r1:OpsF:=(oVal (.tmp 4) (kLoad (some 2) (.tmp 2)) (oVal (.tmp 5) (kLoad none (.tmp 1)) (oCall (.tmp 6) (.con (.func 46 [] [])) [(.tmp 4),(.tmp 5)] (oVal (.tmp 3) (kMove (.tmp 6)) oNil))))
theorem res45:Try.f45.results.toList=[.tmp 3]:=by kernel_rfl
def K45:K:=(kSeq (kRegion K45r0 [2,3]) (kSeq (kRegion K45r1 [3]) kRet))
theorem enter45 (cl:CallF) (a0 a1:AV) (s:St):enterA Try.prog X cl 45 [a0,a1] s Try.f45=finA Try.prog Try.f45 (K45 cl ⟨45,none,Try.f45.ntmps,X 45⟩ (paramsEnv 0 [a0,a1] .nil) [] s) :=
  enterA_eq (b:=Try.f45.body.getD .skip) (by kernel_rfl) (by kernel_rfl) (by kernel_rfl) (by kernel_rfl) (by kernel_rfl)
def K47r0:OpsF:=(oVal (.tmp 2) (kBox (tag 82) (.tmp 0)) (oVal (.tmp 3) (kMove (.con (.int .i64 0))) oNil))
def K47r1:OpsF:=(oVal (.tmp 4) (kLoad (some 2) (.tmp 2)) (oVal (.tmp 5) (kLoad none (.tmp 1)) (oCall (.tmp 6) (.con (.func 48 [] [])) [(.tmp 4),(.tmp 5)] (oVal (.tmp 3) (kMove (.tmp 6)) oNil))))
theorem res47:Try.f47.results.toList=[.tmp 3]:=by kernel_rfl
def K47:K:=(kSeq (kRegion K47r0 [2,3]) (kSeq (kRegion K47r1 [3]) kRet))
theorem enter47 (cl:CallF) (a0 a1:AV) (s:St):enterA Try.prog X cl 47 [a0,a1] s Try.f47=finA Try.prog Try.f47 (K47 cl ⟨47,none,Try.f47.ntmps,X 47⟩ (paramsEnv 0 [a0,a1] .nil) [] s) :=
  enterA_eq (b:=Try.f47.body.getD .skip) (by kernel_rfl) (by kernel_rfl) (by kernel_rfl) (by kernel_rfl) (by kernel_rfl)
def K46r0:OpsF:=(oVal (.tmp 2) (kBox (tag 82) (.tmp 0)) (oVal (.tmp 4) (kMove (.con (.int .i64 0))) oNil))
def K46r1:OpsF:=(oVal (.tmp 5) (kAlloc [(.int .i64 0)] (tag 3)) (oVal .none (kStore 1 (.tmp 5) (.con (.int .i64 0))) oNil))
def K46r2:OpsF:=(oVal (.tmp 7) (kMove (.tmp 1)) oNil)
def K46r3:OpsF:=(oVal (.tmp 15) (kLoad none (.tmp 5)) (oVal (.tmp 4) (kMove (.tmp 15)) oNil))
theorem res46:Try.f46.results.toList=[.tmp 4]:=by kernel_rfl
def K46:K:=(kSeq (kRegion K46r0 [2,4]) (kSeq (kRegion K46r1 [5]) (kSeq (kSeq (kRegion K46r2 [7]) (kBlock 0 (kRange (.tmp 7) [8] (rangeAt Try.f46 0).1 (rangeAt Try.f46 0).2))) (kSeq (kRegion K46r3 [4]) kRet))))
theorem enter46 (cl:CallF) (a0 a1:AV) (s:St):enterA Try.prog X cl 46 [a0,a1] s Try.f46=finA Try.prog Try.f46 (K46 cl ⟨46,none,Try.f46.ntmps,X 46⟩ (paramsEnv 0 [a0,a1] .nil) [] s) :=
  enterA_eq (b:=Try.f46.body.getD .skip) (by kernel_rfl) (by kernel_rfl) (by kernel_rfl) (by kernel_rfl) (by kernel_rfl)
def K46a0r0:OpsF:=(oVal (.tmp 6) (kAlloc [(.int .i64 0),(.int .i64 0),(.int .i64 0),(.int .i64 0),(.int .i64 0),(.int .i64 0)] (tag 51)) (oVal .none (kStore 6 (.tmp 6) (.tmp 8)) oNil))
def K46a0:K:=(kRegion K46a0r0 [6])
theorem code46a0:codeK Try.prog (X 46) Try.f46.ntmps (rangeAt Try.f46 0).1=some K46a0:=by kernel_rfl
def K46b0r0:OpsF:=(oEnd [] (oVal (.tmp 9) (kLoad none (.tmp 5)) (oVal (.tmp 10) (kLoad (some 2) (.tmp 2)) (oVal (.tmp 11) (kLoad (some 6) (.tmp 6)) (oCallT (some [5]) (.tmp 12) (.con (.func 62 [] [])) [(.tmp 10),(.tmp 11)] (oVal (.tmp 13) (kTwo (indA 2 1 none) (.tmp 12) (.con (.int .i64 0))) (oVal (.tmp 14) (kInt aAdd (.tmp 9) (.tmp 13)) (oVal .none (kStore 1 (.tmp 5) (.tmp 14)) oNil))))))))
def K46b0:K:=(kBlock 1 (kRegionD K46b0r0 []))
theorem code46b0:codeK Try.prog (X 46) Try.f46.ntmps (rangeAt Try.f46 0).2=some K46b0:=by kernel_rfl
def K48r0:OpsF:=(oVal (.tmp 2) (kBox (tag 82) (.tmp 0)) (oVal (.tmp 3) (kBox (tag 89) (.tmp 1)) (oVal (.tmp 4) (kMove (.con (.int .i64 0))) oNil)))
def K48r1:OpsF:=(oVal (.tmp 6) (kFunc 65 [] [(.tmp 3),(.tmp 2)]) (oVal (.tmp 5) (kAlloc [.nilfunc] (tag 108)) (oVal .none (kStore 1 (.tmp 5) (.tmp 6)) oNil)))
def K48r2:OpsF:=(oVal (.tmp 7) (kFunc 68 [] [(.tmp 3),(.tmp 2),(.tmp 5)]) (oCall (.tmp 8) (.con (.func 67 [] [])) [(.tmp 7)] (oVal (.tmp 4) (kMove (.tmp 8)) oNil)))
theorem res48:Try.f48.results.toList=[.tmp 4]:=by kernel_rfl
def K48:K:=(kSeq (kRegion K48r0 [2,3,4]) (kSeq (kRegion K48r1 [5]) (kSeq (kRegion K48r2 [4]) kRet)))
theorem enter48 (cl:CallF) (a0 a1:AV) (s:St):enterA Try.prog X cl 48 [a0,a1] s Try.f48=finA Try.prog Try.f48 (K48 cl ⟨48,none,Try.f48.ntmps,X 48⟩ (paramsEnv 0 [a0,a1] .nil) [] s) :=
  enterA_eq (b:=Try.f48.body.getD .skip) (by kernel_rfl) (by kernel_rfl) (by kernel_rfl) (by kernel_rfl) (by kernel_rfl)
def K65r0:OpsF:=(oVal (.tmp 3) (kBox (tag 3) (.tmp 0)) (oVal (.tmp 4) (kMove (.con (.bool false))) oNil))
def K65r1:OpsF:=(oVal (.tmp 5) (kAlloc [(.int .i64 0)] (tag 3)) (oVal (.tmp 6) (kAlloc [(.int .i64 0)] (tag 3)) (oVal .none (kStore 1 (.tmp 5) (.con (.int .i64 0))) (oVal .none (kStore 1 (.tmp 6) (.con (.int .i64 0))) oNil))))
def K65r2:OpsF:=(oVal (.tmp 9) (kLoad none (.tmp 1)) oNil)
def K65r3:OpsF:=(oVal (.tmp 27) (kLoad none (.tmp 5)) (oVal (.tmp 28) (kLoad none (.tmp 6)) (oVal (.tmp 29) (kInt aGeq (.tmp 27) (.tmp 28)) (oVal (.tmp 4) (kMove (.tmp 29)) oNil))))
theorem res65:Try.f65.results.toList=[.tmp 4]:=by kernel_rfl
def K65:K:=(kSeq (kRegion K65r0 [3,4]) (kSeq (kRegion K65r1 [5,6]) (kSeq (kSeq (kRegion K65r2 [9]) (kBlock 0 (kRange (.tmp 9) [10] (rangeAt Try.f65 0).1 (rangeAt Try.f65 0).2))) (kSeq (kRegion K65r3 [4]) kRet))))
theorem enter65 (cl:CallF) (a0 a1 a2:AV) (s:St):enterA Try.prog X cl 65 [a0,a1,a2] s Try.f65=finA Try.prog Try.f65 (K65 cl ⟨65,none,Try.f65.ntmps,X 65⟩ (paramsEnv 0 [a0,a1,a2] .nil) [] s) :=
  enterA_eq (b:=Try.f65.body.getD .skip) (by kernel_rfl) (by kernel_rfl) (by kernel_rfl) (by kernel_rfl) (by kernel_rfl)
def K65a0r0:OpsF:=(oVal (.tmp 7) (kAlloc [(.int .i64 0),(.int .i64 0),(.int .i64 0),(.int .i64 0),(.int .i64 0),(.int .i64 0)] (tag 51)) (oVal .none (kStore 6 (.tmp 7) (.tmp 10)) oNil))
def K65a0:K:=(kRegion K65a0r0 [7])
theorem code65a0:codeK Try.prog (X 65) Try.f65.ntmps (rangeAt Try.f65 0).1=some K65a0:=by kernel_rfl
def K65b0r0:OpsF:=(oVal (.tmp 11) (kLoad (some 2) (.tmp 2)) (oVal (.tmp 12) (kLoad (some 6) (.tmp 7)) (oVal (.tmp 13) (kLoad none (.tmp 3)) (oCall (.tmp 14) (.con (.func 66 [] [])) [(.tmp 11),(.tmp 12),(.tmp 13)] (oVal (.tmp 8) (kAlloc [(.int .i64 0),(.int .i64 0)] (tag 103)) (oVal .none (kStore 2 (.tmp 8) (.tmp 14)) oNil))))))
def K65b0r1:OpsF:=(oVal (.tmp 15) (kTwo (ixaA 2 1) (.tmp 8) (.con (.int .i64 1))) (oVal (.tmp 16) (kLoad none (.tmp 15)) (oVal (.tmp 17) (kLoad none (.tmp 3)) (oVal (.tmp 18) (kInt aLeq (.tmp 16) (.tmp 17)) oNil))))
def K65b0r2:OpsF:=(oVal (.tmp 19) (kLoad none (.tmp 5)) (oVal (.tmp 20) (kTwo (ixaA 2 1) (.tmp 8) (.con (.int .i64 0))) (oVal (.tmp 21) (kLoad none (.tmp 20)) (oVal (.tmp 22) (kInt aAdd (.tmp 19) (.tmp 21)) (oVal .none (kStore 1 (.tmp 5) (.tmp 22)) oNil)))))
def K65b0r3:OpsF:=(oVal (.tmp 23) (kLoad none (.tmp 6)) (oVal (.tmp 24) (kTwo (ixaA 2 1) (.tmp 8) (.con (.int .i64 0))) (oVal (.tmp 25) (kLoad none (.tmp 24)) (oVal (.tmp 26) (kInt aAdd (.tmp 23) (.tmp 25)) (oVal .none (kStore 1 (.tmp 6) (.tmp 26)) oNil)))))
def K65b0:K:=(kBlock 1 (kSeq (kRegion K65b0r0 [8]) (kSeq (kRegion K65b0r1 [18]) (kCond (.tmp 18) (kRegion K65b0r2 []) (kRegion K65b0r3 [])))))
theorem code65b0:codeK Try.prog (X 65) Try.f65.ntmps (rangeAt Try.f65 0).2=some K65b0:=by kernel_rfl
def K68r0:OpsF:=(oVal (.tmp 4) (kBox (tag 108) (.tmp 0)) oNil)
def K68r1:OpsF:=(oVal (.tmp 7) (kLoad none (.tmp 1)) oNil)
theorem res68:Try.f68.results.toList=[]:=by kernel_rfl
def K68:K:=(kSeq (kRegion K68r0 [4]) (kSeq (kRegion K68r1 [7]) (kBlock 0 (kRange (.tmp 7) [8] (rangeAt Try.f68 0).1 (rangeAt Try.f68 0).2))))
theorem enter68 (cl:CallF) (a0 a1 a2 a3:AV) (s:St):enterA Try.prog X cl 68 [a0,a1,a2,a3] s Try.f68=finA Try.prog Try.f68 (K68 cl ⟨68,none,Try.f68.ntmps,X 68⟩ (paramsEnv 0 [a0,a1,a2,a3] .nil) [] s) :=
  enterA_eq (b:=Try.f68.body.getD .skip) (by kernel_rfl) (by kernel_rfl) (by kernel_rfl) (by kernel_rfl) (by kernel_rfl)
def K68a0r0:OpsF:=(oVal (.tmp 5) (kAlloc [(.int .i64 0),(.int .i64 0),(.int .i64 0),(.int .i64 0),(.int .i64 0),(.int .i64 0)] (tag 51)) (oVal .none (kStore 6 (.tmp 5) (.tmp 8)) oNil))
def K68a0:K:=(kRegion K68a0r0 [5])
theorem code68a0:codeK Try.prog (X 68) Try.f68.ntmps (rangeAt Try.f68 0).1=some K68a0:=by kernel_rfl
def K68b0r0:OpsF:=(oVal (.tmp 9) (kLoad (some 2) (.tmp 2)) (oVal (.tmp 10) (kLoad (some 6) (.tmp 5)) (oCall (.tmp 11) (.con (.func 62 [] [])) [(.tmp 9),(.tmp 10)] (oVal (.tmp 12) (kTwo (indA 2 1 none) (.tmp 11) (.con (.int .i64 1))) (oVal (.tmp 6) (kMove (.tmp 12)) oNil)))))
def K68b0r1s8:OpsF:=(oVal (.tmp 21) (kPick (.tmp 16) (.tmp 20) (.con (.bool false))) oNil)
def K68b0r1s7:OpsF:=(oIf 16 true (oVal (.tmp 20) (kUn notA (.tmp 19)) K68b0r1s8) (oSkip (.tmp 20) K68b0r1s8))
def K68b0r1s6:OpsF:=(oIf 16 true (oCall (.tmp 19) (.tmp 17) [(.tmp 18)] K68b0r1s7) (oSkip (.tmp 19) K68b0r1s7))
def K68b0r1s5:OpsF:=(oIf 16 true (oVal (.tmp 18) (kMove (.tmp 6)) K68b0r1s6) (oSkip (.tmp 18) K68b0r1s6))
def K68b0r1:OpsF:=(oVal (.tmp 13) (kLoad none (.tmp 3)) (oVal (.tmp 14) (kMove (.tmp 6)) (oCall (.tmp 15) (.tmp 13) [(.tmp 14)] (oVal (.tmp 16) (kMove (.tmp 15)) (oIf 16 true (oVal (.tmp 17) (kLoad none (.tmp 4)) K68b0r1s5) (oSkip (.tmp 17) K68b0r1s5))))))
def K68b0:K:=(kBlock 1 (kSeq (kRegion K68b0r0 [6]) (kSeq (kRegion K68b0r1 [21]) (kCond (.tmp 21) kRet kSkip))))
theorem code68b0:codeK Try.prog (X 68) Try.f68.ntmps (rangeAt Try.f68 0).2=some K68b0:=by kernel_rfl
def K66r0:OpsF:=(oVal (.tmp 3) (kBox (tag 82) (.tmp 0)) (oVal (.tmp 4) (kBox (tag 51) (.tmp 1)) (oVal (.tmp 6) (kAlloc [(.int .i64 0),(.int .i64 0)] (tag 103)) oNil)))
def K66r1:OpsF:=(oVal (.tmp 8) (kLoad (some 2) (.tmp 3)) (oVal (.tmp 9) (kLoad (some 6) (.tmp 4)) (oCall (.tmp 10) (.con (.func 62 [] [])) [(.tmp 8),(.tmp 9)] (oVal (.tmp 7) (kAlloc [(.int .i64 0),(.int .i64 0)] (tag 103)) (oVal .none (kStore 2 (.tmp 7) (.tmp 10)) oNil)))))
def K66r2:OpsF:=(oVal (.tmp 11) (kTwo (ixaA 2 1) (.tmp 7) (.con (.int .i64 1))) (oVal (.tmp 12) (kLoad none (.tmp 11)) (oVal (.tmp 13) (kMove (.tmp 2)) (oVal (.tmp 14) (kInt aLeq (.tmp 12) (.tmp 13)) oNil))))
def K66r3:OpsF:=(oVal (.tmp 15) (kUn (fadA 1) (.tmp 3)) (oVal (.tmp 16) (kLoad none (.tmp 15)) (oVal (.tmp 17) (kUn (fadA 2) (.tmp 4)) (oVal (.tmp 18) (kLoad (some 2) (.tmp 17)) (oCall (.tmp 19) (.tmp 16) [(.tmp 18)] (oVal (.tmp 20) (kTwo (ixaA 2 1) (.tmp 7) (.con (.int .i64 0))) (oVal .none (kStore 1 (.tmp 20) (.tmp 19)) oNil)))))))
def K66r4:OpsF:=(oVal (.tmp 21) (kLoad (some 2) (.tmp 7)) (oVal .none (kStore 2 (.tmp 6) (.tmp 21)) oNil))
theorem res66:Try.f66.results.toList=[.cell 6 103]:=by kernel_rfl
def K66:K:=(kSeq (kRegion K66r0 [3,4,6]) (kSeq (kRegion K66r1 [7]) (kSeq (kSeq (kRegion K66r2 [14]) (kCond (.tmp 14) (kRegion K66r3 []) kSkip)) (kSeq (kRegion K66r4 []) kRet))))
theorem enter66 (cl:CallF) (a0 a1 a2:AV) (s:St):enterA Try.prog X cl 66 [a0,a1,a2] s Try.f66=finA Try.prog Try.f66 (K66 cl ⟨66,none,Try.f66.ntmps,X 66⟩ (paramsEnv 0 [a0,a1,a2] .nil) [] s) :=
  enterA_eq (b:=Try.f66.body.getD .skip) (by kernel_rfl) (by kernel_rfl) (by kernel_rfl) (by kernel_rfl) (by kernel_rfl)
def K67r0:OpsF:=(oVal (.tmp 2) (kMove (.con (.int .i64 0))) oNil)
def K67r1:OpsF:=(oVal (.tmp 3) (kAlloc [(.int .i64 0)] (tag 3)) oNil)
def K67r2:OpsF:=(oVal (.tmp 4) (kAlloc [(.bool false)] (tag 4)) (oVal .none (kStore 1 (.tmp 4) (.con (.bool false))) oNil))
def K67r3:OpsF:=(oVal (.tmp 6) (kMove (.tmp 0)) oNil)
def K67r4:OpsF:=(oVal (.tmp 16) (kLoad none (.tmp 3)) (oVal (.tmp 2) (kMove (.tmp 16)) oNil))
theorem res67:Try.f67.results.toList=[.tmp 2]:=by kernel_rfl
def K67:K:=(kSeq (kRegion K67r0 [2]) (kSeq (kRegion K67r1 [3]) (kSeq (kRegion K67r2 [4]) (kSeq (kSeq (kRegion K67r3 [6]) (kBlock 0 (kRange (.tmp 6) [7] (rangeAt Try.f67 0).1 (rangeAt Try.f67 0).2))) (kSeq (kRegion K67r4 [2]) kRet)))))
theorem enter67 (cl:CallF) (a0:AV) (s:St):enterA Try.prog X cl 67 [a0] s Try.f67=finA Try.prog Try.f67 (K67 cl ⟨67,none,Try.f67.ntmps,X 67⟩ (paramsEnv 0 [a0] .nil) [] s) :=
  enterA_eq (b:=Try.f67.body.getD .skip) (by kernel_rfl) (by kernel_rfl) (by kernel_rfl) (by kernel_rfl) (by kernel_rfl)
def K67a0r0:OpsF:=(oVal (.tmp 5) (kMove (.tmp 7)) oNil)
def K67a0:K:=(kRegion K67a0r0 [5])
theorem code67a0:codeK Try.prog (X 67) Try.f67.ntmps (rangeAt Try.f67 0).1=some K67a0:=by kernel_rfl
def K67b0r0s6:OpsF:=(oVal (.tmp 14) (kPick (.tmp 10) (.con (.bool true)) (.tmp 13)) oNil)
def K67b0r0s5:OpsF:=(oIf 10 false (oVal (.tmp 13) (kInt aLss (.tmp 11) (.tmp 12)) K67b0r0s6) (oSkip (.tmp 13) K67b0r0s6))
def K67b0r0s4:OpsF:=(oIf 10 false (oVal (.tmp 12) (kLoad none (.tmp 3)) K67b0r0s5) (oSkip (.tmp 12) K67b0r0s5))
def K67b0r0:OpsF:=(oVal (.tmp 8) (kLoad none (.tmp 4)) (oVal (.tmp 9) (kUn notA (.tmp 8)) (oVal (.tmp 10) (kMove (.tmp 9)) (oIf 10 false (oVal (.tmp 11) (kMove (.tmp 5)) K67b0r0s4) (oSkip (.tmp 11) K67b0r0s4)))))
def K67b0r1:OpsF:=(oVal (.tmp 15) (kMove (.tmp 5)) (oVal .none (kStore 1 (.tmp 3) (.tmp 15)) (oVal .none (kStore 1 (.tmp 4) (.con (.bool true))) oNil)))
def K67b0:K:=(kBlock 1 (kSeq (kRegion K67b0r0 [14]) (kCond (.tmp 14) (kRegion K67b0r1 []) kSkip)))
theorem code67b0:codeK Try.prog (X 67) Try.f67.ntmps (rangeAt Try.f67 0).2=some K67b0:=by kernel_rfl
def K49r0:OpsF:=(oVal (.tmp 4) (kMove (.con (.int .i64 0))) oNil)
def K49r1:OpsF:=(oVal (.tmp 6) (kMove (.tmp 1)) (oVal (.tmp 5) (kMove (.tmp 6)) oNil))
def K49r2:OpsF:=(oVal (.tmp 4) (kMove (.con (.int .i64 1))) oNil)
def K49r3:OpsF:=(oVal (.tmp 8) (kMove (.tmp 0)) (oVal (.tmp 7) (kMove (.tmp 8)) oNil))
def K49r4:OpsF:=(oVal (.tmp 4) (kMove (.con (.int .i64 3))) oNil)
def K49r5:OpsF:=(oVal (.tmp 4) (kMove (.con (.int .i64 2))) oNil)
theorem res49:Try.f49.results.toList=[.tmp 4]:=by kernel_rfl
def K49:K:=(kSeq (kRegion K49r0 [4]) (kSeq (kBlock 0 (kSeq (kRegion K49r1 [5]) (kCond (.tmp 5) (kSeq (kRegion K49r2 [4]) kRet) (kSeq (kRegion K49r3 [7]) (kCond (.tmp 7) (kSeq (kRegion K49r4 [4]) kRet) kSkip))))) (kSeq (kRegion K49r5 [4]) kRet)))
theorem enter49 (cl:CallF) (a0 a1:AV) (s:St):enterA Try.prog X cl 49 [a0,a1] s Try.f49=finA Try.prog Try.f49 (K49 cl ⟨49,none,Try.f49.ntmps,X 49⟩ (paramsEnv 0 [a0,a1] .nil) [] s) :=
  enterA_eq (b:=Try.f49.body.getD .skip) (by kernel_rfl) (by kernel_rfl) (by kernel_rfl) (by kernel_rfl) (by kernel_rfl)
end
end Go.Proofs.Ytamlnddeiokbdaa.code
set_option maxRecDepth 100000
namespace Go.Proofs.Ytamlnddeiokbdaa.code
open Go.Abs
noncomputable section
def K27r0:OpsF:=(oVal (.tmp 2) (kBox (tag 27) (.tmp 0)) (oVal (.tmp 4) (kAlloc [(.int .i64 0),(.int .i64 0),.nilslice] (tag 27)) (oVal (.tmp 5) (kMove (.con (.int .i64 0))) oNil)))
def K27r1:OpsF:=(oEnd [] (oVal (.tmp 10) (kLoad (some 3) (.tmp 2)) (oCallT (some [2]) (.tmp 11) (.con (.func 36 [] [])) [(.tmp 10)] (oVal (.tmp 12) (kLoad (some 3) (.tmp 2)) (oVal (.tmp 13) (kMove (.tmp 1)) (oCall (.tmp 14) (.con (.func 55 [] [])) [(.tmp 12),(.tmp 13)] (oVal (.tmp 15) (kBuildSlice [(.int .i64 0),(.int .i64 0)] 2 [(0,1,(.tmp 11)),(1,1,(.tmp 14))]) (oCall (.tmp 16) (.con (.func 35 [] [])) [(.tmp 15)] (oVal (.tmp 6) (kMove (.tmp 16)) oNil)))))))))
def K27r2:OpsF:=(oVal (.tmp 17) (kMove (.tmp 6)) (oVal (.tmp 18) (kInt aNeq (.tmp 17) (.con (.int .i64 0))) oNil))
def K27r3:OpsF:=(oVal (.tmp 19) (kBuild [(.int .i64 0),(.int .i64 0),.nilslice] []) (oVal (.tmp 20) (kMove (.tmp 6)) (oVal .none (kStore 3 (.tmp 4) (.tmp 19)) (oVal (.tmp 5) (kMove (.tmp 20)) oNil))))
def K27r4:OpsF:=(oVal (.tmp 21) (kUn (fadA 2) (.tmp 2)) (oVal (.tmp 22) (kLoad none (.tmp 21)) (oVal (.tmp 23) (kUn lenSlA (.tmp 22)) (oVal (.tmp 24) (kMake [(.int .i64 0),(.int .i64 0),(.int .i64 0),(.int .i64 0),(.int .i64 0),(.int .i64 0)] 48 (.tmp 23) (.tmp 23)) (oVal (.tmp 7) (kMove (.tmp 24)) oNil)))))
def K27r5:OpsF:=(oVal (.tmp 25) (kMove (.tmp 7)) (oVal (.tmp 26) (kUn (fadA 2) (.tmp 2)) (oVal (.tmp 27) (kLoad none (.tmp 26)) (oVal (.tmp 28) (kTwo (copyA 6) (.tmp 25) (.tmp 27)) oNil))))
def K27r6:OpsF:=(oVal (.tmp 29) (kMove (.tmp 1)) (oVal (.tmp 30) (kUn lenSlA (.tmp 29)) (oVal (.tmp 31) (kMove (.con (.int .i64 0))) oNil)))
def K27r7:OpsF:=(oVal (.tmp 32) (kInt aLss (.tmp 31) (.tmp 30)) oNil)
def K27r8:OpsF:=(oVal (.tmp 33) (kTwo (ixsA 3) (.tmp 29) (.tmp 31)) (oVal (.tmp 34) (kLoad (some 3) (.tmp 33)) (oVal (.tmp 9) (kAlloc [(.int .i64 0),(.int .i64 0),(.int .i64 0)] (tag 66)) (oVal .none (kStore 3 (.tmp 9) (.tmp 34)) oNil))))
def K27r9:OpsF:=(oVal (.tmp 35) (kMove (.tmp 7)) (oVal (.tmp 36) (kUn (fadA 0) (.tmp 9)) (oVal (.tmp 37) (kLoad none (.tmp 36)) (oVal (.tmp 38) (kUn (fadA 1) (.tmp 9)) (oVal (.tmp 39) (kLoad none (.tmp 38)) (oVal (.tmp 40) (kUn (fadA 1) (.tmp 9)) (oVal (.tmp 41) (kLoad none (.tmp 40)) (oVal (.tmp 42) (kBuild [(.int .i64 0),(.int .i64 0)] [(0,1,(.tmp 39)),(1,1,(.tmp 41))]) (oVal (.tmp 43) (kTwo (ixsA 6) (.tmp 35) (.tmp 37)) (oVal (.tmp 44) (kUn (fadA 2) (.tmp 43)) (oVal .none (kStore 2 (.tmp 44) (.tmp 42)) oNil)))))))))))
def K27r10:OpsF:=(oVal (.tmp 45) (kMove (.tmp 7)) (oVal (.tmp 46) (kUn (fadA 0) (.tmp 9)) (oVal (.tmp 47) (kLoad none (.tmp 46)) (oVal (.tmp 48) (kUn (fadA 2) (.tmp 9)) (oVal (.tmp 49) (kLoad none (.tmp 48)) (oVal (.tmp 50) (kUn (fadA 2) (.tmp 9)) (oVal (.tmp 51) (kLoad none (.tmp 50)) (oVal (.tmp 52) (kBuild [(.int .i64 0),(.int .i64 0)] [(0,1,(.tmp 49)),(1,1,(.tmp 51))]) (oVal (.tmp 53) (kTwo (ixsA 6) (.tmp 45) (.tmp 47)) (oVal (.tmp 54) (kUn (fadA 4) (.tmp 53)) (oVal .none (kStore 2 (.tmp 54) (.tmp 52)) oNil)))))))))))
def K27r11:OpsF:=(oVal (.tmp 55) (kInt aAdd (.tmp 31) (.con (.int .i64 1))) (oVal (.tmp 31) (kMove (.tmp 55)) oNil))
def K27l0:K:=(kSeq (kRegion K27r7 [32]) (kSeq (kCond (.tmp 32) kSkip (kExit 0)) (kSeq (kBlock 1 (kSeq (kRegion K27r8 [9]) (kSeq (kRegion K27r9 []) (kRegion K27r10 [])))) (kRegion K27r11 [31]))))
def K27r12:OpsF:=(oVal (.tmp 56) (kMove (.tmp 7)) (oVal (.tmp 57) (kUn (fadA 2) (.tmp 2)) (oVal .none (kStore 1 (.tmp 57) (.tmp 56)) oNil)))
def K27r13:OpsF:=(oVal (.tmp 58) (kLoad (some 3) (.tmp 2)) (oVal .none (kStore 3 (.tmp 4) (.tmp 58)) (oVal (.tmp 5) (kMove (.con (.int .i64 0))) oNil)))
theorem res27:Try.f27.results.toList=[.cell 4 27,.tmp 5]:=by kernel_rfl
def K27:K:=(kSeq (kRegion K27r0 [2,4,5]) (kSeq (kSeq (kRegionD K27r1 [6]) (kSeq (kRegion K27r2 [18]) (kCond (.tmp 18) (kSeq (kRegion K27r3 [5]) kRet) kSkip))) (kSeq (kRegion K27r4 [7]) (kSeq (kRegion K27r5 []) (kSeq (kSeq (kRegion K27r6 [29,30,31]) (kBlock 0 (kLoop K27l0))) (kSeq (kRegion K27r12 []) (kSeq (kRegion K27r13 [5]) kRet)))))))
theorem enter27 (cl:CallF) (a0 a1:AV) (s:St):enterA Try.prog X cl 27 [a0,a1] s Try.f27=finA Try.prog Try.f27 (K27 cl ⟨27,none,Try.f27.ntmps,X 27⟩ (paramsEnv 0 [a0,a1] .nil) [] s) :=
  enterA_eq (b:=Try.f27.body.getD .skip) (by kernel_rfl) (by kernel_rfl) (by kernel_rfl) (by kernel_rfl) (by kernel_rfl)
def K55r0:OpsF:=(oVal (.tmp 2) (kBox (tag 27) (.tmp 0)) (oVal (.tmp 4) (kMove (.con (.int .i64 0))) oNil))
def K55r1:OpsF:=(oVal (.tmp 9) (kMove (.tmp 1)) (oVal (.tmp 10) (kUn lenSlA (.tmp 9)) (oCall (.tmp 11) (.con (.func 58 [] [])) [(.tmp 10),(.con (.int .i64 0)),(.con (.int .i64 40))] (oVal (.tmp 5) (kMove (.tmp 11)) oNil))))
def K55r2:OpsF:=(oVal (.tmp 12) (kMove (.tmp 5)) (oVal (.tmp 13) (kInt aNeq (.tmp 12) (.con (.int .i64 0))) oNil))
def K55r3:OpsF:=(oVal (.tmp 14) (kMove (.tmp 5)) (oVal (.tmp 4) (kMove (.tmp 14)) oNil))
def K55r4:OpsF:=(oVal (.tmp 15) (kMove (.tmp 1)) (oVal (.tmp 16) (kUn lenSlA (.tmp 15)) (oVal (.tmp 17) (kMove (.con (.int .i64 0))) oNil)))
def K55r5:OpsF:=(oVal (.tmp 18) (kInt aLss (.tmp 17) (.tmp 16)) oNil)
def K55r6:OpsF:=(oVal (.tmp 19) (kMove (.tmp 17)) (oVal (.tmp 20) (kTwo (ixsA 3) (.tmp 15) (.tmp 17)) (oVal (.tmp 21) (kLoad (some 3) (.tmp 20)) (oVal (.tmp 7) (kAlloc [(.int .i64 0),(.int .i64 0),(.int .i64 0)] (tag 66)) (oVal (.tmp 6) (kMove (.tmp 19)) (oVal .none (kStore 3 (.tmp 7) (.tmp 21)) oNil))))))
def K55r7:OpsF:=(oEnd [] (oVal (.tmp 22) (kUn (fadA 2) (.tmp 2)) (oVal (.tmp 23) (kLoad none (.tmp 22)) (oVal (.tmp 24) (kLoad (some 3) (.tmp 7)) (oVal (.tmp 25) (kMove (.tmp 1)) (oVal (.tmp 26) (kMove (.tmp 6)) (oVal (.tmp 27) (kSlice (sliceVal 3) (.tmp 25) none (some (.tmp 26))) (oCall (.tmp 28) (.con (.func 70 [] [])) [(.tmp 23),(.tmp 24),(.tmp 27)] (oVal (.tmp 8) (kMove (.tmp 28)) oNil)))))))))
def K55r8:OpsF:=(oVal (.tmp 29) (kMove (.tmp 8)) (oVal (.tmp 30) (kInt aNeq (.tmp 29) (.con (.int .i64 0))) oNil))
def K55r9:OpsF:=(oVal (.tmp 31) (kMove (.tmp 8)) (oVal (.tmp 4) (kMove (.tmp 31)) oNil))
def K55r10:OpsF:=(oVal (.tmp 32) (kInt aAdd (.tmp 17) (.con (.int .i64 1))) (oVal (.tmp 17) (kMove (.tmp 32)) oNil))
def K55l0:K:=(kSeq (kRegion K55r5 [18]) (kSeq (kCond (.tmp 18) kSkip (kExit 0)) (kSeq (kBlock 1 (kSeq (kRegion K55r6 [7,6]) (kSeq (kRegionD K55r7 [8]) (kSeq (kRegion K55r8 [30]) (kCond (.tmp 30) (kSeq (kRegion K55r9 [4]) kRet) kSkip))))) (kRegion K55r10 [17]))))
def K55r11:OpsF:=(oVal (.tmp 4) (kMove (.con (.int .i64 0))) oNil)
theorem res55:Try.f55.results.toList=[.tmp 4]:=by kernel_rfl
def K55:K:=(kSeq (kRegion K55r0 [2,4]) (kSeq (kSeq (kRegion K55r1 [5]) (kSeq (kRegion K55r2 [13]) (kCond (.tmp 13) (kSeq (kRegion K55r3 [4]) kRet) kSkip))) (kSeq (kSeq (kRegion K55r4 [15,16,17]) (kBlock 0 (kLoop K55l0))) (kSeq (kRegion K55r11 [4]) kRet))))
theorem enter55 (cl:CallF) (a0 a1:AV) (s:St):enterA Try.prog X cl 55 [a0,a1] s Try.f55=finA Try.prog Try.f55 (K55 cl ⟨55,none,Try.f55.ntmps,X 55⟩ (paramsEnv 0 [a0,a1] .nil) [] s) :=
  enterA_eq (b:=Try.f55.body.getD .skip) (by kernel_rfl) (by kernel_rfl) (by kernel_rfl) (by kernel_rfl) (by kernel_rfl)
def K70r0:OpsF:=(oVal (.tmp 4) (kBox (tag 66) (.tmp 1)) (oVal (.tmp 6) (kMove (.con (.int .i64 0))) oNil))
def K70r1:OpsF:=(oVal (.tmp 10) (kUn (fadA 0) (.tmp 4)) (oVal (.tmp 11) (kLoad none (.tmp 10)) (oVal (.tmp 12) (kMove (.tmp 0)) (oVal (.tmp 13) (kUn lenSlA (.tmp 12)) (oCall (.tmp 14) (.con (.func 43 [] [])) [(.tmp 11),(.tmp 13)] (oVal (.tmp 7) (kMove (.tmp 14)) oNil))))))
def K70r2:OpsF:=(oVal (.tmp 15) (kMove (.tmp 7)) (oVal (.tmp 16) (kInt aNeq (.tmp 15) (.con (.int .i64 0))) oNil))
def K70r3:OpsF:=(oVal (.tmp 17) (kMove (.tmp 7)) (oVal (.tmp 6) (kMove (.tmp 17)) oNil))
def K70r4:OpsF:=(oVal (.tmp 18) (kMove (.tmp 0)) (oVal (.tmp 19) (kUn (fadA 0) (.tmp 4)) (oVal (.tmp 20) (kLoad none (.tmp 19)) (oVal (.tmp 21) (kTwo (ixsA 6) (.tmp 18) (.tmp 20)) (oVal (.tmp 22) (kLoad (some 6) (.tmp 21)) (oVal (.tmp 8) (kAlloc [(.int .i64 0),(.int .i64 0),(.int .i64 0),(.int .i64 0),(.int .i64 0),(.int .i64 0)] (tag 51)) (oVal .none (kStore 6 (.tmp 8) (.tmp 22)) oNil)))))))
def K70r5:OpsF:=(oVal (.tmp 23) (kMove (.tmp 2)) (oVal (.tmp 24) (kFunc 76 [] [(.tmp 4)]) (oCall (.tmp 25) (.con (.func 75 [] [])) [(.tmp 23),(.tmp 24)] (oVal (.tmp 9) (kMove (.tmp 25)) oNil))))
def K70r6:OpsF:=(oEnd [] (oVal (.tmp 26) (kMove (.tmp 9)) (oVal (.tmp 27) (kUn notA (.tmp 26)) (oCallT (some [29,31,34,36]) (.tmp 28) (.con (.func 72 [] [])) [(.tmp 27),(.con (.int .i64 4))] (oVal (.tmp 29) (kUn (fadA 1) (.tmp 4)) (oVal (.tmp 30) (kLoad none (.tmp 29)) (oVal (.tmp 31) (kUn (fadA 2) (.tmp 8)) (oVal (.tmp 32) (kLoad (some 2) (.tmp 31)) (oCallT (some [34,36]) (.tmp 33) (.con (.func 77 [] [])) [(.tmp 30),(.tmp 32)] (oVal (.tmp 34) (kUn (fadA 2) (.tmp 4)) (oVal (.tmp 35) (kLoad none (.tmp 34)) (oVal (.tmp 36) (kUn (fadA 4) (.tmp 8)) (oVal (.tmp 37) (kLoad (some 2) (.tmp 36)) (oCall (.tmp 38) (.con (.func 77 [] [])) [(.tmp 35),(.tmp 37)] (oVal (.tmp 39) (kBuildSlice [(.int .i64 0),(.int .i64 0),(.int .i64 0)] 3 [(0,1,(.tmp 28)),(1,1,(.tmp 33)),(2,1,(.tmp 38))]) (oCall (.tmp 40) (.con (.func 35 [] [])) [(.tmp 39)] (oVal (.tmp 6) (kMove (.tmp 40)) oNil)))))))))))))))))
theorem res70:Try.f70.results.toList=[.tmp 6]:=by kernel_rfl
def K70:K:=(kSeq (kRegion K70r0 [4,6]) (kSeq (kSeq (kRegion K70r1 [7]) (kSeq (kRegion K70r2 [16]) (kCond (.tmp 16) (kSeq (kRegion K70r3 [6]) kRet) kSkip))) (kSeq (kRegion K70r4 [8]) (kSeq (kRegion K70r5 [9]) (kSeq (kRegionD K70r6 [6]) kRet)))))
theorem enter70 (cl:CallF) (a0 a1 a2:AV) (s:St):enterA Try.prog X cl 70 [a0,a1,a2] s Try.f70=finA Try.prog Try.f70 (K70 cl ⟨70,none,Try.f70.ntmps,X 70⟩ (paramsEnv 0 [a0,a1,a2] .nil) [] s) :=
  enterA_eq (b:=Try.f70.body.getD .skip) (by kernel_rfl) (by kernel_rfl) (by kernel_rfl) (by kernel_rfl) (by kernel_rfl)
def K76r0:OpsF:=(oVal (.tmp 2) (kBox (tag 66) (.tmp 0)) (oVal (.tmp 3) (kMove (.con (.bool false))) oNil))
def K76r1:OpsF:=(oVal (.tmp 4) (kUn (fadA 0) (.tmp 2)) (oVal (.tmp 5) (kLoad none (.tmp 4)) (oVal (.tmp 6) (kUn (fadA 0) (.tmp 1)) (oVal (.tmp 7) (kLoad none (.tmp 6)) (oVal (.tmp 8) (kInt aEql (.tmp 5) (.tmp 7)) (oVal (.tmp 3) (kMove (.tmp 8)) oNil))))))
theorem res76:Try.f76.results.toList=[.tmp 3]:=by kernel_rfl
def K76:K:=(kSeq (kRegion K76r0 [2,3]) (kSeq (kRegion K76r1 [3]) kRet))
theorem enter76 (cl:CallF) (a0 a1:AV) (s:St):enterA Try.prog X cl 76 [a0,a1] s Try.f76=finA Try.prog Try.f76 (K76 cl ⟨76,none,Try.f76.ntmps,X 76⟩ (paramsEnv 0 [a0,a1] .nil) [] s) :=
  enterA_eq (b:=Try.f76.body.getD .skip) (by kernel_rfl) (by kernel_rfl) (by kernel_rfl) (by kernel_rfl) (by kernel_rfl)
def K77r0:OpsF:=(oVal (.tmp 3) (kBox (tag 38) (.tmp 1)) (oVal (.tmp 4) (kMove (.con (.int .i64 0))) oNil))
def K77r1s9:OpsF:=(oVal (.tmp 14) (kPick (.tmp 9) (.tmp 13) (.con (.bool false))) (oCall (.tmp 15) (.con (.func 72 [] [])) [(.tmp 14),(.con (.int .i64 9))] (oVal (.tmp 4) (kMove (.tmp 15)) oNil)))
def K77r1s8:OpsF:=(oIf 9 true (oVal (.tmp 13) (kInt aLeq (.tmp 10) (.tmp 12)) K77r1s9) (oSkip (.tmp 13) K77r1s9))
def K77r1s7:OpsF:=(oIf 9 true (oVal (.tmp 12) (kLoad none (.tmp 11)) K77r1s8) (oSkip (.tmp 12) K77r1s8))
def K77r1s6:OpsF:=(oIf 9 true (oVal (.tmp 11) (kUn (fadA 1) (.tmp 3)) K77r1s7) (oSkip (.tmp 11) K77r1s7))
def K77r1:OpsF:=(oVal (.tmp 5) (kUn (fadA 0) (.tmp 3)) (oVal (.tmp 6) (kLoad none (.tmp 5)) (oVal (.tmp 7) (kMove (.tmp 0)) (oVal (.tmp 8) (kInt aLeq (.tmp 6) (.tmp 7)) (oVal (.tmp 9) (kMove (.tmp 8)) (oIf 9 true (oVal (.tmp 10) (kMove (.tmp 0)) K77r1s6) (oSkip (.tmp 10) K77r1s6)))))))
theorem res77:Try.f77.results.toList=[.tmp 4]:=by kernel_rfl
def K77:K:=(kSeq (kRegion K77r0 [3,4]) (kSeq (kRegion K77r1 [4]) kRet))
theorem enter77 (cl:CallF) (a0 a1:AV) (s:St):enterA Try.prog X cl 77 [a0,a1] s Try.f77=finA Try.prog Try.f77 (K77 cl ⟨77,none,Try.f77.ntmps,X 77⟩ (paramsEnv 0 [a0,a1] .nil) [] s) :=
  enterA_eq (b:=Try.f77.body.getD .skip) (by kernel_rfl) (by kernel_rfl) (by kernel_rfl) (by kernel_rfl) (by kernel_rfl)
def K75r0:OpsF:=(oVal (.tmp 4) (kMove (.con (.bool false))) oNil)
def K75r1:OpsF:=(oVal (.tmp 5) (kMove (.tmp 0)) (oVal (.tmp 6) (kMove (.tmp 1)) (oCall (.tmp 7) (.con (.func 78 [] [])) [(.tmp 5),(.tmp 6)] (oVal (.tmp 8) (kInt aGeq (.tmp 7) (.con (.int .i64 0))) (oVal (.tmp 4) (kMove (.tmp 8)) oNil)))))
theorem res75:Try.f75.results.toList=[.tmp 4]:=by kernel_rfl
def K75:K:=(kSeq (kRegion K75r0 [4]) (kSeq (kRegion K75r1 [4]) kRet))
theorem enter75 (cl:CallF) (a0 a1:AV) (s:St):enterA Try.prog X cl 75 [a0,a1] s Try.f75=finA Try.prog Try.f75 (K75 cl ⟨75,none,Try.f75.ntmps,X 75⟩ (paramsEnv 0 [a0,a1] .nil) [] s) :=
  enterA_eq (b:=Try.f75.body.getD .skip) (by kernel_rfl) (by kernel_rfl) (by kernel_rfl) (by kernel_rfl) (by kernel_rfl)
def K78r0:OpsF:=(oVal (.tmp 4) (kMove (.con (.int .i64 0))) oNil)
def K78r1:OpsF:=(oVal (.tmp 6) (kMove (.tmp 0)) (oVal (.tmp 7) (kUn lenSlA (.tmp 6)) (oVal (.tmp 8) (kMove (.con (.int .i64 0))) oNil)))
def K78r2:OpsF:=(oVal (.tmp 9) (kInt aLss (.tmp 8) (.tmp 7)) oNil)
def K78r3:OpsF:=(oVal (.tmp 10) (kMove (.tmp 8)) (oVal (.tmp 5) (kMove (.tmp 10)) oNil))
def K78r4:OpsF:=(oVal (.tmp 11) (kMove (.tmp 1)) (oVal (.tmp 12) (kMove (.tmp 0)) (oVal (.tmp 13) (kMove (.tmp 5)) (oVal (.tmp 14) (kTwo (ixsA 3) (.tmp 12) (.tmp 13)) (oVal (.tmp 15) (kLoad (some 3) (.tmp 14)) (oCall (.tmp 16) (.tmp 11) [(.tmp 15)] oNil))))))
def K78r5:OpsF:=(oVal (.tmp 17) (kMove (.tmp 5)) (oVal (.tmp 4) (kMove (.tmp 17)) oNil))
def K78r6:OpsF:=(oVal (.tmp 18) (kInt aAdd (.tmp 8) (.con (.int .i64 1))) (oVal (.tmp 8) (kMove (.tmp 18)) oNil))
def K78l0:K:=(kSeq (kRegion K78r2 [9]) (kSeq (kCond (.tmp 9) kSkip (kExit 0)) (kSeq (kBlock 1 (kSeq (kRegion K78r3 [5]) (kSeq (kRegion K78r4 [16]) (kCond (.tmp 16) (kSeq (kRegion K78r5 [4]) kRet) kSkip)))) (kRegion K78r6 [8]))))
def K78r7:OpsF:=(oVal (.tmp 4) (kMove (.con (.int .i64 (-1)))) oNil)
theorem res78:Try.f78.results.toList=[.tmp 4]:=by kernel_rfl
def K78:K:=(kSeq (kRegion K78r0 [4]) (kSeq (kSeq (kRegion K78r1 [7,8]) (kBlock 0 (kLoop K78l0))) (kSeq (kRegion K78r7 [4]) kRet)))
theorem enter78 (cl:CallF) (a0 a1:AV) (s:St):enterA Try.prog X cl 78 [a0,a1] s Try.f78=finA Try.prog Try.f78 (K78 cl ⟨78,none,Try.f78.ntmps,X 78⟩ (paramsEnv 0 [a0,a1] .nil) [] s) :=
  enterA_eq (b:=Try.f78.body.getD .skip) (by kernel_rfl) (by kernel_rfl) (by kernel_rfl) (by kernel_rfl) (by kernel_rfl)
end
end Go.Proofs.Ytamlnddeiokbdaa.code
set_option maxRecDepth 100000
namespace Go.Proofs.Ytamlnddeiokbdaa.code
open Go.Abs
noncomputable section
end
end Go.Proofs.Ytamlnddeiokbdaa.code
set_option maxRecDepth 100000
namespace Go.Proofs.Ytamlnddeiokbdaa.code
open Go.Abs
noncomputable section
def K6r2:OpsF:=(oVal (.tmp 28) (kMove (.tmp 3)) (oCall (.tmp 29) (.con (.func 10 [] [])) [(.tmp 28),(.con (.int .i64 3)),(.con (.int .i64 3)),(.con (.int .i64 8))] (oVal (.tmp 4) (kAlloc [(.int .i64 0),(.int .i64 0),.nilslice] (tag 27)) (oVal .none (kStore 3 (.tmp 4) (.tmp 29)) oNil))))
def K6r3:OpsF:=(oVal (.tmp 30) (kMove (.tmp 3)) (oCall (.tmp 31) (.con (.func 11 [] [])) [(.tmp 30),(.con (.int .i64 4))] (oVal (.tmp 5) (kMove (.tmp 31)) oNil)))
def K6r4:OpsF:=(oVal (.tmp 32) (kMove (.tmp 3)) (oVal (.tmp 33) (kLoad (some 3) (.tmp 4)) (oCall (.tmp 34) (.con (.func 26 [] [])) [(.tmp 32),(.tmp 33)] (oVal (.tmp 6) (kMove (.tmp 34)) oNil))))
def K6r5:OpsF:=(oVal (.tmp 35) (kMove (.tmp 6)) (oVal (.tmp 36) (kUn lenSlA (.tmp 35)) (oVal (.tmp 37) (kUn (fadA 2) (.tmp 4)) (oVal (.tmp 38) (kLoad none (.tmp 37)) (oVal (.tmp 39) (kUn lenSlA (.tmp 38)) (oVal (.tmp 40) (kInt aEql (.tmp 36) (.tmp 39)) (oVal (.tmp 7) (kMove (.tmp 40)) oNil)))))))
def K6r6:OpsF:=(oVal (.tmp 42) (kLoad (some 3) (.tmp 4)) (oVal (.tmp 43) (kMove (.tmp 6)) (oCall (.tmp 44) (.con (.func 27 [] [])) [(.tmp 42),(.tmp 43)] (oVal (.tmp 41) (kMove (.tmp 44)) (oVal (.tmp 45) (kUn (extA 0) (.tmp 41)) (oVal (.tmp 46) (kUn (extA 1) (.tmp 41)) (oVal (.tmp 8) (kAlloc [(.int .i64 0),(.int .i64 0),.nilslice] (tag 27)) (oVal .none (kStore 3 (.tmp 8) (.tmp 45)) (oVal (.tmp 9) (kMove (.tmp 46)) oNil)))))))))
def K6r7:OpsF:=(oVal (.tmp 48) (kLoad (some 3) (.tmp 4)) (oVal (.tmp 49) (kMove (.tmp 5)) (oCall (.tmp 50) (.con (.func 12 [] [])) [(.tmp 48),(.tmp 49)] (oVal (.tmp 47) (kMove (.tmp 50)) (oVal (.tmp 51) (kUn (extA 0) (.tmp 47)) (oVal (.tmp 52) (kUn (extA 1) (.tmp 47)) (oVal (.tmp 10) (kMove (.tmp 51)) (oVal (.tmp 11) (kMove (.tmp 52)) oNil))))))))
def K6r8:OpsF:=(oVal (.tmp 54) (kLoad (some 3) (.tmp 8)) (oVal (.tmp 55) (kMove (.tmp 5)) (oCall (.tmp 56) (.con (.func 12 [] [])) [(.tmp 54),(.tmp 55)] (oVal (.tmp 53) (kMove (.tmp 56)) (oVal (.tmp 57) (kUn (extA 0) (.tmp 53)) (oVal (.tmp 58) (kUn (extA 1) (.tmp 53)) (oVal (.tmp 12) (kMove (.tmp 57)) (oVal (.tmp 13) (kMove (.tmp 58)) oNil))))))))
def K6r9s23:OpsF:=(oVal (.tmp 82) (kPick (.tmp 76) (.con (.bool true)) (.tmp 81)) oNil)
def K6r9s22:OpsF:=(oIf 76 false (oVal (.tmp 81) (kInt aNeq (.tmp 78) (.tmp 80)) K6r9s23) (oSkip (.tmp 81) K6r9s23))
def K6r9s21:OpsF:=(oIf 76 false (oVal (.tmp 80) (kLoad none (.tmp 79)) K6r9s22) (oSkip (.tmp 80) K6r9s22))
def K6r9s20:OpsF:=(oIf 76 false (oVal (.tmp 79) (kUn (fadA 0) (.tmp 4)) K6r9s21) (oSkip (.tmp 79) K6r9s21))
def K6r9s19:OpsF:=(oIf 76 false (oVal (.tmp 78) (kUn lenSlA (.tmp 77)) K6r9s20) (oSkip (.tmp 78) K6r9s20))
def K6r9s16:OpsF:=(oVal (.tmp 75) (kPick (.tmp 69) (.con (.bool true)) (.tmp 74)) (oVal (.tmp 76) (kMove (.tmp 75)) (oIf 76 false (oVal (.tmp 77) (kMove (.tmp 12)) K6r9s19) (oSkip (.tmp 77) K6r9s19))))
def K6r9s15:OpsF:=(oIf 69 false (oVal (.tmp 74) (kInt aNeq (.tmp 71) (.tmp 73)) K6r9s16) (oSkip (.tmp 74) K6r9s16))
def K6r9s14:OpsF:=(oIf 69 false (oVal (.tmp 73) (kLoad none (.tmp 72)) K6r9s15) (oSkip (.tmp 73) K6r9s15))
def K6r9s13:OpsF:=(oIf 69 false (oVal (.tmp 72) (kUn (fadA 0) (.tmp 4)) K6r9s14) (oSkip (.tmp 72) K6r9s14))
def K6r9s12:OpsF:=(oIf 69 false (oVal (.tmp 71) (kUn lenSlA (.tmp 70)) K6r9s13) (oSkip (.tmp 71) K6r9s13))
def K6r9s9:OpsF:=(oVal (.tmp 68) (kPick (.tmp 65) (.con (.bool true)) (.tmp 67)) (oVal (.tmp 69) (kMove (.tmp 68)) (oIf 69 false (oVal (.tmp 70) (kMove (.tmp 10)) K6r9s12) (oSkip (.tmp 70) K6r9s12))))
def K6r9s8:OpsF:=(oIf 65 false (oVal (.tmp 67) (kInt aNeq (.tmp 66) (.con (.int .i64 0))) K6r9s9) (oSkip (.tmp 67) K6r9s9))
def K6r9s5:OpsF:=(oVal (.tmp 64) (kPick (.tmp 61) (.con (.bool true)) (.tmp 63)) (oVal (.tmp 65) (kMove (.tmp 64)) (oIf 65 false (oVal (.tmp 66) (kMove (.tmp 13)) K6r9s8) (oSkip (.tmp 66) K6r9s8))))
def K6r9s4:OpsF:=(oIf 61 false (oVal (.tmp 63) (kInt aNeq (.tmp 62) (.con (.int .i64 0))) K6r9s5) (oSkip (.tmp 63) K6r9s5))
def K6r9:OpsF:=(oVal (.tmp 59) (kMove (.tmp 9)) (oVal (.tmp 60) (kInt aNeq (.tmp 59) (.con (.int .i64 0))) (oVal (.tmp 61) (kMove (.tmp 60)) (oIf 61 false (oVal (.tmp 62) (kMove (.tmp 11)) K6r9s4) (oSkip (.tmp 62) K6r9s4)))))
def K6r10:OpsF:=(oVal (.tmp 2) (kMove (.con (.bool false))) oNil)
def K6r11:OpsF:=(oVal (.tmp 14) (kMove (.con (.int .i64 0))) oNil)
def K6r12:OpsF:=(oVal (.tmp 83) (kMove (.tmp 14)) (oVal (.tmp 84) (kUn (fadA 1) (.tmp 4)) (oVal (.tmp 85) (kLoad none (.tmp 84)) (oVal (.tmp 86) (kInt aLss (.tmp 83) (.tmp 85)) oNil))))
def K6r13:OpsF:=(oVal (.tmp 90) (kLoad (some 3) (.tmp 4)) (oVal (.tmp 91) (kMove (.tmp 14)) (oCall (.tmp 92) (.con (.func 14 [] [])) [(.tmp 90),(.tmp 91)] (oVal (.tmp 89) (kMove (.tmp 92)) (oVal (.tmp 93) (kUn (extA 0) (.tmp 89)) (oVal (.tmp 94) (kUn (extA 1) (.tmp 89)) (oVal (.tmp 95) (kUn (extA 2) (.tmp 89)) (oVal (.tmp 16) (kAlloc [(.int .i64 0),(.int .i64 0)] (tag 38)) (oVal (.tmp 15) (kMove (.tmp 93)) (oVal .none (kStore 2 (.tmp 16) (.tmp 94)) (oVal (.tmp 17) (kMove (.tmp 95)) oNil)))))))))))
def K6r14:OpsF:=(oVal (.tmp 97) (kLoad (some 3) (.tmp 8)) (oVal (.tmp 98) (kMove (.tmp 14)) (oCall (.tmp 99) (.con (.func 14 [] [])) [(.tmp 97),(.tmp 98)] (oVal (.tmp 96) (kMove (.tmp 99)) (oVal (.tmp 100) (kUn (extA 0) (.tmp 96)) (oVal (.tmp 101) (kUn (extA 1) (.tmp 96)) (oVal (.tmp 102) (kUn (extA 2) (.tmp 96)) (oVal (.tmp 19) (kAlloc [(.int .i64 0),(.int .i64 0)] (tag 38)) (oVal (.tmp 18) (kMove (.tmp 100)) (oVal .none (kStore 2 (.tmp 19) (.tmp 101)) (oVal (.tmp 20) (kMove (.tmp 102)) oNil)))))))))))
def K6r15s38:OpsF:=(oVal (.tmp 141) (kPick (.tmp 128) (.con (.bool true)) (.tmp 140)) oNil)
def K6r15s37:OpsF:=(oIf 128 false (oVal (.tmp 140) (kPick (.tmp 130) (.tmp 139) (.con (.bool false))) K6r15s38) (oSkip (.tmp 140) K6r15s38))
def K6r15s36:OpsF:=(oIf 130 true (oVal (.tmp 139) (kPick (.tmp 133) (.con (.bool true)) (.tmp 138)) K6r15s37) (oSkip (.tmp 139) K6r15s37))
def K6r15s35:OpsF:=(oIf 133 false (oVal (.tmp 138) (kInt aNeq (.tmp 135) (.tmp 137)) K6r15s36) (oSkip (.tmp 138) K6r15s36))
def K6r15s34:OpsF:=(oIf 133 false (oVal (.tmp 137) (kLoad none (.tmp 136)) K6r15s35) (oSkip (.tmp 137) K6r15s35))
def K6r15s33:OpsF:=(oIf 133 false (oVal (.tmp 136) (kUn (fadA 1) (.tmp 19)) K6r15s34) (oSkip (.tmp 136) K6r15s34))
def K6r15s32:OpsF:=(oIf 133 false (oVal (.tmp 135) (kLoad none (.tmp 134)) K6r15s33) (oSkip (.tmp 135) K6r15s33))
def K6r15s31:OpsF:=(oIf 133 false (oVal (.tmp 134) (kUn (fadA 0) (.tmp 19)) K6r15s32) (oSkip (.tmp 134) K6r15s32))
def K6r15s30:OpsF:=(oIf 130 true (oVal (.tmp 133) (kMove (.tmp 132)) K6r15s31) (oSkip (.tmp 133) K6r15s31))
def K6r15s29:OpsF:=(oIf 130 true (oVal (.tmp 132) (kInt aEql (.tmp 131) (.con (.int .i64 3))) K6r15s30) (oSkip (.tmp 132) K6r15s30))
def K6r15s28:OpsF:=(oIf 130 true (oVal (.tmp 131) (kMove (.tmp 18)) K6r15s29) (oSkip (.tmp 131) K6r15s29))
def K6r15s27:OpsF:=(oIf 128 false (oVal (.tmp 130) (kMove (.tmp 129)) K6r15s28) (oSkip (.tmp 130) K6r15s28))
def K6r15s24:OpsF:=(oVal (.tmp 127) (kPick (.tmp 118) (.con (.bool true)) (.tmp 126)) (oVal (.tmp 128) (kMove (.tmp 127)) (oIf 128 false (oVal (.tmp 129) (kMove (.tmp 7)) K6r15s27) (oSkip (.tmp 129) K6r15s27))))
def K6r15s23:OpsF:=(oIf 118 false (oVal (.tmp 126) (kPick (.tmp 121) (.tmp 125) (.con (.bool false))) K6r15s24) (oSkip (.tmp 126) K6r15s24))
def K6r15s22:OpsF:=(oIf 121 true (oVal (.tmp 125) (kUn notA (.tmp 124)) K6r15s23) (oSkip (.tmp 125) K6r15s23))
def K6r15s21:OpsF:=(oIf 121 true (oCall (.tmp 124) (.con (.func 28 [] [])) [(.tmp 122),(.tmp 123)] K6r15s22) (oSkip (.tmp 124) K6r15s22))
def K6r15s20:OpsF:=(oIf 121 true (oVal (.tmp 123) (kLoad (some 2) (.tmp 16)) K6r15s21) (oSkip (.tmp 123) K6r15s21))
def K6r15s19:OpsF:=(oIf 121 true (oVal (.tmp 122) (kLoad (some 2) (.tmp 19)) K6r15s20) (oSkip (.tmp 122) K6r15s20))
def K6r15s18:OpsF:=(oIf 118 false (oVal (.tmp 121) (kMove (.tmp 120)) K6r15s19) (oSkip (.tmp 121) K6r15s19))
def K6r15s17:OpsF:=(oIf 118 false (oVal (.tmp 120) (kInt aNeq (.tmp 119) (.con (.int .i64 2))) K6r15s18) (oSkip (.tmp 120) K6r15s18))
def K6r15s14:OpsF:=(oVal (.tmp 117) (kPick (.tmp 109) (.con (.bool true)) (.tmp 116)) (oVal (.tmp 118) (kMove (.tmp 117)) (oIf 118 false (oVal (.tmp 119) (kMove (.tmp 18)) K6r15s17) (oSkip (.tmp 119) K6r15s17))))
def K6r15s13:OpsF:=(oIf 109 false (oVal (.tmp 116) (kPick (.tmp 112) (.tmp 115) (.con (.bool false))) K6r15s14) (oSkip (.tmp 116) K6r15s14))
def K6r15s12:OpsF:=(oIf 112 true (oVal (.tmp 115) (kInt aNeq (.tmp 113) (.tmp 114)) K6r15s13) (oSkip (.tmp 115) K6r15s13))
def K6r15s11:OpsF:=(oIf 112 true (oVal (.tmp 114) (kMove (.tmp 18)) K6r15s12) (oSkip (.tmp 114) K6r15s12))
def K6r15s10:OpsF:=(oIf 112 true (oVal (.tmp 113) (kMove (.tmp 15)) K6r15s11) (oSkip (.tmp 113) K6r15s11))
def K6r15s9:OpsF:=(oIf 109 false (oVal (.tmp 112) (kMove (.tmp 111)) K6r15s10) (oSkip (.tmp 112) K6r15s10))
def K6r15s8:OpsF:=(oIf 109 false (oVal (.tmp 111) (kInt aNeq (.tmp 110) (.con (.int .i64 3))) K6r15s9) (oSkip (.tmp 111) K6r15s9))
def K6r15s5:OpsF:=(oVal (.tmp 108) (kPick (.tmp 105) (.con (.bool true)) (.tmp 107)) (oVal (.tmp 109) (kMove (.tmp 108)) (oIf 109 false (oVal (.tmp 110) (kMove (.tmp 15)) K6r15s8) (oSkip (.tmp 110) K6r15s8))))
def K6r15s4:OpsF:=(oIf 105 false (oVal (.tmp 107) (kInt aNeq (.tmp 106) (.con (.int .i64 0))) K6r15s5) (oSkip (.tmp 107) K6r15s5))
def K6r15:OpsF:=(oVal (.tmp 103) (kMove (.tmp 17)) (oVal (.tmp 104) (kInt aNeq (.tmp 103) (.con (.int .i64 0))) (oVal (.tmp 105) (kMove (.tmp 104)) (oIf 105 false (oVal (.tmp 106) (kMove (.tmp 20)) K6r15s4) (oSkip (.tmp 106) K6r15s4)))))
def K6r16:OpsF:=(oVal (.tmp 2) (kMove (.con (.bool false))) oNil)
def K6r17:OpsF:=(oVal (.tmp 87) (kMove (.tmp 14)) (oVal (.tmp 88) (kInt aAdd (.tmp 87) (.con (.int .i64 1))) (oVal (.tmp 14) (kMove (.tmp 88)) oNil)))
def K6l0:K:=(kSeq (kSeq (kRegion K6r12 [86]) (kCond (.tmp 86) kSkip (kExit 0))) (kSeq (kBlock 1 (kSeq (kRegion K6r13 [16,15,17]) (kSeq (kRegion K6r14 [19,18,20]) (kSeq (kRegion K6r15 [141]) (kCond (.tmp 141) (kSeq (kRegion K6r16 [2]) kRet) kSkip))))) (kRegion K6r17 [14])))
def K6r18:OpsF:=(oVal (.tmp 21) (kMove (.con (.int .i64 0))) oNil)
def K6r19:OpsF:=(oVal (.tmp 142) (kMove (.tmp 21)) (oVal (.tmp 143) (kUn (fadA 0) (.tmp 4)) (oVal (.tmp 144) (kLoad none (.tmp 143)) (oVal (.tmp 145) (kInt aLss (.tmp 142) (.tmp 144)) oNil))))
def K6r20:OpsF:=(oVal (.tmp 149) (kLoad (some 3) (.tmp 4)) (oVal (.tmp 150) (kMove (.tmp 21)) (oCall (.tmp 151) (.con (.func 17 [] [])) [(.tmp 149),(.tmp 150)] (oVal (.tmp 148) (kMove (.tmp 151)) (oVal (.tmp 152) (kUn (extA 0) (.tmp 148)) (oVal (.tmp 153) (kUn (extA 1) (.tmp 148)) (oVal (.tmp 22) (kAlloc [(.int .i64 0),(.int .i64 0)] (tag 38)) (oVal .none (kStore 2 (.tmp 22) (.tmp 152)) (oVal (.tmp 23) (kMove (.tmp 153)) oNil)))))))))
def K6r21:OpsF:=(oVal (.tmp 155) (kLoad (some 3) (.tmp 8)) (oVal (.tmp 156) (kMove (.tmp 21)) (oCall (.tmp 157) (.con (.func 17 [] [])) [(.tmp 155),(.tmp 156)] (oVal (.tmp 154) (kMove (.tmp 157)) (oVal (.tmp 158) (kUn (extA 0) (.tmp 154)) (oVal (.tmp 159) (kUn (extA 1) (.tmp 154)) (oVal (.tmp 24) (kAlloc [(.int .i64 0),(.int .i64 0)] (tag 38)) (oVal .none (kStore 2 (.tmp 24) (.tmp 158)) (oVal (.tmp 25) (kMove (.tmp 159)) oNil)))))))))
def K6r22s46:OpsF:=(oVal (.tmp 206) (kPick (.tmp 184) (.con (.bool true)) (.tmp 205)) oNil)
def K6r22s45:OpsF:=(oIf 184 false (oVal (.tmp 205) (kPick (.tmp 186) (.tmp 204) (.con (.bool false))) K6r22s46) (oSkip (.tmp 205) K6r22s46))
def K6r22s44:OpsF:=(oIf 186 true (oVal (.tmp 204) (kPick (.tmp 192) (.con (.bool true)) (.tmp 203)) K6r22s45) (oSkip (.tmp 204) K6r22s45))
def K6r22s43:OpsF:=(oIf 192 false (oVal (.tmp 203) (kInt aNeq (.tmp 197) (.tmp 202)) K6r22s44) (oSkip (.tmp 203) K6r22s44))
def K6r22s42:OpsF:=(oIf 192 false (oVal (.tmp 202) (kLoad none (.tmp 201)) K6r22s43) (oSkip (.tmp 202) K6r22s43))
def K6r22s41:OpsF:=(oIf 192 false (oVal (.tmp 201) (kUn (fadA 1) (.tmp 200)) K6r22s42) (oSkip (.tmp 201) K6r22s42))
def K6r22s40:OpsF:=(oIf 192 false (oVal (.tmp 200) (kTwo (ixsA 2) (.tmp 198) (.tmp 199)) K6r22s41) (oSkip (.tmp 200) K6r22s41))
def K6r22s39:OpsF:=(oIf 192 false (oVal (.tmp 199) (kMove (.tmp 21)) K6r22s40) (oSkip (.tmp 199) K6r22s40))
def K6r22s38:OpsF:=(oIf 192 false (oVal (.tmp 198) (kMove (.tmp 12)) K6r22s39) (oSkip (.tmp 198) K6r22s39))
def K6r22s37:OpsF:=(oIf 192 false (oVal (.tmp 197) (kLoad none (.tmp 196)) K6r22s38) (oSkip (.tmp 197) K6r22s38))
def K6r22s36:OpsF:=(oIf 192 false (oVal (.tmp 196) (kUn (fadA 0) (.tmp 195)) K6r22s37) (oSkip (.tmp 196) K6r22s37))
def K6r22s35:OpsF:=(oIf 192 false (oVal (.tmp 195) (kTwo (ixsA 2) (.tmp 193) (.tmp 194)) K6r22s36) (oSkip (.tmp 195) K6r22s36))
def K6r22s34:OpsF:=(oIf 192 false (oVal (.tmp 194) (kMove (.tmp 21)) K6r22s35) (oSkip (.tmp 194) K6r22s35))
def K6r22s33:OpsF:=(oIf 192 false (oVal (.tmp 193) (kMove (.tmp 12)) K6r22s34) (oSkip (.tmp 193) K6r22s34))
def K6r22s32:OpsF:=(oIf 186 true (oVal (.tmp 192) (kMove (.tmp 191)) K6r22s33) (oSkip (.tmp 192) K6r22s33))
def K6r22s31:OpsF:=(oIf 186 true (oVal (.tmp 191) (kInt aNeq (.tmp 188) (.tmp 190)) K6r22s32) (oSkip (.tmp 191) K6r22s32))
def K6r22s30:OpsF:=(oIf 186 true (oVal (.tmp 190) (kLoad none (.tmp 189)) K6r22s31) (oSkip (.tmp 190) K6r22s31))
def K6r22s29:OpsF:=(oIf 186 true (oVal (.tmp 189) (kUn (fadA 1) (.tmp 24)) K6r22s30) (oSkip (.tmp 189) K6r22s30))
def K6r22s28:OpsF:=(oIf 186 true (oVal (.tmp 188) (kLoad none (.tmp 187)) K6r22s29) (oSkip (.tmp 188) K6r22s29))
def K6r22s27:OpsF:=(oIf 186 true (oVal (.tmp 187) (kUn (fadA 0) (.tmp 24)) K6r22s28) (oSkip (.tmp 187) K6r22s28))
def K6r22s26:OpsF:=(oIf 184 false (oVal (.tmp 186) (kMove (.tmp 185)) K6r22s27) (oSkip (.tmp 186) K6r22s27))
def K6r22s23:OpsF:=(oVal (.tmp 183) (kPick (.tmp 172) (.con (.bool true)) (.tmp 182)) (oVal (.tmp 184) (kMove (.tmp 183)) (oIf 184 false (oVal (.tmp 185) (kMove (.tmp 7)) K6r22s26) (oSkip (.tmp 185) K6r22s26))))
def K6r22s22:OpsF:=(oIf 172 false (oVal (.tmp 182) (kUn notA (.tmp 181)) K6r22s23) (oSkip (.tmp 182) K6r22s23))
def K6r22s21:OpsF:=(oIf 172 false (oCall (.tmp 181) (.con (.func 28 [] [])) [(.tmp 176),(.tmp 180)] K6r22s22) (oSkip (.tmp 181) K6r22s22))
def K6r22s20:OpsF:=(oIf 172 false (oVal (.tmp 180) (kLoad (some 2) (.tmp 179)) K6r22s21) (oSkip (.tmp 180) K6r22s21))
def K6r22s19:OpsF:=(oIf 172 false (oVal (.tmp 179) (kTwo (ixsA 2) (.tmp 177) (.tmp 178)) K6r22s20) (oSkip (.tmp 179) K6r22s20))
def K6r22s18:OpsF:=(oIf 172 false (oVal (.tmp 178) (kMove (.tmp 21)) K6r22s19) (oSkip (.tmp 178) K6r22s19))
def K6r22s17:OpsF:=(oIf 172 false (oVal (.tmp 177) (kMove (.tmp 10)) K6r22s18) (oSkip (.tmp 177) K6r22s18))
def K6r22s16:OpsF:=(oIf 172 false (oVal (.tmp 176) (kLoad (some 2) (.tmp 175)) K6r22s17) (oSkip (.tmp 176) K6r22s17))
def K6r22s15:OpsF:=(oIf 172 false (oVal (.tmp 175) (kTwo (ixsA 2) (.tmp 173) (.tmp 174)) K6r22s16) (oSkip (.tmp 175) K6r22s16))
def K6r22s14:OpsF:=(oIf 172 false (oVal (.tmp 174) (kMove (.tmp 21)) K6r22s15) (oSkip (.tmp 174) K6r22s15))
def K6r22s11:OpsF:=(oVal (.tmp 171) (kPick (.tmp 166) (.con (.bool true)) (.tmp 170)) (oVal (.tmp 172) (kMove (.tmp 171)) (oIf 172 false (oVal (.tmp 173) (kMove (.tmp 12)) K6r22s14) (oSkip (.tmp 173) K6r22s14))))
def K6r22s10:OpsF:=(oIf 166 false (oVal (.tmp 170) (kUn notA (.tmp 169)) K6r22s11) (oSkip (.tmp 170) K6r22s11))
def K6r22s9:OpsF:=(oIf 166 false (oCall (.tmp 169) (.con (.func 28 [] [])) [(.tmp 167),(.tmp 168)] K6r22s10) (oSkip (.tmp 169) K6r22s10))
def K6r22s8:OpsF:=(oIf 166 false (oVal (.tmp 168) (kLoad (some 2) (.tmp 22)) K6r22s9) (oSkip (.tmp 168) K6r22s9))
def K6r22s5:OpsF:=(oVal (.tmp 165) (kPick (.tmp 162) (.con (.bool true)) (.tmp 164)) (oVal (.tmp 166) (kMove (.tmp 165)) (oIf 166 false (oVal (.tmp 167) (kLoad (some 2) (.tmp 24)) K6r22s8) (oSkip (.tmp 167) K6r22s8))))
def K6r22s4:OpsF:=(oIf 162 false (oVal (.tmp 164) (kInt aNeq (.tmp 163) (.con (.int .i64 0))) K6r22s5) (oSkip (.tmp 164) K6r22s5))
def K6r22:OpsF:=(oEnd [] (oVal (.tmp 160) (kMove (.tmp 23)) (oVal (.tmp 161) (kInt aNeq (.tmp 160) (.con (.int .i64 0))) (oVal (.tmp 162) (kMove (.tmp 161)) (oIf 162 false (oVal (.tmp 163) (kMove (.tmp 25)) K6r22s4) (oSkip (.tmp 163) K6r22s4))))))
def K6r23:OpsF:=(oVal (.tmp 2) (kMove (.con (.bool false))) oNil)
def K6r24:OpsF:=(oVal (.tmp 146) (kMove (.tmp 21)) (oVal (.tmp 147) (kInt aAdd (.tmp 146) (.con (.int .i64 1))) (oVal (.tmp 21) (kMove (.tmp 147)) oNil)))
def K6l1:K:=(kSeq (kSeq (kRegion K6r19 [145]) (kCond (.tmp 145) kSkip (kExit 2))) (kSeq (kBlock 3 (kSeq (kRegion K6r20 [22,23]) (kSeq (kRegion K6r21 [24,25]) (kSeq (kRegionD K6r22 [206]) (kCond (.tmp 206) (kSeq (kRegion K6r23 [2]) kRet) kSkip))))) (kRegion K6r24 [21])))
def K6r25:OpsF:=(oCall (.tmp 207) (.con (.func 20 [] [])) [] (oVal (.tmp 2) (kMove (.tmp 207)) oNil))
theorem res6:Try.f6.results.toList=[.tmp 2]:=by kernel_rfl
def K26r0:OpsF:=(oVal (.tmp 3) (kBox (tag 27) (.tmp 1)) (oVal (.tmp 4) (kMove (.con .nilslice)) oNil))
def K26r1:OpsF:=(oVal (.tmp 9) (kMove (.tmp 0)) (oVal (.tmp 10) (kUn (fadA 2) (.tmp 3)) (oVal (.tmp 11) (kLoad none (.tmp 10)) (oVal (.tmp 12) (kUn lenSlA (.tmp 11)) (oCall (.tmp 13) (.con (.func 24 [] [])) [(.tmp 9),(.tmp 12)] (oVal (.tmp 5) (kMove (.tmp 13)) oNil))))))
def K26r2:OpsF:=(oVal (.tmp 14) (kMove (.tmp 5)) (oVal (.tmp 15) (kMove (.tmp 0)) (oVal (.tmp 16) (kMove (.tmp 5)) (oVal (.tmp 17) (kUn lenSlA (.tmp 16)) (oVal (.tmp 18) (kMove (.tmp 0)) (oVal (.tmp 19) (kMove (.tmp 5)) (oVal (.tmp 20) (kUn lenSlA (.tmp 19)) (oVal (.tmp 21) (kInt aAdd (.tmp 20) (.con (.int .i64 1))) (oCall (.tmp 22) (.con (.func 33 [] [])) [(.tmp 18),(.tmp 21)] (oVal (.tmp 23) (kBuildSlice [(.int .i64 0),(.int .i64 0)] 2 [(0,1,(.tmp 17)),(1,1,(.tmp 22))]) (oCall (.tmp 24) (.con (.func 32 [] [])) [(.tmp 15),(.tmp 23)] (oVal (.tmp 25) (kSlice (sliceVal 1) (.tmp 14) none (some (.tmp 24))) (oVal (.tmp 5) (kMove (.tmp 25)) oNil)))))))))))))
def K26r3:OpsF:=(oVal (.tmp 6) (kMove (.con .nilslice)) oNil)
def K26r4:OpsF:=(oVal (.tmp 7) (kMove (.con (.int .i64 0))) oNil)
def K26r5:OpsF:=(oVal (.tmp 26) (kMove (.tmp 7)) (oVal (.tmp 27) (kMove (.tmp 5)) (oVal (.tmp 28) (kUn lenSlA (.tmp 27)) (oVal (.tmp 29) (kInt aLss (.tmp 26) (.tmp 28)) oNil))))
def K26r6:OpsF:=(oEnd [] (oVal (.tmp 32) (kUn (fadA 2) (.tmp 3)) (oVal (.tmp 33) (kLoad none (.tmp 32)) (oVal (.tmp 34) (kMove (.tmp 5)) (oVal (.tmp 35) (kMove (.tmp 7)) (oVal (.tmp 36) (kTwo (ixsA 1) (.tmp 34) (.tmp 35)) (oVal (.tmp 37) (kLoad none (.tmp 36)) (oVal (.tmp 38) (kTwo (ixsA 6) (.tmp 33) (.tmp 37)) (oVal (.tmp 39) (kLoad (some 6) (.tmp 38)) (oVal (.tmp 8) (kAlloc [(.int .i64 0),(.int .i64 0),(.int .i64 0),(.int .i64 0),(.int .i64 0),(.int .i64 0)] (tag 51)) (oVal .none (kStore 6 (.tmp 8) (.tmp 39)) oNil)))))))))))
def K26r7:OpsF:=(oEnd [] (oVal (.tmp 40) (kMove (.tmp 6)) (oVal (.tmp 41) (kMove (.tmp 5)) (oVal (.tmp 42) (kMove (.tmp 7)) (oVal (.tmp 43) (kTwo (ixsA 1) (.tmp 41) (.tmp 42)) (oVal (.tmp 44) (kLoad none (.tmp 43)) (oVal (.tmp 45) (kMove (.tmp 0)) (oVal (.tmp 46) (kUn (fadA 2) (.tmp 8)) (oVal (.tmp 47) (kLoad (some 2) (.tmp 46)) (oCallT (some [43,50]) (.tmp 48) (.con (.func 42 [] [])) [(.tmp 45),(.tmp 47)] (oVal (.tmp 49) (kMove (.tmp 0)) (oVal (.tmp 50) (kUn (fadA 4) (.tmp 8)) (oVal (.tmp 51) (kLoad (some 2) (.tmp 50)) (oCallT (some [43]) (.tmp 52) (.con (.func 42 [] [])) [(.tmp 49),(.tmp 51)] (oVal (.tmp 53) (kBuild [(.int .i64 0),(.int .i64 0),(.int .i64 0)] [(0,1,(.tmp 44)),(1,1,(.tmp 48)),(2,1,(.tmp 52))]) (oVal (.tmp 54) (kBuildSlice [(.int .i64 0),(.int .i64 0),(.int .i64 0)] 1 [(0,3,(.tmp 53))]) (oVal (.tmp 55) (kTwo (appendA false 3 24 (tag 66)) (.tmp 40) (.tmp 54)) (oVal (.tmp 6) (kMove (.tmp 55)) oNil))))))))))))))))))
def K26r8:OpsF:=(oVal (.tmp 30) (kMove (.tmp 7)) (oVal (.tmp 31) (kInt aAdd (.tmp 30) (.con (.int .i64 1))) (oVal (.tmp 7) (kMove (.tmp 31)) oNil)))
def K26l0:K:=(kSeq (kSeq (kRegion K26r5 [29]) (kCond (.tmp 29) kSkip (kExit 0))) (kSeq (kBlock 1 (kSeq (kRegionD K26r6 [8]) (kRegionD K26r7 [6]))) (kRegion K26r8 [7])))
def K26r9:OpsF:=(oVal (.tmp 56) (kMove (.tmp 6)) (oVal (.tmp 4) (kMove (.tmp 56)) oNil))
theorem res26:Try.f26.results.toList=[.tmp 4]:=by kernel_rfl
def K26:K:=(kSeq (kRegion K26r0 [3,4]) (kSeq (kRegion K26r1 [5]) (kSeq (kRegion K26r2 [5]) (kSeq (kRegion K26r3 [6]) (kSeq (kSeq (kRegion K26r4 [7]) (kBlock 0 (kLoop K26l0))) (kSeq (kRegion K26r9 [4]) kRet))))))
theorem enter26 (cl:CallF) (a0 a1:AV) (s:St):enterA Try.prog X cl 26 [a0,a1] s Try.f26=finA Try.prog Try.f26 (K26 cl ⟨26,none,Try.f26.ntmps,X 26⟩ (paramsEnv 0 [a0,a1] .nil) [] s) :=
  enterA_eq (b:=Try.f26.body.getD .skip) (by kernel_rfl) (by kernel_rfl) (by kernel_rfl) (by kernel_rfl) (by kernel_rfl)
def K28r0:OpsF:=(oVal (.tmp 2) (kBox (tag 38) (.tmp 0)) (oVal (.tmp 3) (kBox (tag 38) (.tmp 1)) (oVal (.tmp 4) (kMove (.con (.bool false))) oNil)))
def K28r1s11:OpsF:=(oVal (.tmp 16) (kPick (.tmp 10) (.tmp 15) (.con (.bool false))) (oVal (.tmp 4) (kMove (.tmp 16)) oNil))
def K28r1s10:OpsF:=(oIf 10 true (oVal (.tmp 15) (kInt aLeq (.tmp 12) (.tmp 14)) K28r1s11) (oSkip (.tmp 15) K28r1s11))
def K28r1s9:OpsF:=(oIf 10 true (oVal (.tmp 14) (kLoad none (.tmp 13)) K28r1s10) (oSkip (.tmp 14) K28r1s10))
def K28r1s8:OpsF:=(oIf 10 true (oVal (.tmp 13) (kUn (fadA 1) (.tmp 3)) K28r1s9) (oSkip (.tmp 13) K28r1s9))
def K28r1s7:OpsF:=(oIf 10 true (oVal (.tmp 12) (kLoad none (.tmp 11)) K28r1s8) (oSkip (.tmp 12) K28r1s8))
def K28r1:OpsF:=(oVal (.tmp 5) (kUn (fadA 0) (.tmp 3)) (oVal (.tmp 6) (kLoad none (.tmp 5)) (oVal (.tmp 7) (kUn (fadA 0) (.tmp 2)) (oVal (.tmp 8) (kLoad none (.tmp 7)) (oVal (.tmp 9) (kInt aLeq (.tmp 6) (.tmp 8)) (oVal (.tmp 10) (kMove (.tmp 9)) (oIf 10 true (oVal (.tmp 11) (kUn (fadA 1) (.tmp 2)) K28r1s7) (oSkip (.tmp 11) K28r1s7))))))))
theorem res28:Try.f28.results.toList=[.tmp 4]:=by kernel_rfl
def K28:K:=(kSeq (kRegion K28r0 [2,3,4]) (kSeq (kRegion K28r1 [4]) kRet))
theorem enter28 (cl:CallF) (a0 a1:AV) (s:St):enterA Try.prog X cl 28 [a0,a1] s Try.f28=finA Try.prog Try.f28 (K28 cl ⟨28,none,Try.f28.ntmps,X 28⟩ (paramsEnv 0 [a0,a1] .nil) [] s) :=
  enterA_eq (b:=Try.f28.body.getD .skip) (by kernel_rfl) (by kernel_rfl) (by kernel_rfl) (by kernel_rfl) (by kernel_rfl)
end
end Go.Proofs.Ytamlnddeiokbdaa.code
