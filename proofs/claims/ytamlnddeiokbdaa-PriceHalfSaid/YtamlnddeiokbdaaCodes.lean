/- The code of functions as the interpreter has it, region by region. -/
import Derived.Test.YtamlnddeiokbdaaAbsTab
import Derived.Test.YtamlnddeiokbdaaAbsWalk
import Derived.KernelRfl
set_option maxRecDepth 100000
namespace Go.Proofs.Ytamlnddeiokbdaa.code
open Go.Abs
noncomputable section
def K35r0:OpsF:=(oVal (.tmp 2) (kMove (.con (.int .i64 0))) oNil)
def K35r1:OpsF:=(oVal (.tmp 3) (kMove (.con (.int .i64 0))) oNil)
def K35r2:OpsF:=(oVal (.tmp 6) (kMove (.tmp 0)) (oVal (.tmp 7) (kUn lenSlA (.tmp 6)) (oVal (.tmp 8) (kMove (.con (.int .i64 0))) oNil)))
def K35r3:OpsF:=(oVal (.tmp 9) (kInt aLss (.tmp 8) (.tmp 7)) oNil)
def K35r4:OpsF:=(oVal (.tmp 10) (kTwo (ixsA 1) (.tmp 6) (.tmp 8)) (oVal (.tmp 11) (kLoad none (.tmp 10)) (oVal (.tmp 5) (kMove (.tmp 11)) oNil)))
def K35r5:OpsF:=(oVal (.tmp 12) (kMove (.tmp 5)) (oVal (.tmp 13) (kMove (.tmp 3)) (oVal (.tmp 14) (kInt aNeq (.tmp 12) (.tmp 13)) oNil)))
def K35r6:OpsF:=(oVal (.tmp 15) (kMove (.tmp 5)) (oVal (.tmp 2) (kMove (.tmp 15)) oNil))
def K35r7:OpsF:=(oVal (.tmp 16) (kInt aAdd (.tmp 8) (.con (.int .i64 1))) (oVal (.tmp 8) (kMove (.tmp 16)) oNil))
def K35l0:K:=(kSeq (kRegion K35r3 [9]) (kSeq (kCond (.tmp 9) kSkip (kExit 0)) (kSeq (kBlock 1 (kSeq (kRegion K35r4 [5]) (kSeq (kRegion K35r5 [14]) (kCond (.tmp 14) (kSeq (kRegion K35r6 [2]) kRet) kSkip)))) (kRegion K35r7 [8]))))
def K35r8:OpsF:=(oVal (.tmp 17) (kMove (.tmp 3)) (oVal (.tmp 2) (kMove (.tmp 17)) oNil))
theorem res35:Try.f35.results.toList=[.tmp 2]:=by kernel_rfl
def K35:K:=(kSeq (kRegion K35r0 [2]) (kSeq (kRegion K35r1 [3]) (kSeq (kSeq (kRegion K35r2 [6,7,8]) (kBlock 0 (kLoop K35l0))) (kSeq (kRegion K35r8 [2]) kRet))))
theorem enter35 (cl:CallF) (a0:AV) (s:St):enterA Try.prog X cl 35 [a0] s Try.f35=finA Try.prog Try.f35 (K35 cl ⟨35,none,Try.f35.ntmps,X 35⟩ (paramsEnv 0 [a0] .nil) [] s) :=
  enterA_eq (b:=Try.f35.body.getD .skip) (by kernel_rfl) (by kernel_rfl) (by kernel_rfl) (by kernel_rfl) (by kernel_rfl)
def K58r0:OpsF:=(oVal (.tmp 6) (kMove (.con (.int .i64 0))) oNil)
def K58r1:OpsF:=(oVal (.tmp 8) (kMove (.tmp 0)) (oVal (.tmp 9) (kMove (.tmp 1)) (oVal (.tmp 10) (kInt aLss (.tmp 8) (.tmp 9)) (oVal (.tmp 7) (kMove (.tmp 10)) oNil))))
def K58r2:OpsF:=(oVal (.tmp 6) (kMove (.con (.int .i64 7))) oNil)
def K58r3:OpsF:=(oVal (.tmp 12) (kMove (.tmp 0)) (oVal (.tmp 13) (kMove (.tmp 2)) (oVal (.tmp 14) (kGtr (.tmp 12) (.tmp 13)) (oVal (.tmp 11) (kMove (.tmp 14)) oNil))))
def K58r4:OpsF:=(oVal (.tmp 6) (kMove (.con (.int .i64 6))) oNil)
def K58r5:OpsF:=(oVal (.tmp 6) (kMove (.con (.int .i64 0))) oNil)
theorem res58:Try.f58.results.toList=[.tmp 6]:=by kernel_rfl
def K58:K:=(kSeq (kRegion K58r0 [6]) (kSeq (kBlock 0 (kSeq (kRegion K58r1 [7]) (kCond (.tmp 7) (kSeq (kRegion K58r2 [6]) kRet) (kSeq (kRegion K58r3 [11]) (kCond (.tmp 11) (kSeq (kRegion K58r4 [6]) kRet) kSkip))))) (kSeq (kRegion K58r5 [6]) kRet)))
theorem enter58 (cl:CallF) (a0 a1 a2:AV) (s:St):enterA Try.prog X cl 58 [a0,a1,a2] s Try.f58=finA Try.prog Try.f58 (K58 cl ⟨58,none,Try.f58.ntmps,X 58⟩ (paramsEnv 0 [a0,a1,a2] .nil) [] s) :=
  enterA_eq (b:=Try.f58.body.getD .skip) (by kernel_rfl) (by kernel_rfl) (by kernel_rfl) (by kernel_rfl) (by kernel_rfl)
def K43r0:OpsF:=(oVal (.tmp 4) (kMove (.con (.int .i64 0))) oNil)
def K43r1s6:OpsF:=(oVal (.tmp 11) (kPick (.tmp 7) (.con (.bool true)) (.tmp 10)) oNil)
def K43r1s5:OpsF:=(oIf 7 false (oVal (.tmp 10) (kInt aGeq (.tmp 8) (.tmp 9)) K43r1s6) (oSkip (.tmp 10) K43r1s6))
def K43r1s4:OpsF:=(oIf 7 false (oVal (.tmp 9) (kMove (.tmp 1)) K43r1s5) (oSkip (.tmp 9) K43r1s5))
def K43r1:OpsF:=(oVal (.tmp 5) (kMove (.tmp 0)) (oVal (.tmp 6) (kInt aLss (.tmp 5) (.con (.int .i64 0))) (oVal (.tmp 7) (kMove (.tmp 6)) (oIf 7 false (oVal (.tmp 8) (kMove (.tmp 0)) K43r1s4) (oSkip (.tmp 8) K43r1s4)))))
def K43r2:OpsF:=(oVal (.tmp 4) (kMove (.con (.int .i64 3))) oNil)
def K43r3:OpsF:=(oVal (.tmp 4) (kMove (.con (.int .i64 0))) oNil)
theorem res43:Try.f43.results.toList=[.tmp 4]:=by kernel_rfl
def K43:K:=(kSeq (kRegion K43r0 [4]) (kSeq (kSeq (kRegion K43r1 [11]) (kCond (.tmp 11) (kSeq (kRegion K43r2 [4]) kRet) kSkip)) (kSeq (kRegion K43r3 [4]) kRet)))
theorem enter43 (cl:CallF) (a0 a1:AV) (s:St):enterA Try.prog X cl 43 [a0,a1] s Try.f43=finA Try.prog Try.f43 (K43 cl ⟨43,none,Try.f43.ntmps,X 43⟩ (paramsEnv 0 [a0,a1] .nil) [] s) :=
  enterA_eq (b:=Try.f43.body.getD .skip) (by kernel_rfl) (by kernel_rfl) (by kernel_rfl) (by kernel_rfl) (by kernel_rfl)
def K71r0:OpsF:=(oVal (.tmp 3) (kBox (tag 38) (.tmp 0)) (oVal (.tmp 6) (kMove (.con (.int .i64 0))) oNil))
def K71r1:OpsF:=(oEnd [] (oVal (.tmp 8) (kUn (fadA 0) (.tmp 3)) (oVal (.tmp 9) (kLoad none (.tmp 8)) (oVal (.tmp 10) (kMove (.tmp 1)) (oVal (.tmp 11) (kMove (.tmp 2)) (oCallT (some [13]) (.tmp 12) (.con (.func 56 [] [])) [(.tmp 9),(.tmp 10),(.tmp 11)] (oVal (.tmp 13) (kUn (fadA 1) (.tmp 3)) (oVal (.tmp 14) (kLoad none (.tmp 13)) (oVal (.tmp 15) (kMove (.tmp 1)) (oVal (.tmp 16) (kMove (.tmp 2)) (oCall (.tmp 17) (.con (.func 56 [] [])) [(.tmp 14),(.tmp 15),(.tmp 16)] (oVal (.tmp 18) (kBuildSlice [(.int .i64 0),(.int .i64 0)] 2 [(0,1,(.tmp 12)),(1,1,(.tmp 17))]) (oCall (.tmp 19) (.con (.func 35 [] [])) [(.tmp 18)] (oVal (.tmp 7) (kMove (.tmp 19)) oNil))))))))))))))
def K71r2:OpsF:=(oVal (.tmp 20) (kMove (.tmp 7)) (oVal (.tmp 21) (kInt aNeq (.tmp 20) (.con (.int .i64 0))) oNil))
def K71r3:OpsF:=(oVal (.tmp 22) (kMove (.tmp 7)) (oVal (.tmp 6) (kMove (.tmp 22)) oNil))
def K71r4:OpsF:=(oVal (.tmp 23) (kUn (fadA 0) (.tmp 3)) (oVal (.tmp 24) (kLoad none (.tmp 23)) (oVal (.tmp 25) (kUn (fadA 1) (.tmp 3)) (oVal (.tmp 26) (kLoad none (.tmp 25)) (oVal (.tmp 27) (kGtr (.tmp 24) (.tmp 26)) oNil)))))
def K71r5:OpsF:=(oVal (.tmp 6) (kMove (.con (.int .i64 5))) oNil)
def K71r6:OpsF:=(oVal (.tmp 6) (kMove (.con (.int .i64 0))) oNil)
theorem res71:Try.f71.results.toList=[.tmp 6]:=by kernel_rfl
def K71:K:=(kSeq (kRegion K71r0 [3,6]) (kSeq (kSeq (kRegionD K71r1 [7]) (kSeq (kRegion K71r2 [21]) (kCond (.tmp 21) (kSeq (kRegion K71r3 [6]) kRet) kSkip))) (kSeq (kSeq (kRegion K71r4 [27]) (kCond (.tmp 27) (kSeq (kRegion K71r5 [6]) kRet) kSkip)) (kSeq (kRegion K71r6 [6]) kRet))))
theorem enter71 (cl:CallF) (a0 a1 a2:AV) (s:St):enterA Try.prog X cl 71 [a0,a1,a2] s Try.f71=finA Try.prog Try.f71 (K71 cl ⟨71,none,Try.f71.ntmps,X 71⟩ (paramsEnv 0 [a0,a1,a2] .nil) [] s) :=
  enterA_eq (b:=Try.f71.body.getD .skip) (by kernel_rfl) (by kernel_rfl) (by kernel_rfl) (by kernel_rfl) (by kernel_rfl)
def K56r0:OpsF:=(oVal (.tmp 6) (kMove (.con (.int .i64 0))) oNil)
def K56r1s7:OpsF:=(oVal (.tmp 14) (kPick (.tmp 10) (.con (.bool true)) (.tmp 13)) oNil)
def K56r1s6:OpsF:=(oIf 10 false (oVal (.tmp 13) (kGtr (.tmp 11) (.tmp 12)) K56r1s7) (oSkip (.tmp 13) K56r1s7))
def K56r1s5:OpsF:=(oIf 10 false (oVal (.tmp 12) (kMove (.tmp 2)) K56r1s6) (oSkip (.tmp 12) K56r1s6))
def K56r1:OpsF:=(oVal (.tmp 7) (kMove (.tmp 0)) (oVal (.tmp 8) (kMove (.tmp 1)) (oVal (.tmp 9) (kInt aLss (.tmp 7) (.tmp 8)) (oVal (.tmp 10) (kMove (.tmp 9)) (oIf 10 false (oVal (.tmp 11) (kMove (.tmp 0)) K56r1s5) (oSkip (.tmp 11) K56r1s5))))))
def K56r2:OpsF:=(oVal (.tmp 6) (kMove (.con (.int .i64 1))) oNil)
def K56r3:OpsF:=(oVal (.tmp 6) (kMove (.con (.int .i64 0))) oNil)
theorem res56:Try.f56.results.toList=[.tmp 6]:=by kernel_rfl
def K56:K:=(kSeq (kRegion K56r0 [6]) (kSeq (kSeq (kRegion K56r1 [14]) (kCond (.tmp 14) (kSeq (kRegion K56r2 [6]) kRet) kSkip)) (kSeq (kRegion K56r3 [6]) kRet)))
theorem enter56 (cl:CallF) (a0 a1 a2:AV) (s:St):enterA Try.prog X cl 56 [a0,a1,a2] s Try.f56=finA Try.prog Try.f56 (K56 cl ⟨56,none,Try.f56.ntmps,X 56⟩ (paramsEnv 0 [a0,a1,a2] .nil) [] s) :=
  enterA_eq (b:=Try.f56.body.getD .skip) (by kernel_rfl) (by kernel_rfl) (by kernel_rfl) (by kernel_rfl) (by kernel_rfl)
def K36r0:OpsF:=(oVal (.tmp 1) (kBox (tag 27) (.tmp 0)) (oVal (.tmp 2) (kMove (.con (.int .i64 0))) oNil))
def K36r1:OpsF:=(oEnd [] (oVal (.tmp 3) (kUn (fadA 0) (.tmp 1)) (oVal (.tmp 4) (kLoad none (.tmp 3)) (oCallT (some [6,1]) (.tmp 5) (.con (.func 56 [] [])) [(.tmp 4),(.con (.int .i64 1)),(.con (.int .i64 8))] (oVal (.tmp 6) (kUn (fadA 1) (.tmp 1)) (oVal (.tmp 7) (kLoad none (.tmp 6)) (oCallT (some [1]) (.tmp 8) (.con (.func 56 [] [])) [(.tmp 7),(.con (.int .i64 1)),(.con (.int .i64 8))] (oVal (.tmp 9) (kLoad (some 3) (.tmp 1)) (oCall (.tmp 10) (.con (.func 57 [] [])) [(.tmp 9)] (oVal (.tmp 11) (kBuildSlice [(.int .i64 0),(.int .i64 0),(.int .i64 0)] 3 [(0,1,(.tmp 5)),(1,1,(.tmp 8)),(2,1,(.tmp 10))]) (oCall (.tmp 12) (.con (.func 35 [] [])) [(.tmp 11)] (oVal (.tmp 2) (kMove (.tmp 12)) oNil))))))))))))
theorem res36:Try.f36.results.toList=[.tmp 2]:=by kernel_rfl
def K36:K:=(kSeq (kRegion K36r0 [1,2]) (kSeq (kRegionD K36r1 [2]) kRet))
theorem enter36 (cl:CallF) (a0:AV) (s:St):enterA Try.prog X cl 36 [a0] s Try.f36=finA Try.prog Try.f36 (K36 cl ⟨36,none,Try.f36.ntmps,X 36⟩ (paramsEnv 0 [a0] .nil) [] s) :=
  enterA_eq (b:=Try.f36.body.getD .skip) (by kernel_rfl) (by kernel_rfl) (by kernel_rfl) (by kernel_rfl) (by kernel_rfl)
def K57r0:OpsF:=(oVal (.tmp 1) (kBox (tag 27) (.tmp 0)) (oVal (.tmp 2) (kMove (.con (.int .i64 0))) oNil))
def K57r1:OpsF:=(oVal (.tmp 7) (kUn (fadA 2) (.tmp 1)) (oVal (.tmp 8) (kLoad none (.tmp 7)) (oVal (.tmp 9) (kUn lenSlA (.tmp 8)) (oCall (.tmp 10) (.con (.func 58 [] [])) [(.tmp 9),(.con (.int .i64 0)),(.con (.int .i64 40))] (oVal (.tmp 3) (kMove (.tmp 10)) oNil)))))
def K57r2:OpsF:=(oVal (.tmp 11) (kMove (.tmp 3)) (oVal (.tmp 12) (kInt aNeq (.tmp 11) (.con (.int .i64 0))) oNil))
def K57r3:OpsF:=(oVal (.tmp 13) (kMove (.tmp 3)) (oVal (.tmp 2) (kMove (.tmp 13)) oNil))
def K57r4:OpsF:=(oVal (.tmp 14) (kUn (fadA 2) (.tmp 1)) (oVal (.tmp 15) (kLoad none (.tmp 14)) (oVal (.tmp 16) (kUn lenSlA (.tmp 15)) (oVal (.tmp 17) (kMove (.con (.int .i64 0))) oNil))))
def K57r5:OpsF:=(oVal (.tmp 18) (kInt aLss (.tmp 17) (.tmp 16)) oNil)
def K57r6:OpsF:=(oVal (.tmp 19) (kTwo (ixsA 6) (.tmp 15) (.tmp 17)) (oVal (.tmp 20) (kLoad (some 6) (.tmp 19)) (oVal (.tmp 5) (kAlloc [(.int .i64 0),(.int .i64 0),(.int .i64 0),(.int .i64 0),(.int .i64 0),(.int .i64 0)] (tag 51)) (oVal .none (kStore 6 (.tmp 5) (.tmp 20)) oNil))))
def K57r7:OpsF:=(oEnd [] (oVal (.tmp 21) (kUn (fadA 0) (.tmp 5)) (oVal (.tmp 22) (kLoad none (.tmp 21)) (oVal (.tmp 23) (kUn (fadA 0) (.tmp 1)) (oVal (.tmp 24) (kLoad none (.tmp 23)) (oCallT (some [26,28,31,34]) (.tmp 25) (.con (.func 43 [] [])) [(.tmp 22),(.tmp 24)] (oVal (.tmp 26) (kUn (fadA 1) (.tmp 5)) (oVal (.tmp 27) (kLoad none (.tmp 26)) (oVal (.tmp 28) (kUn (fadA 1) (.tmp 1)) (oVal (.tmp 29) (kLoad none (.tmp 28)) (oCallT (some [31,34]) (.tmp 30) (.con (.func 43 [] [])) [(.tmp 27),(.tmp 29)] (oVal (.tmp 31) (kUn (fadA 2) (.tmp 5)) (oVal (.tmp 32) (kLoad (some 2) (.tmp 31)) (oCallT (some [34]) (.tmp 33) (.con (.func 71 [] [])) [(.tmp 32),(.con (.int .i64 0)),(.con (.int .i64 100000))] (oVal (.tmp 34) (kUn (fadA 4) (.tmp 5)) (oVal (.tmp 35) (kLoad (some 2) (.tmp 34)) (oCall (.tmp 36) (.con (.func 71 [] [])) [(.tmp 35),(.con (.int .i64 0)),(.con (.int .i64 100000))] (oVal (.tmp 37) (kBuildSlice [(.int .i64 0),(.int .i64 0),(.int .i64 0),(.int .i64 0)] 4 [(0,1,(.tmp 25)),(1,1,(.tmp 30)),(2,1,(.tmp 33)),(3,1,(.tmp 36))]) (oCall (.tmp 38) (.con (.func 35 [] [])) [(.tmp 37)] (oVal (.tmp 6) (kMove (.tmp 38)) oNil))))))))))))))))))))
def K57r8:OpsF:=(oVal (.tmp 39) (kMove (.tmp 6)) (oVal (.tmp 40) (kInt aNeq (.tmp 39) (.con (.int .i64 0))) oNil))
def K57r9:OpsF:=(oVal (.tmp 41) (kMove (.tmp 6)) (oVal (.tmp 2) (kMove (.tmp 41)) oNil))
def K57r10:OpsF:=(oVal (.tmp 42) (kInt aAdd (.tmp 17) (.con (.int .i64 1))) (oVal (.tmp 17) (kMove (.tmp 42)) oNil))
def K57l0:K:=(kSeq (kRegion K57r5 [18]) (kSeq (kCond (.tmp 18) kSkip (kExit 0)) (kSeq (kBlock 1 (kSeq (kRegion K57r6 [5]) (kSeq (kRegionD K57r7 [6]) (kSeq (kRegion K57r8 [40]) (kCond (.tmp 40) (kSeq (kRegion K57r9 [2]) kRet) kSkip))))) (kRegion K57r10 [17]))))
def K57r11:OpsF:=(oVal (.tmp 2) (kMove (.con (.int .i64 0))) oNil)
theorem res57:Try.f57.results.toList=[.tmp 2]:=by kernel_rfl
def K57:K:=(kSeq (kRegion K57r0 [1,2]) (kSeq (kSeq (kRegion K57r1 [3]) (kSeq (kRegion K57r2 [12]) (kCond (.tmp 12) (kSeq (kRegion K57r3 [2]) kRet) kSkip))) (kSeq (kSeq (kRegion K57r4 [15,16,17]) (kBlock 0 (kLoop K57l0))) (kSeq (kRegion K57r11 [2]) kRet))))
theorem enter57 (cl:CallF) (a0:AV) (s:St):enterA Try.prog X cl 57 [a0] s Try.f57=finA Try.prog Try.f57 (K57 cl ⟨57,none,Try.f57.ntmps,X 57⟩ (paramsEnv 0 [a0] .nil) [] s) :=
  enterA_eq (b:=Try.f57.body.getD .skip) (by kernel_rfl) (by kernel_rfl) (by kernel_rfl) (by kernel_rfl) (by kernel_rfl)
end
end Go.Proofs.Ytamlnddeiokbdaa.code
set_option maxRecDepth 100000
namespace Go.Proofs.Ytamlnddeiokbdaa.code
open Go.Abs
noncomputable section
def K38r0:OpsF:=(oVal (.tmp 2) (kAlloc [(.int .i64 0),(.int .i64 0)] (tag 38)) oNil)
def K38r1:OpsF:=(oVal (.tmp 3) (kMove (.con (.func 60 [] []))) oNil)
def K38r2:OpsF:=(oVal (.tmp 4) (kMove (.con (.func 61 [] []))) oNil)
def K38r3:OpsF:=(oVal (.tmp 5) (kMove (.tmp 0)) (oVal (.tmp 6) (kMove (.tmp 3)) (oVal (.tmp 7) (kMove (.tmp 4)) (oVal (.tmp 8) (kBuild [.nilfunc,.nilfunc] [(0,1,(.tmp 6)),(1,1,(.tmp 7))]) (oCall (.tmp 9) (.tmp 5) [(.tmp 8)] (oVal (.tmp 10) (kMove (.tmp 0)) (oVal (.tmp 11) (kMove (.tmp 4)) (oVal (.tmp 12) (kMove (.tmp 3)) (oVal (.tmp 13) (kBuild [.nilfunc,.nilfunc] [(0,1,(.tmp 11)),(1,1,(.tmp 12))]) (oCall (.tmp 14) (.tmp 10) [(.tmp 13)] (oVal (.tmp 15) (kBuild [(.int .i64 0),(.int .i64 0)] [(0,1,(.tmp 9)),(1,1,(.tmp 14))]) (oVal .none (kStore 2 (.tmp 2) (.tmp 15)) oNil))))))))))))
theorem res38:Try.f38.results.toList=[.cell 2 38]:=by kernel_rfl
def K38:K:=(kSeq (kRegion K38r0 [2]) (kSeq (kRegion K38r1 [3]) (kSeq (kRegion K38r2 [4]) (kSeq (kRegion K38r3 []) kRet))))
theorem enter38 (cl:CallF) (a0:AV) (s:St):enterA Try.prog X cl 38 [a0] s Try.f38=finA Try.prog Try.f38 (K38 cl ⟨38,none,Try.f38.ntmps,X 38⟩ (paramsEnv 0 [a0] .nil) [] s) :=
  enterA_eq (b:=Try.f38.body.getD .skip) (by kernel_rfl) (by kernel_rfl) (by kernel_rfl) (by kernel_rfl) (by kernel_rfl)
def K60r0:OpsF:=(oVal (.tmp 1) (kBox (tag 38) (.tmp 0)) (oVal (.tmp 2) (kMove (.con (.int .i64 0))) oNil))
def K60r1:OpsF:=(oVal (.tmp 3) (kUn (fadA 0) (.tmp 1)) (oVal (.tmp 4) (kLoad none (.tmp 3)) (oVal (.tmp 2) (kMove (.tmp 4)) oNil)))
theorem res60:Try.f60.results.toList=[.tmp 2]:=by kernel_rfl
def K60:K:=(kSeq (kRegion K60r0 [1,2]) (kSeq (kRegion K60r1 [2]) kRet))
theorem enter60 (cl:CallF) (a0:AV) (s:St):enterA Try.prog X cl 60 [a0] s Try.f60=finA Try.prog Try.f60 (K60 cl ⟨60,none,Try.f60.ntmps,X 60⟩ (paramsEnv 0 [a0] .nil) [] s) :=
  enterA_eq (b:=Try.f60.body.getD .skip) (by kernel_rfl) (by kernel_rfl) (by kernel_rfl) (by kernel_rfl) (by kernel_rfl)
def K61r0:OpsF:=(oVal (.tmp 1) (kBox (tag 38) (.tmp 0)) (oVal (.tmp 2) (kMove (.con (.int .i64 0))) oNil))
def K61r1:OpsF:=(oVal (.tmp 3) (kUn (fadA 1) (.tmp 1)) (oVal (.tmp 4) (kLoad none (.tmp 3)) (oVal (.tmp 2) (kMove (.tmp 4)) oNil)))
theorem res61:Try.f61.results.toList=[.tmp 2]:=by kernel_rfl
def K61:K:=(kSeq (kRegion K61r0 [1,2]) (kSeq (kRegion K61r1 [2]) kRet))
theorem enter61 (cl:CallF) (a0:AV) (s:St):enterA Try.prog X cl 61 [a0] s Try.f61=finA Try.prog Try.f61 (K61 cl ⟨61,none,Try.f61.ntmps,X 61⟩ (paramsEnv 0 [a0] .nil) [] s) :=
  enterA_eq (b:=Try.f61.body.getD .skip) (by kernel_rfl) (by kernel_rfl) (by kernel_rfl) (by kernel_rfl) (by kernel_rfl)
def K62r0:OpsF:=(oVal (.tmp 2) (kBox (tag 82) (.tmp 0)) (oVal (.tmp 3) (kBox (tag 51) (.tmp 1)) (oVal (.tmp 4) (kAlloc [(.int .i64 0),(.int .i64 0)] (tag 103)) oNil)))
def K62r1:OpsF:=(oEnd [] (oVal (.tmp 5) (kUn (fadA 0) (.tmp 2)) (oVal (.tmp 6) (kLoad none (.tmp 5)) (oVal (.tmp 7) (kUn (fadA 2) (.tmp 3)) (oVal (.tmp 8) (kLoad (some 2) (.tmp 7)) (oCallT (some [10,12]) (.tmp 9) (.tmp 6) [(.tmp 8)] (oVal (.tmp 10) (kUn (fadA 0) (.tmp 2)) (oVal (.tmp 11) (kLoad none (.tmp 10)) (oVal (.tmp 12) (kUn (fadA 4) (.tmp 3)) (oVal (.tmp 13) (kLoad (some 2) (.tmp 12)) (oCall (.tmp 14) (.tmp 11) [(.tmp 13)] (oVal (.tmp 15) (kBuild [(.int .i64 0),(.int .i64 0)] [(0,1,(.tmp 9)),(1,1,(.tmp 14))]) (oVal .none (kStore 2 (.tmp 4) (.tmp 15)) oNil)))))))))))))
theorem res62:Try.f62.results.toList=[.cell 4 103]:=by kernel_rfl
def K62:K:=(kSeq (kRegion K62r0 [2,3,4]) (kSeq (kRegionD K62r1 []) kRet))
theorem enter62 (cl:CallF) (a0 a1:AV) (s:St):enterA Try.prog X cl 62 [a0,a1] s Try.f62=finA Try.prog Try.f62 (K62 cl ⟨62,none,Try.f62.ntmps,X 62⟩ (paramsEnv 0 [a0,a1] .nil) [] s) :=
  enterA_eq (b:=Try.f62.body.getD .skip) (by kernel_rfl) (by kernel_rfl) (by kernel_rfl) (by kernel_rfl) (by kernel_rfl)
end
end Go.Proofs.Ytamlnddeiokbdaa.code
set_option maxRecDepth 100000
namespace Go.Proofs.Ytamlnddeiokbdaa.code
open Go.Abs
noncomputable section
def K72r0:OpsF:=(oVal (.tmp 4) (kMove (.con (.int .i64 0))) oNil)
def K72r1:OpsF:=(oVal (.tmp 5) (kMove (.tmp 0)) oNil)
def K72r2:OpsF:=(oVal (.tmp 4) (kMove (.con (.int .i64 0))) oNil)
def K72r3:OpsF:=(oVal (.tmp 6) (kMove (.tmp 1)) (oVal (.tmp 4) (kMove (.tmp 6)) oNil))
theorem res72:Try.f72.results.toList=[.tmp 4]:=by kernel_rfl
def K72:K:=(kSeq (kRegion K72r0 [4]) (kSeq (kSeq (kRegion K72r1 [5]) (kCond (.tmp 5) (kSeq (kRegion K72r2 [4]) kRet) kSkip)) (kSeq (kRegion K72r3 [4]) kRet)))
theorem enter72 (cl:CallF) (a0 a1:AV) (s:St):enterA Try.prog X cl 72 [a0,a1] s Try.f72=finA Try.prog Try.f72 (K72 cl ⟨72,none,Try.f72.ntmps,X 72⟩ (paramsEnv 0 [a0,a1] .nil) [] s) :=
  enterA_eq (b:=Try.f72.body.getD .skip) (by kernel_rfl) (by kernel_rfl) (by kernel_rfl) (by kernel_rfl) (by kernel_rfl)
end
end Go.Proofs.Ytamlnddeiokbdaa.code
set_option maxRecDepth 100000
namespace Go.Proofs.Ytamlnddeiokbdaa.code
open Go.Abs
noncomputable section
def K30r0:OpsF:=(oVal (.tmp 2) (kMove (.con (.int .u64 0))) oNil)
def K30r1:OpsF:=(oVal (.tmp 4) (kMove (.tmp 0)) (oVal (.tmp 5) (kMove (.tmp 0)) (oVal (.tmp 6) (kUn nilA (.tmp 5)) (oVal (.tmp 7) (kUn (fadA 0) (.tmp 6)) (oVal (.tmp 8) (kLoad none (.tmp 7)) (oVal (.tmp 9) (kInt aAdd (.tmp 8) (.con (.int .u64 11562461410679940143))) (oVal (.tmp 10) (kUn nilA (.tmp 4)) (oVal (.tmp 11) (kUn (fadA 0) (.tmp 10)) (oVal .none (kStore 1 (.tmp 11) (.tmp 9)) oNil)))))))))
def K30r2:OpsF:=(oVal (.tmp 12) (kMove (.tmp 0)) (oVal (.tmp 13) (kUn nilA (.tmp 12)) (oVal (.tmp 14) (kUn (fadA 0) (.tmp 13)) (oVal (.tmp 15) (kLoad none (.tmp 14)) (oVal (.tmp 3) (kMove (.tmp 15)) oNil)))))
def K30r3:OpsF:=(oVal (.tmp 16) (kMove (.tmp 3)) (oVal (.tmp 17) (kMove (.tmp 3)) (oVal (.tmp 18) (kShr (.tmp 17) (.con (.int .u64 30))) (oVal (.tmp 19) (kInt aXor (.tmp 16) (.tmp 18)) (oVal (.tmp 20) (kInt aMul (.tmp 19) (.con (.int .u64 13787848793156543929))) (oVal (.tmp 3) (kMove (.tmp 20)) oNil))))))
def K30r4:OpsF:=(oVal (.tmp 21) (kMove (.tmp 3)) (oVal (.tmp 22) (kMove (.tmp 3)) (oVal (.tmp 23) (kShr (.tmp 22) (.con (.int .u64 27))) (oVal (.tmp 24) (kInt aXor (.tmp 21) (.tmp 23)) (oVal (.tmp 25) (kInt aMul (.tmp 24) (.con (.int .u64 10723151780598845931))) (oVal (.tmp 3) (kMove (.tmp 25)) oNil))))))
def K30r5:OpsF:=(oVal (.tmp 26) (kMove (.tmp 3)) (oVal (.tmp 27) (kMove (.tmp 3)) (oVal (.tmp 28) (kShr (.tmp 27) (.con (.int .u64 31))) (oVal (.tmp 29) (kInt aXor (.tmp 26) (.tmp 28)) (oVal (.tmp 2) (kMove (.tmp 29)) oNil)))))
theorem res30:Try.f30.results.toList=[.tmp 2]:=by kernel_rfl
def K30:K:=(kSeq (kRegion K30r0 [2]) (kSeq (kRegion K30r1 []) (kSeq (kRegion K30r2 [3]) (kSeq (kRegion K30r3 [3]) (kSeq (kRegion K30r4 [3]) (kSeq (kRegion K30r5 [2]) kRet))))))
theorem enter30 (cl:CallF) (a0:AV) (s:St):enterA Try.prog X cl 30 [a0] s Try.f30=finA Try.prog Try.f30 (K30 cl ⟨30,none,Try.f30.ntmps,X 30⟩ (paramsEnv 0 [a0] .nil) [] s) :=
  enterA_eq (b:=Try.f30.body.getD .skip) (by kernel_rfl) (by kernel_rfl) (by kernel_rfl) (by kernel_rfl) (by kernel_rfl)
def K33r0:OpsF:=(oVal (.tmp 4) (kMove (.con (.int .i64 0))) oNil)
def K33r1:OpsF:=(oVal (.tmp 5) (kMove (.tmp 1)) (oVal (.tmp 6) (kInt aLss (.tmp 5) (.con (.int .i64 2))) oNil))
def K33r2:OpsF:=(oVal (.tmp 4) (kMove (.con (.int .i64 0))) oNil)
def K33r3:OpsF:=(oVal (.tmp 7) (kMove (.tmp 0)) (oCall (.tmp 8) (.con (.func 30 [] [])) [(.tmp 7)] (oVal (.tmp 9) (kShr (.tmp 8) (.con (.int .u64 2))) (oVal (.tmp 10) (kMove (.tmp 1)) (oVal (.tmp 11) (kUn (cviA .u64) (.tmp 10)) (oVal (.tmp 12) (kInt aRem (.tmp 9) (.tmp 11)) (oVal (.tmp 13) (kUn (cviA .i64) (.tmp 12)) (oVal (.tmp 4) (kMove (.tmp 13)) oNil))))))))
theorem res33:Try.f33.results.toList=[.tmp 4]:=by kernel_rfl
def K33:K:=(kSeq (kRegion K33r0 [4]) (kSeq (kSeq (kRegion K33r1 [6]) (kCond (.tmp 6) (kSeq (kRegion K33r2 [4]) kRet) kSkip)) (kSeq (kRegion K33r3 [4]) kRet)))
theorem enter33 (cl:CallF) (a0 a1:AV) (s:St):enterA Try.prog X cl 33 [a0,a1] s Try.f33=finA Try.prog Try.f33 (K33 cl ⟨33,none,Try.f33.ntmps,X 33⟩ (paramsEnv 0 [a0,a1] .nil) [] s) :=
  enterA_eq (b:=Try.f33.body.getD .skip) (by kernel_rfl) (by kernel_rfl) (by kernel_rfl) (by kernel_rfl) (by kernel_rfl)
def K31r0:OpsF:=(oVal (.tmp 6) (kMove (.con (.int .i64 0))) oNil)
def K31r1:OpsF:=(oVal (.tmp 7) (kMove (.tmp 1)) (oVal (.tmp 8) (kMove (.tmp 0)) (oVal (.tmp 9) (kMove (.tmp 2)) (oVal (.tmp 10) (kMove (.tmp 1)) (oVal (.tmp 11) (kInt aSub (.tmp 9) (.tmp 10)) (oVal (.tmp 12) (kInt aAdd (.tmp 11) (.con (.int .i64 1))) (oCall (.tmp 13) (.con (.func 33 [] [])) [(.tmp 8),(.tmp 12)] (oVal (.tmp 14) (kInt aAdd (.tmp 7) (.tmp 13)) (oVal (.tmp 6) (kMove (.tmp 14)) oNil)))))))))
theorem res31:Try.f31.results.toList=[.tmp 6]:=by kernel_rfl
def K31:K:=(kSeq (kRegion K31r0 [6]) (kSeq (kRegion K31r1 [6]) kRet))
theorem enter31 (cl:CallF) (a0 a1 a2:AV) (s:St):enterA Try.prog X cl 31 [a0,a1,a2] s Try.f31=finA Try.prog Try.f31 (K31 cl ⟨31,none,Try.f31.ntmps,X 31⟩ (paramsEnv 0 [a0,a1,a2] .nil) [] s) :=
  enterA_eq (b:=Try.f31.body.getD .skip) (by kernel_rfl) (by kernel_rfl) (by kernel_rfl) (by kernel_rfl) (by kernel_rfl)
def K32r0:OpsF:=(oVal (.tmp 4) (kMove (.con (.int .i64 0))) oNil)
def K32r1:OpsF:=(oVal (.tmp 5) (kMove (.tmp 1)) (oVal (.tmp 6) (kUn lenSlA (.tmp 5)) (oVal (.tmp 7) (kInt aEql (.tmp 6) (.con (.int .i64 0))) oNil)))
def K32r2:OpsF:=(oVal (.tmp 4) (kMove (.con (.int .i64 0))) oNil)
def K32r3:OpsF:=(oVal (.tmp 8) (kMove (.tmp 1)) (oVal (.tmp 9) (kMove (.tmp 0)) (oVal (.tmp 10) (kMove (.tmp 1)) (oVal (.tmp 11) (kUn lenSlA (.tmp 10)) (oCall (.tmp 12) (.con (.func 33 [] [])) [(.tmp 9),(.tmp 11)] (oVal (.tmp 13) (kTwo (ixsA 1) (.tmp 8) (.tmp 12)) (oVal (.tmp 14) (kLoad none (.tmp 13)) (oVal (.tmp 4) (kMove (.tmp 14)) oNil))))))))
theorem res32:Try.f32.results.toList=[.tmp 4]:=by kernel_rfl
def K32:K:=(kSeq (kRegion K32r0 [4]) (kSeq (kSeq (kRegion K32r1 [7]) (kCond (.tmp 7) (kSeq (kRegion K32r2 [4]) kRet) kSkip)) (kSeq (kRegion K32r3 [4]) kRet)))
theorem enter32 (cl:CallF) (a0 a1:AV) (s:St):enterA Try.prog X cl 32 [a0,a1] s Try.f32=finA Try.prog Try.f32 (K32 cl ⟨32,none,Try.f32.ntmps,X 32⟩ (paramsEnv 0 [a0,a1] .nil) [] s) :=
  enterA_eq (b:=Try.f32.body.getD .skip) (by kernel_rfl) (by kernel_rfl) (by kernel_rfl) (by kernel_rfl) (by kernel_rfl)
def K34r0:OpsF:=(oVal (.tmp 6) (kAlloc [(.int .i64 0),(.int .i64 0)] (tag 38)) oNil)
def K34r1:OpsF:=(oVal (.tmp 9) (kMove (.tmp 0)) (oVal (.tmp 10) (kMove (.tmp 1)) (oVal (.tmp 11) (kMove (.tmp 2)) (oCall (.tmp 12) (.con (.func 31 [] [])) [(.tmp 9),(.tmp 10),(.tmp 11)] (oVal (.tmp 7) (kMove (.tmp 12)) oNil)))))
def K34r2:OpsF:=(oVal (.tmp 13) (kMove (.tmp 0)) (oVal (.tmp 14) (kMove (.tmp 7)) (oVal (.tmp 15) (kMove (.tmp 2)) (oVal (.tmp 16) (kMove (.tmp 7)) (oVal (.tmp 17) (kInt aAdd (.tmp 16) (.con (.int .i64 4))) (oVal (.tmp 18) (kFold minA (.tmp 15) [(.tmp 17)]) (oVal (.tmp 19) (kMove (.tmp 2)) (oVal (.tmp 20) (kBuildSlice [(.int .i64 0),(.int .i64 0),(.int .i64 0)] 3 [(0,1,(.tmp 14)),(1,1,(.tmp 18)),(2,1,(.tmp 19))]) (oCall (.tmp 21) (.con (.func 32 [] [])) [(.tmp 13),(.tmp 20)] (oVal (.tmp 8) (kMove (.tmp 21)) oNil))))))))))
def K34r3:OpsF:=(oVal (.tmp 22) (kMove (.tmp 7)) (oVal (.tmp 23) (kMove (.tmp 0)) (oVal (.tmp 24) (kMove (.tmp 7)) (oVal (.tmp 25) (kMove (.tmp 8)) (oCall (.tmp 26) (.con (.func 31 [] [])) [(.tmp 23),(.tmp 24),(.tmp 25)] (oVal (.tmp 27) (kBuild [(.int .i64 0),(.int .i64 0)] [(0,1,(.tmp 22)),(1,1,(.tmp 26))]) (oVal .none (kStore 2 (.tmp 6) (.tmp 27)) oNil)))))))
theorem res34:Try.f34.results.toList=[.cell 6 38]:=by kernel_rfl
def K34:K:=(kSeq (kRegion K34r0 [6]) (kSeq (kRegion K34r1 [7]) (kSeq (kRegion K34r2 [8]) (kSeq (kRegion K34r3 []) kRet))))
theorem enter34 (cl:CallF) (a0 a1 a2:AV) (s:St):enterA Try.prog X cl 34 [a0,a1,a2] s Try.f34=finA Try.prog Try.f34 (K34 cl ⟨34,none,Try.f34.ntmps,X 34⟩ (paramsEnv 0 [a0,a1,a2] .nil) [] s) :=
  enterA_eq (b:=Try.f34.body.getD .skip) (by kernel_rfl) (by kernel_rfl) (by kernel_rfl) (by kernel_rfl) (by kernel_rfl)
def K42r0:OpsF:=(oVal (.tmp 3) (kBox (tag 38) (.tmp 1)) (oVal (.tmp 4) (kMove (.con (.int .i64 0))) oNil))
def K42r1:OpsF:=(oEnd [] (oVal (.tmp 5) (kMove (.tmp 0)) (oVal (.tmp 6) (kUn (fadA 0) (.tmp 3)) (oVal (.tmp 7) (kLoad none (.tmp 6)) (oVal (.tmp 8) (kUn (fadA 1) (.tmp 3)) (oVal (.tmp 9) (kLoad none (.tmp 8)) (oVal (.tmp 10) (kMove (.tmp 0)) (oVal (.tmp 11) (kUn (fadA 0) (.tmp 3)) (oVal (.tmp 12) (kLoad none (.tmp 11)) (oVal (.tmp 13) (kUn (fadA 1) (.tmp 3)) (oVal (.tmp 14) (kLoad none (.tmp 13)) (oCallT (some [6,8,17,19]) (.tmp 15) (.con (.func 31 [] [])) [(.tmp 10),(.tmp 12),(.tmp 14)] (oVal (.tmp 16) (kMove (.tmp 0)) (oVal (.tmp 17) (kUn (fadA 0) (.tmp 3)) (oVal (.tmp 18) (kLoad none (.tmp 17)) (oVal (.tmp 19) (kUn (fadA 1) (.tmp 3)) (oVal (.tmp 20) (kLoad none (.tmp 19)) (oCallT (some [6,8]) (.tmp 21) (.con (.func 31 [] [])) [(.tmp 16),(.tmp 18),(.tmp 20)] (oVal (.tmp 22) (kBuildSlice [(.int .i64 0),(.int .i64 0),(.int .i64 0),(.int .i64 0)] 4 [(0,1,(.tmp 7)),(1,1,(.tmp 9)),(2,1,(.tmp 15)),(3,1,(.tmp 21))]) (oCall (.tmp 23) (.con (.func 32 [] [])) [(.tmp 5),(.tmp 22)] (oVal (.tmp 4) (kMove (.tmp 23)) oNil)))))))))))))))))))))
theorem res42:Try.f42.results.toList=[.tmp 4]:=by kernel_rfl
def K42:K:=(kSeq (kRegion K42r0 [3,4]) (kSeq (kRegionD K42r1 [4]) kRet))
theorem enter42 (cl:CallF) (a0 a1:AV) (s:St):enterA Try.prog X cl 42 [a0,a1] s Try.f42=finA Try.prog Try.f42 (K42 cl ⟨42,none,Try.f42.ntmps,X 42⟩ (paramsEnv 0 [a0,a1] .nil) [] s) :=
  enterA_eq (b:=Try.f42.body.getD .skip) (by kernel_rfl) (by kernel_rfl) (by kernel_rfl) (by kernel_rfl) (by kernel_rfl)
end
end Go.Proofs.Ytamlnddeiokbdaa.code
set_option maxRecDepth 100000
namespace Go.Proofs.Ytamlnddeiokbdaa.code
open Go.Abs
noncomputable section
def K10r0:OpsF:=(oVal (.tmp 8) (kAlloc [(.int .i64 0),(.int .i64 0),.nilslice] (tag 27)) oNil)
def K10r1:OpsF:=(oVal (.tmp 13) (kMove (.tmp 0)) (oVal (.tmp 14) (kMove (.tmp 1)) (oCall (.tmp 15) (.con (.func 31 [] [])) [(.tmp 13),(.con (.int .i64 1)),(.tmp 14)] (oVal (.tmp 16) (kMove (.tmp 0)) (oVal (.tmp 17) (kMove (.tmp 2)) (oCall (.tmp 18) (.con (.func 31 [] [])) [(.tmp 16),(.con (.int .i64 1)),(.tmp 17)] (oVal (.tmp 19) (kBuild [(.int .i64 0),(.int .i64 0),.nilslice] [(0,1,(.tmp 15)),(1,1,(.tmp 18))]) (oVal (.tmp 9) (kAlloc [(.int .i64 0),(.int .i64 0),.nilslice] (tag 27)) (oVal .none (kStore 3 (.tmp 9) (.tmp 19)) oNil)))))))))
def K10r2:OpsF:=(oVal (.tmp 20) (kMove (.tmp 0)) (oVal (.tmp 21) (kBuildSlice [(.int .i64 0),(.int .i64 0),(.int .i64 0)] 3 [(0,1,(.con (.int .i64 6))),(1,1,(.con (.int .i64 100))),(2,1,(.con (.int .i64 5000)))]) (oCall (.tmp 22) (.con (.func 32 [] [])) [(.tmp 20),(.tmp 21)] (oVal (.tmp 23) (kMove (.tmp 0)) (oVal (.tmp 24) (kBuildSlice [(.int .i64 0),(.int .i64 0),(.int .i64 0)] 3 [(0,1,(.con (.int .i64 6))),(1,1,(.con (.int .i64 30))),(2,1,(.con (.int .i64 2000)))]) (oCall (.tmp 25) (.con (.func 32 [] [])) [(.tmp 23),(.tmp 24)] (oVal (.tmp 10) (kMove (.tmp 22)) (oVal (.tmp 11) (kMove (.tmp 25)) oNil))))))))
def K10r3:OpsF:=(oVal (.tmp 26) (kMove (.tmp 0)) (oVal (.tmp 27) (kMove (.tmp 3)) (oVal (.tmp 28) (kInt aAdd (.tmp 27) (.con (.int .i64 1))) (oCall (.tmp 29) (.con (.func 33 [] [])) [(.tmp 26),(.tmp 28)] (oVal (.tmp 12) (kMove (.tmp 29)) oNil)))))
def K10r4:OpsF:=(oVal (.tmp 30) (kMove (.tmp 12)) (oVal (.tmp 31) (kGtr (.tmp 30) (.con (.int .i64 0))) oNil))
def K10r5:OpsF:=(oEnd [] (oVal (.tmp 34) (kUn (fadA 2) (.tmp 9)) (oVal (.tmp 35) (kLoad none (.tmp 34)) (oVal (.tmp 36) (kMove (.tmp 0)) (oVal (.tmp 37) (kUn (fadA 0) (.tmp 9)) (oVal (.tmp 38) (kLoad none (.tmp 37)) (oCallT (some [34,41]) (.tmp 39) (.con (.func 33 [] [])) [(.tmp 36),(.tmp 38)] (oVal (.tmp 40) (kMove (.tmp 0)) (oVal (.tmp 41) (kUn (fadA 1) (.tmp 9)) (oVal (.tmp 42) (kLoad none (.tmp 41)) (oCallT (some [34]) (.tmp 43) (.con (.func 33 [] [])) [(.tmp 40),(.tmp 42)] (oVal (.tmp 44) (kMove (.tmp 0)) (oVal (.tmp 45) (kMove (.tmp 10)) (oCallT (some [34]) (.tmp 46) (.con (.func 34 [] [])) [(.tmp 44),(.con (.int .i64 0)),(.tmp 45)] (oVal (.tmp 47) (kMove (.tmp 0)) (oVal (.tmp 48) (kMove (.tmp 11)) (oCallT (some [34]) (.tmp 49) (.con (.func 34 [] [])) [(.tmp 47),(.con (.int .i64 0)),(.tmp 48)] (oVal (.tmp 50) (kBuild [(.int .i64 0),(.int .i64 0),(.int .i64 0),(.int .i64 0),(.int .i64 0),(.int .i64 0)] [(0,1,(.tmp 39)),(1,1,(.tmp 43)),(2,2,(.tmp 46)),(4,2,(.tmp 49))]) (oVal (.tmp 51) (kBuildSlice [(.int .i64 0),(.int .i64 0),(.int .i64 0),(.int .i64 0),(.int .i64 0),(.int .i64 0)] 1 [(0,6,(.tmp 50))]) (oVal (.tmp 52) (kTwo (appendA false 6 48 (tag 51)) (.tmp 35) (.tmp 51)) (oVal (.tmp 53) (kUn (fadA 2) (.tmp 9)) (oVal .none (kStore 1 (.tmp 53) (.tmp 52)) oNil))))))))))))))))))))))
def K10r6:OpsF:=(oVal (.tmp 32) (kMove (.tmp 12)) (oVal (.tmp 33) (kInt aSub (.tmp 32) (.con (.int .i64 1))) (oVal (.tmp 12) (kMove (.tmp 33)) oNil)))
def K10l0:K:=(kSeq (kSeq (kRegion K10r4 [31]) (kCond (.tmp 31) kSkip (kExit 0))) (kSeq (kBlock 1 (kRegionD K10r5 [])) (kRegion K10r6 [12])))
def K10r7:OpsF:=(oVal (.tmp 54) (kLoad (some 3) (.tmp 9)) (oVal .none (kStore 3 (.tmp 8) (.tmp 54)) oNil))
theorem res10:Try.f10.results.toList=[.cell 8 27]:=by kernel_rfl
def K10:K:=(kSeq (kRegion K10r0 [8]) (kSeq (kRegion K10r1 [9]) (kSeq (kRegion K10r2 [10,11]) (kSeq (kSeq (kRegion K10r3 [12]) (kBlock 0 (kLoop K10l0))) (kSeq (kRegion K10r7 []) kRet)))))
theorem enter10 (cl:CallF) (a0 a1 a2 a3:AV) (s:St):enterA Try.prog X cl 10 [a0,a1,a2,a3] s Try.f10=finA Try.prog Try.f10 (K10 cl ⟨10,none,Try.f10.ntmps,X 10⟩ (paramsEnv 0 [a0,a1,a2,a3] .nil) [] s) :=
  enterA_eq (b:=Try.f10.body.getD .skip) (by kernel_rfl) (by kernel_rfl) (by kernel_rfl) (by kernel_rfl) (by kernel_rfl)
end
end Go.Proofs.Ytamlnddeiokbdaa.code
set_option maxRecDepth 100000
namespace Go.Proofs.Ytamlnddeiokbdaa.code
open Go.Abs
noncomputable section
def K14r0:OpsF:=(oVal (.tmp 2) (kBox (tag 27) (.tmp 0)) (oVal (.tmp 4) (kMove (.con (.int .i64 0))) (oVal (.tmp 5) (kAlloc [(.int .i64 0),(.int .i64 0)] (tag 38)) (oVal (.tmp 6) (kMove (.con (.int .i64 0))) oNil))))
def K14r1:OpsF:=(oEnd [] (oVal (.tmp 10) (kLoad (some 3) (.tmp 2)) (oCallT (some [13]) (.tmp 11) (.con (.func 36 [] [])) [(.tmp 10)] (oVal (.tmp 12) (kMove (.tmp 1)) (oVal (.tmp 13) (kUn (fadA 1) (.tmp 2)) (oVal (.tmp 14) (kLoad none (.tmp 13)) (oCall (.tmp 15) (.con (.func 43 [] [])) [(.tmp 12),(.tmp 14)] (oVal (.tmp 16) (kBuildSlice [(.int .i64 0),(.int .i64 0)] 2 [(0,1,(.tmp 11)),(1,1,(.tmp 15))]) (oCall (.tmp 17) (.con (.func 35 [] [])) [(.tmp 16)] (oVal (.tmp 7) (kMove (.tmp 17)) oNil))))))))))
def K14r2:OpsF:=(oVal (.tmp 18) (kMove (.tmp 7)) (oVal (.tmp 19) (kInt aNeq (.tmp 18) (.con (.int .i64 0))) oNil))
def K14r3:OpsF:=(oVal (.tmp 20) (kBuild [(.int .i64 0),(.int .i64 0)] []) (oVal (.tmp 21) (kMove (.tmp 7)) (oVal (.tmp 4) (kMove (.con (.int .i64 0))) (oVal .none (kStore 2 (.tmp 5) (.tmp 20)) (oVal (.tmp 6) (kMove (.tmp 21)) oNil)))))
def K14r4:OpsF:=(oVal (.tmp 22) (kLoad (some 3) (.tmp 2)) (oVal (.tmp 23) (kMove (.tmp 1)) (oCall (.tmp 24) (.con (.func 44 [] [])) [(.tmp 22),(.tmp 23)] (oVal (.tmp 8) (kAlloc [.nilfunc] (tag 89)) (oVal .none (kStore 1 (.tmp 8) (.tmp 24)) oNil)))))
def K14r5:OpsF:=(oVal (.tmp 25) (kFunc 45 [] [(.tmp 8)]) (oCall (.tmp 26) (.con (.func 38 [] [])) [(.tmp 25)] (oVal (.tmp 9) (kAlloc [(.int .i64 0),(.int .i64 0)] (tag 38)) (oVal .none (kStore 2 (.tmp 9) (.tmp 26)) oNil))))
def K14r6:OpsF:=(oVal (.tmp 27) (kFunc 47 [] [(.tmp 8)]) (oCall (.tmp 28) (.con (.func 38 [] [])) [(.tmp 27)] (oVal .none (kStore 2 (.tmp 5) (.tmp 28)) oNil)))
def K14r7:OpsF:=(oEnd [] (oVal (.tmp 29) (kUn (fadA 1) (.tmp 9)) (oVal (.tmp 30) (kLoad none (.tmp 29)) (oVal (.tmp 31) (kGtr (.tmp 30) (.con (.int .i64 0))) (oVal (.tmp 32) (kUn (fadA 0) (.tmp 9)) (oVal (.tmp 33) (kLoad none (.tmp 32)) (oVal (.tmp 34) (kGtr (.tmp 33) (.con (.int .i64 0))) (oCallT (some [5]) (.tmp 35) (.con (.func 49 [] [])) [(.tmp 31),(.tmp 34)] (oVal (.tmp 36) (kLoad (some 2) (.tmp 5)) (oVal (.tmp 4) (kMove (.tmp 35)) (oVal .none (kStore 2 (.tmp 5) (.tmp 36)) (oVal (.tmp 6) (kMove (.con (.int .i64 0))) oNil))))))))))))
theorem res14:Try.f14.results.toList=[.tmp 4,.cell 5 38,.tmp 6]:=by kernel_rfl
def K14:K:=(kSeq (kRegion K14r0 [2,4,5,6]) (kSeq (kSeq (kRegionD K14r1 [7]) (kSeq (kRegion K14r2 [19]) (kCond (.tmp 19) (kSeq (kRegion K14r3 [4,6]) kRet) kSkip))) (kSeq (kRegion K14r4 [8]) (kSeq (kRegion K14r5 [9]) (kSeq (kRegion K14r6 []) (kSeq (kRegionD K14r7 [4,6]) kRet))))))
theorem enter14 (cl:CallF) (a0 a1:AV) (s:St):enterA Try.prog X cl 14 [a0,a1] s Try.f14=finA Try.prog Try.f14 (K14 cl ⟨14,none,Try.f14.ntmps,X 14⟩ (paramsEnv 0 [a0,a1] .nil) [] s) :=
  enterA_eq (b:=Try.f14.body.getD .skip) (by kernel_rfl) (by kernel_rfl) (by kernel_rfl) (by kernel_rfl) (by kernel_rfl)
def K44r0:OpsF:=(oVal (.tmp 2) (kBox (tag 27) (.tmp 0)) (oVal (.tmp 3) (kBox (tag 3) (.tmp 1)) (oVal (.tmp 4) (kMove (.con .nilfunc)) oNil)))
def K44r1:OpsF:=(oVal (.tmp 5) (kFunc 64 [] [(.tmp 2),(.tmp 3)]) (oVal (.tmp 4) (kMove (.tmp 5)) oNil))
theorem res44:Try.f44.results.toList=[.tmp 4]:=by kernel_rfl
def K44:K:=(kSeq (kRegion K44r0 [2,3,4]) (kSeq (kRegion K44r1 [4]) kRet))
theorem enter44 (cl:CallF) (a0 a1:AV) (s:St):enterA Try.prog X cl 44 [a0,a1] s Try.f44=finA Try.prog Try.f44 (K44 cl ⟨44,none,Try.f44.ntmps,X 44⟩ (paramsEnv 0 [a0,a1] .nil) [] s) :=
  enterA_eq (b:=Try.f44.body.getD .skip) (by kernel_rfl) (by kernel_rfl) (by kernel_rfl) (by kernel_rfl) (by kernel_rfl)
def K64r0:OpsF:=(oVal (.tmp 6) (kUn (fadA 2) (.tmp 1)) (oVal (.tmp 7) (kLoad none (.tmp 6)) (oVal (.tmp 8) (kUn lenSlA (.tmp 7)) (oVal (.tmp 9) (kMove (.con (.int .i64 0))) oNil))))
def K64r1:OpsF:=(oVal (.tmp 10) (kInt aLss (.tmp 9) (.tmp 8)) oNil)
def K64r2:OpsF:=(oVal (.tmp 11) (kTwo (ixsA 6) (.tmp 7) (.tmp 9)) (oVal (.tmp 12) (kLoad (some 6) (.tmp 11)) (oVal (.tmp 5) (kAlloc [(.int .i64 0),(.int .i64 0),(.int .i64 0),(.int .i64 0),(.int .i64 0),(.int .i64 0)] (tag 51)) (oVal .none (kStore 6 (.tmp 5) (.tmp 12)) oNil))))
def K64r3s15:OpsF:=(oVal (.tmp 28) (kPick (.tmp 23) (.tmp 27) (.con (.bool false))) oNil)
def K64r3s14:OpsF:=(oIf 23 true (oVal (.tmp 27) (kUn notA (.tmp 26)) K64r3s15) (oSkip (.tmp 27) K64r3s15))
def K64r3s13:OpsF:=(oIf 23 true (oCall (.tmp 26) (.tmp 24) [(.tmp 25)] K64r3s14) (oSkip (.tmp 26) K64r3s14))
def K64r3s12:OpsF:=(oIf 23 true (oVal (.tmp 25) (kLoad (some 6) (.tmp 5)) K64r3s13) (oSkip (.tmp 25) K64r3s13))
def K64r3s9:OpsF:=(oVal (.tmp 22) (kPick (.tmp 17) (.tmp 21) (.con (.bool false))) (oVal (.tmp 23) (kMove (.tmp 22)) (oIf 23 true (oVal (.tmp 24) (kMove (.tmp 0)) K64r3s12) (oSkip (.tmp 24) K64r3s12))))
def K64r3s8:OpsF:=(oIf 17 true (oVal (.tmp 21) (kGtr (.tmp 20) (.con (.int .i64 0))) K64r3s9) (oSkip (.tmp 21) K64r3s9))
def K64r3s7:OpsF:=(oIf 17 true (oVal (.tmp 20) (kLoad none (.tmp 19)) K64r3s8) (oSkip (.tmp 20) K64r3s8))
def K64r3s6:OpsF:=(oIf 17 true (oVal (.tmp 19) (kUn (fadA 1) (.tmp 18)) K64r3s7) (oSkip (.tmp 19) K64r3s7))
def K64r3:OpsF:=(oVal (.tmp 13) (kUn (fadA 1) (.tmp 5)) (oVal (.tmp 14) (kLoad none (.tmp 13)) (oVal (.tmp 15) (kLoad none (.tmp 2)) (oVal (.tmp 16) (kInt aEql (.tmp 14) (.tmp 15)) (oVal (.tmp 17) (kMove (.tmp 16)) (oIf 17 true (oVal (.tmp 18) (kUn (fadA 2) (.tmp 5)) K64r3s6) (oSkip (.tmp 18) K64r3s6)))))))
def K64r4:OpsF:=(oVal (.tmp 29) (kInt aAdd (.tmp 9) (.con (.int .i64 1))) (oVal (.tmp 9) (kMove (.tmp 29)) oNil))
def K64l0:K:=(kSeq (kRegion K64r1 [10]) (kSeq (kCond (.tmp 10) kSkip (kExit 0)) (kSeq (kBlock 1 (kSeq (kRegion K64r2 [5]) (kSeq (kRegion K64r3 [28]) (kCond (.tmp 28) kRet kSkip)))) (kRegion K64r4 [9]))))
theorem res64:Try.f64.results.toList=[]:=by kernel_rfl
def K64:K:=(kSeq (kRegion K64r0 [7,8,9]) (kBlock 0 (kLoop K64l0)))
theorem enter64 (cl:CallF) (a0 a1 a2:AV) (s:St):enterA Try.prog X cl 64 [a0,a1,a2] s Try.f64=finA Try.prog Try.f64 (K64 cl ⟨64,none,Try.f64.ntmps,X 64⟩ (paramsEnv 0 [a0,a1,a2] .nil) [] s) :=
  enterA_eq (b:=Try.f64.body.getD .skip) (by kernel_rfl) (by kernel_rfl) (by kernel_rfl) (by kernel_rfl) (by kernel_rfl)
def K45r0:OpsF:=(oVal (.tmp 2) (kBox (tag 82) (.tmp 0)) (oVal (.tmp 3) (kMove (.con (.int .i64 0))) oNil))
def K45r1:OpsF:=(oVal (.tmp 4) (kLoad (some 2) (.tmp 2)) (oVal (.tmp 5) (kLoad none (.tmp 1)) (oCall (.tmp 6) (.con (.func 46 [] [])) [(.tmp 4),(.tmp 5)] (oVal (.tmp 3) (kMove (.tmp 6)) oNil))))
theorem res45:Try.f45.results.toList=[.tmp 3]:=by kernel_rfl
def K45:K:=(kSeq (kRegion K45r0 [2,3]) (kSeq (kRegion K45r1 [3]) kRet))
theorem enter45 (cl:CallF) (a0 a1:AV) (s:St):enterA Try.prog X cl 45 [a0,a1] s Try.f45=finA Try.prog Try.f45 (K45 cl ⟨45,none,Try.f45.ntmps,X 45⟩ (paramsEnv 0 [a0,a1] .nil) [] s) :=
  enterA_eq (b:=Try.f45.body.getD .skip) (by kernel_rfl) (by kernel_rfl) (by kernel_rfl) (by kernel_rfl) (by kernel_rfl)
def K47r0:OpsF:=(oVal (.tmp 2) (kBox (tag 82) (.tmp 0)) (oVal (.tmp 3) (kMove (.con (.int .i64 0))) oNil))
def K47r1:OpsF:=(oVal (.tmp 4) (kLoad (some 2) (.tmp 2)) (oVal (.tmp 5) (kLoad none (.tmp 1)) (oCall (.tmp 6) (.con (.func 48 [] [])) [(.tmp 4),(.tmp 5)] (oVal (.tmp 3) (kMove (.tmp 6)) oNil))))
theorem res47:Try.f47.results.toList=[.tmp 3]:=by kernel_rfl
def K47:K:=(kSeq (kRegion K47r0 [2,3]) (kSeq (kRegion K47r1 [3]) kRet))
theorem enter47 (cl:CallF) (a0 a1:AV) (s:St):enterA Try.prog X cl 47 [a0,a1] s Try.f47=finA Try.prog Try.f47 (K47 cl ⟨47,none,Try.f47.ntmps,X 47⟩ (paramsEnv 0 [a0,a1] .nil) [] s) :=
  enterA_eq (b:=Try.f47.body.getD .skip) (by kernel_rfl) (by kernel_rfl) (by kernel_rfl) (by kernel_rfl) (by kernel_rfl)
def K46r0:OpsF:=(oVal (.tmp 2) (kBox (tag 82) (.tmp 0)) (oVal (.tmp 4) (kMove (.con (.int .i64 0))) oNil))
def K46r1:OpsF:=(oVal (.tmp 5) (kAlloc [(.int .i64 0)] (tag 3)) (oVal .none (kStore 1 (.tmp 5) (.con (.int .i64 0))) oNil))
def K46r2:OpsF:=(oVal (.tmp 7) (kMove (.tmp 1)) oNil)
def K46r3:OpsF:=(oVal (.tmp 15) (kLoad none (.tmp 5)) (oVal (.tmp 4) (kMove (.tmp 15)) oNil))
theorem res46:Try.f46.results.toList=[.tmp 4]:=by kernel_rfl
def K46:K:=(kSeq (kRegion K46r0 [2,4]) (kSeq (kRegion K46r1 [5]) (kSeq (kSeq (kRegion K46r2 [7]) (kBlock 0 (kRange (.tmp 7) [8] (rangeAt Try.f46 0).1 (rangeAt Try.f46 0).2))) (kSeq (kRegion K46r3 [4]) kRet))))
theorem enter46 (cl:CallF) (a0 a1:AV) (s:St):enterA Try.prog X cl 46 [a0,a1] s Try.f46=finA Try.prog Try.f46 (K46 cl ⟨46,none,Try.f46.ntmps,X 46⟩ (paramsEnv 0 [a0,a1] .nil) [] s) :=
  enterA_eq (b:=Try.f46.body.getD .skip) (by kernel_rfl) (by kernel_rfl) (by kernel_rfl) (by kernel_rfl) (by kernel_rfl)
def K46a0r0:OpsF:=(oVal (.tmp 6) (kAlloc [(.int .i64 0),(.int .i64 0),(.int .i64 0),(.int .i64 0),(.int .i64 0),(.int .i64 0)] (tag 51)) (oVal .none (kStore 6 (.tmp 6) (.tmp 8)) oNil))
def K46a0:K:=(kRegion K46a0r0 [6])
theorem code46a0:codeK Try.prog (X 46) Try.f46.ntmps (rangeAt Try.f46 0).1=some K46a0:=by kernel_rfl
def K46b0r0:OpsF:=(oEnd [] (oVal (.tmp 9) (kLoad none (.tmp 5)) (oVal (.tmp 10) (kLoad (some 2) (.tmp 2)) (oVal (.tmp 11) (kLoad (some 6) (.tmp 6)) (oCallT (some [5]) (.tmp 12) (.con (.func 62 [] [])) [(.tmp 10),(.tmp 11)] (oVal (.tmp 13) (kTwo (indA 2 1 none) (.tmp 12) (.con (.int .i64 0))) (oVal (.tmp 14) (kInt aAdd (.tmp 9) (.tmp 13)) (oVal .none (kStore 1 (.tmp 5) (.tmp 14)) oNil))))))))
def K46b0:K:=(kBlock 1 (kRegionD K46b0r0 []))
theorem code46b0:codeK Try.prog (X 46) Try.f46.ntmps (rangeAt Try.f46 0).2=some K46b0:=by kernel_rfl
def K48r0:OpsF:=(oVal (.tmp 2) (kBox (tag 82) (.tmp 0)) (oVal (.tmp 3) (kBox (tag 89) (.tmp 1)) (oVal (.tmp 4) (kMove (.con (.int .i64 0))) oNil)))
def K48r1:OpsF:=(oVal (.tmp 6) (kFunc 65 [] [(.tmp 3),(.tmp 2)]) (oVal (.tmp 5) (kAlloc [.nilfunc] (tag 108)) (oVal .none (kStore 1 (.tmp 5) (.tmp 6)) oNil)))
def K48r2:OpsF:=(oVal (.tmp 7) (kFunc 68 [] [(.tmp 3),(.tmp 2),(.tmp 5)]) (oCall (.tmp 8) (.con (.func 67 [] [])) [(.tmp 7)] (oVal (.tmp 4) (kMove (.tmp 8)) oNil)))
theorem res48:Try.f48.results.toList=[.tmp 4]:=by kernel_rfl
def K48:K:=(kSeq (kRegion K48r0 [2,3,4]) (kSeq (kRegion K48r1 [5]) (kSeq (kRegion K48r2 [4]) kRet)))
theorem enter48 (cl:CallF) (a0 a1:AV) (s:St):enterA Try.prog X cl 48 [a0,a1] s Try.f48=finA Try.prog Try.f48 (K48 cl ⟨48,none,Try.f48.ntmps,X 48⟩ (paramsEnv 0 [a0,a1] .nil) [] s) :=
  enterA_eq (b:=Try.f48.body.getD .skip) (by kernel_rfl) (by kernel_rfl) (by kernel_rfl) (by kernel_rfl) (by kernel_rfl)
def K65r0:OpsF:=(oVal (.tmp 3) (kBox (tag 3) (.tmp 0)) (oVal (.tmp 4) (kMove (.con (.bool false))) oNil))
def K65r1:OpsF:=(oVal (.tmp 5) (kAlloc [(.int .i64 0)] (tag 3)) (oVal (.tmp 6) (kAlloc [(.int .i64 0)] (tag 3)) (oVal .none (kStore 1 (.tmp 5) (.con (.int .i64 0))) (oVal .none (kStore 1 (.tmp 6) (.con (.int .i64 0))) oNil))))
def K65r2:OpsF:=(oVal (.tmp 9) (kLoad none (.tmp 1)) oNil)
def K65r3:OpsF:=(oVal (.tmp 27) (kLoad none (.tmp 5)) (oVal (.tmp 28) (kLoad none (.tmp 6)) (oVal (.tmp 29) (kInt aGeq (.tmp 27) (.tmp 28)) (oVal (.tmp 4) (kMove (.tmp 29)) oNil))))
theorem res65:Try.f65.results.toList=[.tmp 4]:=by kernel_rfl
def K65:K:=(kSeq (kRegion K65r0 [3,4]) (kSeq (kRegion K65r1 [5,6]) (kSeq (kSeq (kRegion K65r2 [9]) (kBlock 0 (kRange (.tmp 9) [10] (rangeAt Try.f65 0).1 (rangeAt Try.f65 0).2))) (kSeq (kRegion K65r3 [4]) kRet))))
theorem enter65 (cl:CallF) (a0 a1 a2:AV) (s:St):enterA Try.prog X cl 65 [a0,a1,a2] s Try.f65=finA Try.prog Try.f65 (K65 cl ⟨65,none,Try.f65.ntmps,X 65⟩ (paramsEnv 0 [a0,a1,a2] .nil) [] s) :=
  enterA_eq (b:=Try.f65.body.getD .skip) (by kernel_rfl) (by kernel_rfl) (by kernel_rfl) (by kernel_rfl) (by kernel_rfl)
def K65a0r0:OpsF:=(oVal (.tmp 7) (kAlloc [(.int .i64 0),(.int .i64 0),(.int .i64 0),(.int .i64 0),(.int .i64 0),(.int .i64 0)] (tag 51)) (oVal .none (kStore 6 (.tmp 7) (.tmp 10)) oNil))
def K65a0:K:=(kRegion K65a0r0 [7])
theorem code65a0:codeK Try.prog (X 65) Try.f65.ntmps (rangeAt Try.f65 0).1=some K65a0:=by kernel_rfl
def K65b0r0:OpsF:=(oVal (.tmp 11) (kLoad (some 2) (.tmp 2)) (oVal (.tmp 12) (kLoad (some 6) (.tmp 7)) (oVal (.tmp 13) (kLoad none (.tmp 3)) (oCall (.tmp 14) (.con (.func 66 [] [])) [(.tmp 11),(.tmp 12),(.tmp 13)] (oVal (.tmp 8) (kAlloc [(.int .i64 0),(.int .i64 0)] (tag 103)) (oVal .none (kStore 2 (.tmp 8) (.tmp 14)) oNil))))))
def K65b0r1:OpsF:=(oVal (.tmp 15) (kTwo (ixaA 2 1) (.tmp 8) (.con (.int .i64 1))) (oVal (.tmp 16) (kLoad none (.tmp 15)) (oVal (.tmp 17) (kLoad none (.tmp 3)) (oVal (.tmp 18) (kInt aLeq (.tmp 16) (.tmp 17)) oNil))))
def K65b0r2:OpsF:=(oVal (.tmp 19) (kLoad none (.tmp 5)) (oVal (.tmp 20) (kTwo (ixaA 2 1) (.tmp 8) (.con (.int .i64 0))) (oVal (.tmp 21) (kLoad none (.tmp 20)) (oVal (.tmp 22) (kInt aAdd (.tmp 19) (.tmp 21)) (oVal .none (kStore 1 (.tmp 5) (.tmp 22)) oNil)))))
def K65b0r3:OpsF:=(oVal (.tmp 23) (kLoad none (.tmp 6)) (oVal (.tmp 24) (kTwo (ixaA 2 1) (.tmp 8) (.con (.int .i64 0))) (oVal (.tmp 25) (kLoad none (.tmp 24)) (oVal (.tmp 26) (kInt aAdd (.tmp 23) (.tmp 25)) (oVal .none (kStore 1 (.tmp 6) (.tmp 26)) oNil)))))
def K65b0:K:=(kBlock 1 (kSeq (kRegion K65b0r0 [8]) (kSeq (kRegion K65b0r1 [18]) (kCond (.tmp 18) (kRegion K65b0r2 []) (kRegion K65b0r3 [])))))
theorem code65b0:codeK Try.prog (X 65) Try.f65.ntmps (rangeAt Try.f65 0).2=some K65b0:=by kernel_rfl
def K68r0:OpsF:=(oVal (.tmp 4) (kBox (tag 108) (.tmp 0)) oNil)
def K68r1:OpsF:=(oVal (.tmp 7) (kLoad none (.tmp 1)) oNil)
theorem res68:Try.f68.results.toList=[]:=by kernel_rfl
def K68:K:=(kSeq (kRegion K68r0 [4]) (kSeq (kRegion K68r1 [7]) (kBlock 0 (kRange (.tmp 7) [8] (rangeAt Try.f68 0).1 (rangeAt Try.f68 0).2))))
theorem enter68 (cl:CallF) (a0 a1 a2 a3:AV) (s:St):enterA Try.prog X cl 68 [a0,a1,a2,a3] s Try.f68=finA Try.prog Try.f68 (K68 cl ⟨68,none,Try.f68.ntmps,X 68⟩ (paramsEnv 0 [a0,a1,a2,a3] .nil) [] s) :=
  enterA_eq (b:=Try.f68.body.getD .skip) (by kernel_rfl) (by kernel_rfl) (by kernel_rfl) (by kernel_rfl) (by kernel_rfl)
def K68a0r0:OpsF:=(oVal (.tmp 5) (kAlloc [(.int .i64 0),(.int .i64 0),(.int .i64 0),(.int .i64 0),(.int .i64 0),(.int .i64 0)] (tag 51)) (oVal .none (kStore 6 (.tmp 5) (.tmp 8)) oNil))
def K68a0:K:=(kRegion K68a0r0 [5])
theorem code68a0:codeK Try.prog (X 68) Try.f68.ntmps (rangeAt Try.f68 0).1=some K68a0:=by kernel_rfl
def K68b0r0:OpsF:=(oVal (.tmp 9) (kLoad (some 2) (.tmp 2)) (oVal (.tmp 10) (kLoad (some 6) (.tmp 5)) (oCall (.tmp 11) (.con (.func 62 [] [])) [(.tmp 9),(.tmp 10)] (oVal (.tmp 12) (kTwo (indA 2 1 none) (.tmp 11) (.con (.int .i64 1))) (oVal (.tmp 6) (kMove (.tmp 12)) oNil)))))
def K68b0r1s8:OpsF:=(oVal (.tmp 21) (kPick (.tmp 16) (.tmp 20) (.con (.bool false))) oNil)
def K68b0r1s7:OpsF:=(oIf 16 true (oVal (.tmp 20) (kUn notA (.tmp 19)) K68b0r1s8) (oSkip (.tmp 20) K68b0r1s8))
def K68b0r1s6:OpsF:=(oIf 16 true (oCall (.tmp 19) (.tmp 17) [(.tmp 18)] K68b0r1s7) (oSkip (.tmp 19) K68b0r1s7))
def K68b0r1s5:OpsF:=(oIf 16 true (oVal (.tmp 18) (kMove (.tmp 6)) K68b0r1s6) (oSkip (.tmp 18) K68b0r1s6))
def K68b0r1:OpsF:=(oVal (.tmp 13) (kLoad none (.tmp 3)) (oVal (.tmp 14) (kMove (.tmp 6)) (oCall (.tmp 15) (.tmp 13) [(.tmp 14)] (oVal (.tmp 16) (kMove (.tmp 15)) (oIf 16 true (oVal (.tmp 17) (kLoad none (.tmp 4)) K68b0r1s5) (oSkip (.tmp 17) K68b0r1s5))))))
def K68b0:K:=(kBlock 1 (kSeq (kRegion K68b0r0 [6]) (kSeq (kRegion K68b0r1 [21]) (kCond (.tmp 21) kRet kSkip))))
theorem code68b0:codeK Try.prog (X 68) Try.f68.ntmps (rangeAt Try.f68 0).2=some K68b0:=by kernel_rfl
def K66r0:OpsF:=(oVal (.tmp 3) (kBox (tag 82) (.tmp 0)) (oVal (.tmp 4) (kBox (tag 51) (.tmp 1)) (oVal (.tmp 6) (kAlloc [(.int .i64 0),(.int .i64 0)] (tag 103)) oNil)))
def K66r1:OpsF:=(oVal (.tmp 8) (kLoad (some 2) (.tmp 3)) (oVal (.tmp 9) (kLoad (some 6) (.tmp 4)) (oCall (.tmp 10) (.con (.func 62 [] [])) [(.tmp 8),(.tmp 9)] (oVal (.tmp 7) (kAlloc [(.int .i64 0),(.int .i64 0)] (tag 103)) (oVal .none (kStore 2 (.tmp 7) (.tmp 10)) oNil)))))
def K66r2:OpsF:=(oVal (.tmp 11) (kTwo (ixaA 2 1) (.tmp 7) (.con (.int .i64 1))) (oVal (.tmp 12) (kLoad none (.tmp 11)) (oVal (.tmp 13) (kMove (.tmp 2)) (oVal (.tmp 14) (kInt aLeq (.tmp 12) (.tmp 13)) oNil))))
def K66r3:OpsF:=(oVal (.tmp 15) (kUn (fadA 1) (.tmp 3)) (oVal (.tmp 16) (kLoad none (.tmp 15)) (oVal (.tmp 17) (kUn (fadA 2) (.tmp 4)) (oVal (.tmp 18) (kLoad (some 2) (.tmp 17)) (oCall (.tmp 19) (.tmp 16) [(.tmp 18)] (oVal (.tmp 20) (kTwo (ixaA 2 1) (.tmp 7) (.con (.int .i64 0))) (oVal .none (kStore 1 (.tmp 20) (.tmp 19)) oNil)))))))
def K66r4:OpsF:=(oVal (.tmp 21) (kLoad (some 2) (.tmp 7)) (oVal .none (kStore 2 (.tmp 6) (.tmp 21)) oNil))
theorem res66:Try.f66.results.toList=[.cell 6 103]:=by kernel_rfl
def K66:K:=(kSeq (kRegion K66r0 [3,4,6]) (kSeq (kRegion K66r1 [7]) (kSeq (kSeq (kRegion K66r2 [14]) (kCond (.tmp 14) (kRegion K66r3 []) kSkip)) (kSeq (kRegion K66r4 []) kRet))))
theorem enter66 (cl:CallF) (a0 a1 a2:AV) (s:St):enterA Try.prog X cl 66 [a0,a1,a2] s Try.f66=finA Try.prog Try.f66 (K66 cl ⟨66,none,Try.f66.ntmps,X 66⟩ (paramsEnv 0 [a0,a1,a2] .nil) [] s) :=
  enterA_eq (b:=Try.f66.body.getD .skip) (by kernel_rfl) (by kernel_rfl) (by kernel_rfl) (by kernel_rfl) (by kernel_rfl)
def K67r0:OpsF:=(oVal (.tmp 2) (kMove (.con (.int .i64 0))) oNil)
def K67r1:OpsF:=(oVal (.tmp 3) (kAlloc [(.int .i64 0)] (tag 3)) oNil)
def K67r2:OpsF:=(oVal (.tmp 4) (kAlloc [(.bool false)] (tag 4)) (oVal .none (kStore 1 (.tmp 4) (.con (.bool false))) oNil))
def K67r3:OpsF:=(oVal (.tmp 6) (kMove (.tmp 0)) oNil)
def K67r4:OpsF:=(oVal (.tmp 16) (kLoad none (.tmp 3)) (oVal (.tmp 2) (kMove (.tmp 16)) oNil))
theorem res67:Try.f67.results.toList=[.tmp 2]:=by kernel_rfl
def K67:K:=(kSeq (kRegion K67r0 [2]) (kSeq (kRegion K67r1 [3]) (kSeq (kRegion K67r2 [4]) (kSeq (kSeq (kRegion K67r3 [6]) (kBlock 0 (kRange (.tmp 6) [7] (rangeAt Try.f67 0).1 (rangeAt Try.f67 0).2))) (kSeq (kRegion K67r4 [2]) kRet)))))
theorem enter67 (cl:CallF) (a0:AV) (s:St):enterA Try.prog X cl 67 [a0] s Try.f67=finA Try.prog Try.f67 (K67 cl ⟨67,none,Try.f67.ntmps,X 67⟩ (paramsEnv 0 [a0] .nil) [] s) :=
  enterA_eq (b:=Try.f67.body.getD .skip) (by kernel_rfl) (by kernel_rfl) (by kernel_rfl) (by kernel_rfl) (by kernel_rfl)
def K67a0r0:OpsF:=(oVal (.tmp 5) (kMove (.tmp 7)) oNil)
def K67a0:K:=(kRegion K67a0r0 [5])
theorem code67a0:codeK Try.prog (X 67) Try.f67.ntmps (rangeAt Try.f67 0).1=some K67a0:=by kernel_rfl
def K67b0r0s6:OpsF:=(oVal (.tmp 14) (kPick (.tmp 10) (.con (.bool true)) (.tmp 13)) oNil)
def K67b0r0s5:OpsF:=(oIf 10 false (oVal (.tmp 13) (kInt aLss (.tmp 11) (.tmp 12)) K67b0r0s6) (oSkip (.tmp 13) K67b0r0s6))
def K67b0r0s4:OpsF:=(oIf 10 false (oVal (.tmp 12) (kLoad none (.tmp 3)) K67b0r0s5) (oSkip (.tmp 12) K67b0r0s5))
def K67b0r0:OpsF:=(oVal (.tmp 8) (kLoad none (.tmp 4)) (oVal (.tmp 9) (kUn notA (.tmp 8)) (oVal (.tmp 10) (kMove (.tmp 9)) (oIf 10 false (oVal (.tmp 11) (kMove (.tmp 5)) K67b0r0s4) (oSkip (.tmp 11) K67b0r0s4)))))
def K67b0r1:OpsF:=(oVal (.tmp 15) (kMove (.tmp 5)) (oVal .none (kStore 1 (.tmp 3) (.tmp 15)) (oVal .none (kStore 1 (.tmp 4) (.con (.bool true))) oNil)))
def K67b0:K:=(kBlock 1 (kSeq (kRegion K67b0r0 [14]) (kCond (.tmp 14) (kRegion K67b0r1 []) kSkip)))
theorem code67b0:codeK Try.prog (X 67) Try.f67.ntmps (rangeAt Try.f67 0).2=some K67b0:=by kernel_rfl
def K49r0:OpsF:=(oVal (.tmp 4) (kMove (.con (.int .i64 0))) oNil)
def K49r1:OpsF:=(oVal (.tmp 6) (kMove (.tmp 1)) (oVal (.tmp 5) (kMove (.tmp 6)) oNil))
def K49r2:OpsF:=(oVal (.tmp 4) (kMove (.con (.int .i64 1))) oNil)
def K49r3:OpsF:=(oVal (.tmp 8) (kMove (.tmp 0)) (oVal (.tmp 7) (kMove (.tmp 8)) oNil))
def K49r4:OpsF:=(oVal (.tmp 4) (kMove (.con (.int .i64 3))) oNil)
def K49r5:OpsF:=(oVal (.tmp 4) (kMove (.con (.int .i64 2))) oNil)
theorem res49:Try.f49.results.toList=[.tmp 4]:=by kernel_rfl
def K49:K:=(kSeq (kRegion K49r0 [4]) (kSeq (kBlock 0 (kSeq (kRegion K49r1 [5]) (kCond (.tmp 5) (kSeq (kRegion K49r2 [4]) kRet) (kSeq (kRegion K49r3 [7]) (kCond (.tmp 7) (kSeq (kRegion K49r4 [4]) kRet) kSkip))))) (kSeq (kRegion K49r5 [4]) kRet)))
theorem enter49 (cl:CallF) (a0 a1:AV) (s:St):enterA Try.prog X cl 49 [a0,a1] s Try.f49=finA Try.prog Try.f49 (K49 cl ⟨49,none,Try.f49.ntmps,X 49⟩ (paramsEnv 0 [a0,a1] .nil) [] s) :=
  enterA_eq (b:=Try.f49.body.getD .skip) (by kernel_rfl) (by kernel_rfl) (by kernel_rfl) (by kernel_rfl) (by kernel_rfl)
end
end Go.Proofs.Ytamlnddeiokbdaa.code
set_option maxRecDepth 100000
namespace Go.Proofs.Ytamlnddeiokbdaa.code
open Go.Abs
noncomputable section
def K27r0:OpsF:=(oVal (.tmp 2) (kBox (tag 27) (.tmp 0)) (oVal (.tmp 4) (kAlloc [(.int .i64 0),(.int .i64 0),.nilslice] (tag 27)) (oVal (.tmp 5) (kMove (.con (.int .i64 0))) oNil)))
def K27r1:OpsF:=(oEnd [] (oVal (.tmp 10) (kLoad (some 3) (.tmp 2)) (oCallT (some [2]) (.tmp 11) (.con (.func 36 [] [])) [(.tmp 10)] (oVal (.tmp 12) (kLoad (some 3) (.tmp 2)) (oVal (.tmp 13) (kMove (.tmp 1)) (oCall (.tmp 14) (.con (.func 55 [] [])) [(.tmp 12),(.tmp 13)] (oVal (.tmp 15) (kBuildSlice [(.int .i64 0),(.int .i64 0)] 2 [(0,1,(.tmp 11)),(1,1,(.tmp 14))]) (oCall (.tmp 16) (.con (.func 35 [] [])) [(.tmp 15)] (oVal (.tmp 6) (kMove (.tmp 16)) oNil)))))))))
def K27r2:OpsF:=(oVal (.tmp 17) (kMove (.tmp 6)) (oVal (.tmp 18) (kInt aNeq (.tmp 17) (.con (.int .i64 0))) oNil))
def K27r3:OpsF:=(oVal (.tmp 19) (kBuild [(.int .i64 0),(.int .i64 0),.nilslice] []) (oVal (.tmp 20) (kMove (.tmp 6)) (oVal .none (kStore 3 (.tmp 4) (.tmp 19)) (oVal (.tmp 5) (kMove (.tmp 20)) oNil))))
def K27r4:OpsF:=(oVal (.tmp 21) (kUn (fadA 2) (.tmp 2)) (oVal (.tmp 22) (kLoad none (.tmp 21)) (oVal (.tmp 23) (kUn lenSlA (.tmp 22)) (oVal (.tmp 24) (kMake [(.int .i64 0),(.int .i64 0),(.int .i64 0),(.int .i64 0),(.int .i64 0),(.int .i64 0)] 48 (.tmp 23) (.tmp 23)) (oVal (.tmp 7) (kMove (.tmp 24)) oNil)))))
def K27r5:OpsF:=(oVal (.tmp 25) (kMove (.tmp 7)) (oVal (.tmp 26) (kUn (fadA 2) (.tmp 2)) (oVal (.tmp 27) (kLoad none (.tmp 26)) (oVal (.tmp 28) (kTwo (copyA 6) (.tmp 25) (.tmp 27)) oNil))))
def K27r6:OpsF:=(oVal (.tmp 29) (kMove (.tmp 1)) (oVal (.tmp 30) (kUn lenSlA (.tmp 29)) (oVal (.tmp 31) (kMove (.con (.int .i64 0))) oNil)))
def K27r7:OpsF:=(oVal (.tmp 32) (kInt aLss (.tmp 31) (.tmp 30)) oNil)
def K27r8:OpsF:=(oVal (.tmp 33) (kTwo (ixsA 3) (.tmp 29) (.tmp 31)) (oVal (.tmp 34) (kLoad (some 3) (.tmp 33)) (oVal (.tmp 9) (kAlloc [(.int .i64 0),(.int .i64 0),(.int .i64 0)] (tag 66)) (oVal .none (kStore 3 (.tmp 9) (.tmp 34)) oNil))))
def K27r9:OpsF:=(oVal (.tmp 35) (kMove (.tmp 7)) (oVal (.tmp 36) (kUn (fadA 0) (.tmp 9)) (oVal (.tmp 37) (kLoad none (.tmp 36)) (oVal (.tmp 38) (kUn (fadA 1) (.tmp 9)) (oVal (.tmp 39) (kLoad none (.tmp 38)) (oVal (.tmp 40) (kUn (fadA 1) (.tmp 9)) (oVal (.tmp 41) (kLoad none (.tmp 40)) (oVal (.tmp 42) (kBuild [(.int .i64 0),(.int .i64 0)] [(0,1,(.tmp 39)),(1,1,(.tmp 41))]) (oVal (.tmp 43) (kTwo (ixsA 6) (.tmp 35) (.tmp 37)) (oVal (.tmp 44) (kUn (fadA 2) (.tmp 43)) (oVal .none (kStore 2 (.tmp 44) (.tmp 42)) oNil)))))))))))
def K27r10:OpsF:=(oVal (.tmp 45) (kMove (.tmp 7)) (oVal (.tmp 46) (kUn (fadA 0) (.tmp 9)) (oVal (.tmp 47) (kLoad none (.tmp 46)) (oVal (.tmp 48) (kUn (fadA 2) (.tmp 9)) (oVal (.tmp 49) (kLoad none (.tmp 48)) (oVal (.tmp 50) (kUn (fadA 2) (.tmp 9)) (oVal (.tmp 51) (kLoad none (.tmp 50)) (oVal (.tmp 52) (kBuild [(.int .i64 0),(.int .i64 0)] [(0,1,(.tmp 49)),(1,1,(.tmp 51))]) (oVal (.tmp 53) (kTwo (ixsA 6) (.tmp 45) (.tmp 47)) (oVal (.tmp 54) (kUn (fadA 4) (.tmp 53)) (oVal .none (kStore 2 (.tmp 54) (.tmp 52)) oNil)))))))))))
def K27r11:OpsF:=(oVal (.tmp 55) (kInt aAdd (.tmp 31) (.con (.int .i64 1))) (oVal (.tmp 31) (kMove (.tmp 55)) oNil))
def K27l0:K:=(kSeq (kRegion K27r7 [32]) (kSeq (kCond (.tmp 32) kSkip (kExit 0)) (kSeq (kBlock 1 (kSeq (kRegion K27r8 [9]) (kSeq (kRegion K27r9 []) (kRegion K27r10 [])))) (kRegion K27r11 [31]))))
def K27r12:OpsF:=(oVal (.tmp 56) (kMove (.tmp 7)) (oVal (.tmp 57) (kUn (fadA 2) (.tmp 2)) (oVal .none (kStore 1 (.tmp 57) (.tmp 56)) oNil)))
def K27r13:OpsF:=(oVal (.tmp 58) (kLoad (some 3) (.tmp 2)) (oVal .none (kStore 3 (.tmp 4) (.tmp 58)) (oVal (.tmp 5) (kMove (.con (.int .i64 0))) oNil)))
theorem res27:Try.f27.results.toList=[.cell 4 27,.tmp 5]:=by kernel_rfl
def K27:K:=(kSeq (kRegion K27r0 [2,4,5]) (kSeq (kSeq (kRegionD K27r1 [6]) (kSeq (kRegion K27r2 [18]) (kCond (.tmp 18) (kSeq (kRegion K27r3 [5]) kRet) kSkip))) (kSeq (kRegion K27r4 [7]) (kSeq (kRegion K27r5 []) (kSeq (kSeq (kRegion K27r6 [29,30,31]) (kBlock 0 (kLoop K27l0))) (kSeq (kRegion K27r12 []) (kSeq (kRegion K27r13 [5]) kRet)))))))
theorem enter27 (cl:CallF) (a0 a1:AV) (s:St):enterA Try.prog X cl 27 [a0,a1] s Try.f27=finA Try.prog Try.f27 (K27 cl ⟨27,none,Try.f27.ntmps,X 27⟩ (paramsEnv 0 [a0,a1] .nil) [] s) :=
  enterA_eq (b:=Try.f27.body.getD .skip) (by kernel_rfl) (by kernel_rfl) (by kernel_rfl) (by kernel_rfl) (by kernel_rfl)
def K55r0:OpsF:=(oVal (.tmp 2) (kBox (tag 27) (.tmp 0)) (oVal (.tmp 4) (kMove (.con (.int .i64 0))) oNil))
def K55r1:OpsF:=(oVal (.tmp 9) (kMove (.tmp 1)) (oVal (.tmp 10) (kUn lenSlA (.tmp 9)) (oCall (.tmp 11) (.con (.func 58 [] [])) [(.tmp 10),(.con (.int .i64 0)),(.con (.int .i64 40))] (oVal (.tmp 5) (kMove (.tmp 11)) oNil))))
def K55r2:OpsF:=(oVal (.tmp 12) (kMove (.tmp 5)) (oVal (.tmp 13) (kInt aNeq (.tmp 12) (.con (.int .i64 0))) oNil))
def K55r3:OpsF:=(oVal (.tmp 14) (kMove (.tmp 5)) (oVal (.tmp 4) (kMove (.tmp 14)) oNil))
def K55r4:OpsF:=(oVal (.tmp 15) (kMove (.tmp 1)) (oVal (.tmp 16) (kUn lenSlA (.tmp 15)) (oVal (.tmp 17) (kMove (.con (.int .i64 0))) oNil)))
def K55r5:OpsF:=(oVal (.tmp 18) (kInt aLss (.tmp 17) (.tmp 16)) oNil)
def K55r6:OpsF:=(oVal (.tmp 19) (kMove (.tmp 17)) (oVal (.tmp 20) (kTwo (ixsA 3) (.tmp 15) (.tmp 17)) (oVal (.tmp 21) (kLoad (some 3) (.tmp 20)) (oVal (.tmp 7) (kAlloc [(.int .i64 0),(.int .i64 0),(.int .i64 0)] (tag 66)) (oVal (.tmp 6) (kMove (.tmp 19)) (oVal .none (kStore 3 (.tmp 7) (.tmp 21)) oNil))))))
def K55r7:OpsF:=(oEnd [] (oVal (.tmp 22) (kUn (fadA 2) (.tmp 2)) (oVal (.tmp 23) (kLoad none (.tmp 22)) (oVal (.tmp 24) (kLoad (some 3) (.tmp 7)) (oVal (.tmp 25) (kMove (.tmp 1)) (oVal (.tmp 26) (kMove (.tmp 6)) (oVal (.tmp 27) (kSlice (sliceVal 3) (.tmp 25) none (some (.tmp 26))) (oCall (.tmp 28) (.con (.func 70 [] [])) [(.tmp 23),(.tmp 24),(.tmp 27)] (oVal (.tmp 8) (kMove (.tmp 28)) oNil)))))))))
def K55r8:OpsF:=(oVal (.tmp 29) (kMove (.tmp 8)) (oVal (.tmp 30) (kInt aNeq (.tmp 29) (.con (.int .i64 0))) oNil))
def K55r9:OpsF:=(oVal (.tmp 31) (kMove (.tmp 8)) (oVal (.tmp 4) (kMove (.tmp 31)) oNil))
def K55r10:OpsF:=(oVal (.tmp 32) (kInt aAdd (.tmp 17) (.con (.int .i64 1))) (oVal (.tmp 17) (kMove (.tmp 32)) oNil))
def K55l0:K:=(kSeq (kRegion K55r5 [18]) (kSeq (kCond (.tmp 18) kSkip (kExit 0)) (kSeq (kBlock 1 (kSeq (kRegion K55r6 [7,6]) (kSeq (kRegionD K55r7 [8]) (kSeq (kRegion K55r8 [30]) (kCond (.tmp 30) (kSeq (kRegion K55r9 [4]) kRet) kSkip))))) (kRegion K55r10 [17]))))
def K55r11:OpsF:=(oVal (.tmp 4) (kMove (.con (.int .i64 0))) oNil)
theorem res55:Try.f55.results.toList=[.tmp 4]:=by kernel_rfl
def K55:K:=(kSeq (kRegion K55r0 [2,4]) (kSeq (kSeq (kRegion K55r1 [5]) (kSeq (kRegion K55r2 [13]) (kCond (.tmp 13) (kSeq (kRegion K55r3 [4]) kRet) kSkip))) (kSeq (kSeq (kRegion K55r4 [15,16,17]) (kBlock 0 (kLoop K55l0))) (kSeq (kRegion K55r11 [4]) kRet))))
theorem enter55 (cl:CallF) (a0 a1:AV) (s:St):enterA Try.prog X cl 55 [a0,a1] s Try.f55=finA Try.prog Try.f55 (K55 cl ⟨55,none,Try.f55.ntmps,X 55⟩ (paramsEnv 0 [a0,a1] .nil) [] s) :=
  enterA_eq (b:=Try.f55.body.getD .skip) (by kernel_rfl) (by kernel_rfl) (by kernel_rfl) (by kernel_rfl) (by kernel_rfl)
def K70r0:OpsF:=(oVal (.tmp 4) (kBox (tag 66) (.tmp 1)) (oVal (.tmp 6) (kMove (.con (.int .i64 0))) oNil))
def K70r1:OpsF:=(oVal (.tmp 10) (kUn (fadA 0) (.tmp 4)) (oVal (.tmp 11) (kLoad none (.tmp 10)) (oVal (.tmp 12) (kMove (.tmp 0)) (oVal (.tmp 13) (kUn lenSlA (.tmp 12)) (oCall (.tmp 14) (.con (.func 43 [] [])) [(.tmp 11),(.tmp 13)] (oVal (.tmp 7) (kMove (.tmp 14)) oNil))))))
def K70r2:OpsF:=(oVal (.tmp 15) (kMove (.tmp 7)) (oVal (.tmp 16) (kInt aNeq (.tmp 15) (.con (.int .i64 0))) oNil))
def K70r3:OpsF:=(oVal (.tmp 17) (kMove (.tmp 7)) (oVal (.tmp 6) (kMove (.tmp 17)) oNil))
def K70r4:OpsF:=(oVal (.tmp 18) (kMove (.tmp 0)) (oVal (.tmp 19) (kUn (fadA 0) (.tmp 4)) (oVal (.tmp 20) (kLoad none (.tmp 19)) (oVal (.tmp 21) (kTwo (ixsA 6) (.tmp 18) (.tmp 20)) (oVal (.tmp 22) (kLoad (some 6) (.tmp 21)) (oVal (.tmp 8) (kAlloc [(.int .i64 0),(.int .i64 0),(.int .i64 0),(.int .i64 0),(.int .i64 0),(.int .i64 0)] (tag 51)) (oVal .none (kStore 6 (.tmp 8) (.tmp 22)) oNil)))))))
def K70r5:OpsF:=(oVal (.tmp 23) (kMove (.tmp 2)) (oVal (.tmp 24) (kFunc 76 [] [(.tmp 4)]) (oCall (.tmp 25) (.con (.func 75 [] [])) [(.tmp 23),(.tmp 24)] (oVal (.tmp 9) (kMove (.tmp 25)) oNil))))
def K70r6:OpsF:=(oEnd [] (oVal (.tmp 26) (kMove (.tmp 9)) (oVal (.tmp 27) (kUn notA (.tmp 26)) (oCallT (some [29,31,34,36]) (.tmp 28) (.con (.func 72 [] [])) [(.tmp 27),(.con (.int .i64 4))] (oVal (.tmp 29) (kUn (fadA 1) (.tmp 4)) (oVal (.tmp 30) (kLoad none (.tmp 29)) (oVal (.tmp 31) (kUn (fadA 2) (.tmp 8)) (oVal (.tmp 32) (kLoad (some 2) (.tmp 31)) (oCallT (some [34,36]) (.tmp 33) (.con (.func 77 [] [])) [(.tmp 30),(.tmp 32)] (oVal (.tmp 34) (kUn (fadA 2) (.tmp 4)) (oVal (.tmp 35) (kLoad none (.tmp 34)) (oVal (.tmp 36) (kUn (fadA 4) (.tmp 8)) (oVal (.tmp 37) (kLoad (some 2) (.tmp 36)) (oCall (.tmp 38) (.con (.func 77 [] [])) [(.tmp 35),(.tmp 37)] (oVal (.tmp 39) (kBuildSlice [(.int .i64 0),(.int .i64 0),(.int .i64 0)] 3 [(0,1,(.tmp 28)),(1,1,(.tmp 33)),(2,1,(.tmp 38))]) (oCall (.tmp 40) (.con (.func 35 [] [])) [(.tmp 39)] (oVal (.tmp 6) (kMove (.tmp 40)) oNil)))))))))))))))))
theorem res70:Try.f70.results.toList=[.tmp 6]:=by kernel_rfl
def K70:K:=(kSeq (kRegion K70r0 [4,6]) (kSeq (kSeq (kRegion K70r1 [7]) (kSeq (kRegion K70r2 [16]) (kCond (.tmp 16) (kSeq (kRegion K70r3 [6]) kRet) kSkip))) (kSeq (kRegion K70r4 [8]) (kSeq (kRegion K70r5 [9]) (kSeq (kRegionD K70r6 [6]) kRet)))))
theorem enter70 (cl:CallF) (a0 a1 a2:AV) (s:St):enterA Try.prog X cl 70 [a0,a1,a2] s Try.f70=finA Try.prog Try.f70 (K70 cl ⟨70,none,Try.f70.ntmps,X 70⟩ (paramsEnv 0 [a0,a1,a2] .nil) [] s) :=
  enterA_eq (b:=Try.f70.body.getD .skip) (by kernel_rfl) (by kernel_rfl) (by kernel_rfl) (by kernel_rfl) (by kernel_rfl)
def K76r0:OpsF:=(oVal (.tmp 2) (kBox (tag 66) (.tmp 0)) (oVal (.tmp 3) (kMove (.con (.bool false))) oNil))
def K76r1:OpsF:=(oVal (.tmp 4) (kUn (fadA 0) (.tmp 2)) (oVal (.tmp 5) (kLoad none (.tmp 4)) (oVal (.tmp 6) (kUn (fadA 0) (.tmp 1)) (oVal (.tmp 7) (kLoad none (.tmp 6)) (oVal (.tmp 8) (kInt aEql (.tmp 5) (.tmp 7)) (oVal (.tmp 3) (kMove (.tmp 8)) oNil))))))
theorem res76:Try.f76.results.toList=[.tmp 3]:=by kernel_rfl
def K76:K:=(kSeq (kRegion K76r0 [2,3]) (kSeq (kRegion K76r1 [3]) kRet))
theorem enter76 (cl:CallF) (a0 a1:AV) (s:St):enterA Try.prog X cl 76 [a0,a1] s Try.f76=finA Try.prog Try.f76 (K76 cl ⟨76,none,Try.f76.ntmps,X 76⟩ (paramsEnv 0 [a0,a1] .nil) [] s) :=
  enterA_eq (b:=Try.f76.body.getD .skip) (by kernel_rfl) (by kernel_rfl) (by kernel_rfl) (by kernel_rfl) (by kernel_rfl)
def K77r0:OpsF:=(oVal (.tmp 3) (kBox (tag 38) (.tmp 1)) (oVal (.tmp 4) (kMove (.con (.int .i64 0))) oNil))
def K77r1s9:OpsF:=(oVal (.tmp 14) (kPick (.tmp 9) (.tmp 13) (.con (.bool false))) (oCall (.tmp 15) (.con (.func 72 [] [])) [(.tmp 14),(.con (.int .i64 9))] (oVal (.tmp 4) (kMove (.tmp 15)) oNil)))
def K77r1s8:OpsF:=(oIf 9 true (oVal (.tmp 13) (kInt aLeq (.tmp 10) (.tmp 12)) K77r1s9) (oSkip (.tmp 13) K77r1s9))
def K77r1s7:OpsF:=(oIf 9 true (oVal (.tmp 12) (kLoad none (.tmp 11)) K77r1s8) (oSkip (.tmp 12) K77r1s8))
def K77r1s6:OpsF:=(oIf 9 true (oVal (.tmp 11) (kUn (fadA 1) (.tmp 3)) K77r1s7) (oSkip (.tmp 11) K77r1s7))
def K77r1:OpsF:=(oVal (.tmp 5) (kUn (fadA 0) (.tmp 3)) (oVal (.tmp 6) (kLoad none (.tmp 5)) (oVal (.tmp 7) (kMove (.tmp 0)) (oVal (.tmp 8) (kInt aLeq (.tmp 6) (.tmp 7)) (oVal (.tmp 9) (kMove (.tmp 8)) (oIf 9 true (oVal (.tmp 10) (kMove (.tmp 0)) K77r1s6) (oSkip (.tmp 10) K77r1s6)))))))
theorem res77:Try.f77.results.toList=[.tmp 4]:=by kernel_rfl
def K77:K:=(kSeq (kRegion K77r0 [3,4]) (kSeq (kRegion K77r1 [4]) kRet))
theorem enter77 (cl:CallF) (a0 a1:AV) (s:St):enterA Try.prog X cl 77 [a0,a1] s Try.f77=finA Try.prog Try.f77 (K77 cl ⟨77,none,Try.f77.ntmps,X 77⟩ (paramsEnv 0 [a0,a1] .nil) [] s) :=
  enterA_eq (b:=Try.f77.body.getD .skip) (by kernel_rfl) (by kernel_rfl) (by kernel_rfl) (by kernel_rfl) (by kernel_rfl)
def K75r0:OpsF:=(oVal (.tmp 4) (kMove (.con (.bool false))) oNil)
def K75r1:OpsF:=(oVal (.tmp 5) (kMove (.tmp 0)) (oVal (.tmp 6) (kMove (.tmp 1)) (oCall (.tmp 7) (.con (.func 78 [] [])) [(.tmp 5),(.tmp 6)] (oVal (.tmp 8) (kInt aGeq (.tmp 7) (.con (.int .i64 0))) (oVal (.tmp 4) (kMove (.tmp 8)) oNil)))))
theorem res75:Try.f75.results.toList=[.tmp 4]:=by kernel_rfl
def K75:K:=(kSeq (kRegion K75r0 [4]) (kSeq (kRegion K75r1 [4]) kRet))
theorem enter75 (cl:CallF) (a0 a1:AV) (s:St):enterA Try.prog X cl 75 [a0,a1] s Try.f75=finA Try.prog Try.f75 (K75 cl ⟨75,none,Try.f75.ntmps,X 75⟩ (paramsEnv 0 [a0,a1] .nil) [] s) :=
  enterA_eq (b:=Try.f75.body.getD .skip) (by kernel_rfl) (by kernel_rfl) (by kernel_rfl) (by kernel_rfl) (by kernel_rfl)
def K78r0:OpsF:=(oVal (.tmp 4) (kMove (.con (.int .i64 0))) oNil)
def K78r1:OpsF:=(oVal (.tmp 6) (kMove (.tmp 0)) (oVal (.tmp 7) (kUn lenSlA (.tmp 6)) (oVal (.tmp 8) (kMove (.con (.int .i64 0))) oNil)))
def K78r2:OpsF:=(oVal (.tmp 9) (kInt aLss (.tmp 8) (.tmp 7)) oNil)
def K78r3:OpsF:=(oVal (.tmp 10) (kMove (.tmp 8)) (oVal (.tmp 5) (kMove (.tmp 10)) oNil))
def K78r4:OpsF:=(oVal (.tmp 11) (kMove (.tmp 1)) (oVal (.tmp 12) (kMove (.tmp 0)) (oVal (.tmp 13) (kMove (.tmp 5)) (oVal (.tmp 14) (kTwo (ixsA 3) (.tmp 12) (.tmp 13)) (oVal (.tmp 15) (kLoad (some 3) (.tmp 14)) (oCall (.tmp 16) (.tmp 11) [(.tmp 15)] oNil))))))
def K78r5:OpsF:=(oVal (.tmp 17) (kMove (.tmp 5)) (oVal (.tmp 4) (kMove (.tmp 17)) oNil))
def K78r6:OpsF:=(oVal (.tmp 18) (kInt aAdd (.tmp 8) (.con (.int .i64 1))) (oVal (.tmp 8) (kMove (.tmp 18)) oNil))
def K78l0:K:=(kSeq (kRegion K78r2 [9]) (kSeq (kCond (.tmp 9) kSkip (kExit 0)) (kSeq (kBlock 1 (kSeq (kRegion K78r3 [5]) (kSeq (kRegion K78r4 [16]) (kCond (.tmp 16) (kSeq (kRegion K78r5 [4]) kRet) kSkip)))) (kRegion K78r6 [8]))))
def K78r7:OpsF:=(oVal (.tmp 4) (kMove (.con (.int .i64 (-1)))) oNil)
theorem res78:Try.f78.results.toList=[.tmp 4]:=by kernel_rfl
def K78:K:=(kSeq (kRegion K78r0 [4]) (kSeq (kSeq (kRegion K78r1 [7,8]) (kBlock 0 (kLoop K78l0))) (kSeq (kRegion K78r7 [4]) kRet)))
theorem enter78 (cl:CallF) (a0 a1:AV) (s:St):enterA Try.prog X cl 78 [a0,a1] s Try.f78=finA Try.prog Try.f78 (K78 cl ⟨78,none,Try.f78.ntmps,X 78⟩ (paramsEnv 0 [a0,a1] .nil) [] s) :=
  enterA_eq (b:=Try.f78.body.getD .skip) (by kernel_rfl) (by kernel_rfl) (by kernel_rfl) (by kernel_rfl) (by kernel_rfl)
end
end Go.Proofs.Ytamlnddeiokbdaa.code
set_option maxRecDepth 100000
namespace Go.Proofs.Ytamlnddeiokbdaa.code
open Go.Abs
noncomputable section
def K8r2:OpsF:=(oVal (.tmp 19) (kMove (.tmp 3)) (oCall (.tmp 20) (.con (.func 10 [] [])) [(.tmp 19),(.con (.int .i64 3)),(.con (.int .i64 3)),(.con (.int .i64 12))] (oVal (.tmp 4) (kAlloc [(.int .i64 0),(.int .i64 0),.nilslice] (tag 27)) (oVal .none (kStore 3 (.tmp 4) (.tmp 20)) oNil))))
def K8r3:OpsF:=(oVal (.tmp 21) (kMove (.tmp 3)) (oVal (.tmp 22) (kLoad (some 3) (.tmp 4)) (oCall (.tmp 23) (.con (.func 13 [] [])) [(.tmp 21),(.tmp 22)] (oVal (.tmp 5) (kMove (.tmp 23)) oNil))))
def K8r4:OpsF:=(oVal (.tmp 6) (kMove (.con .nilslice)) oNil)
def K8r5:OpsF:=(oVal (.tmp 7) (kMove (.con (.int .i64 0))) oNil)
def K8r6:OpsF:=(oVal (.tmp 24) (kMove (.tmp 7)) (oVal (.tmp 25) (kMove (.tmp 5)) (oVal (.tmp 26) (kUn lenSlA (.tmp 25)) (oVal (.tmp 27) (kInt aLss (.tmp 24) (.tmp 26)) oNil))))
def K8r7:OpsF:=(oEnd [] (oVal (.tmp 30) (kMove (.tmp 6)) (oVal (.tmp 31) (kMove (.tmp 7)) (oVal (.tmp 32) (kMove (.tmp 5)) (oVal (.tmp 33) (kMove (.tmp 7)) (oVal (.tmp 34) (kTwo (ixsA 2) (.tmp 32) (.tmp 33)) (oVal (.tmp 35) (kUn (fadA 0) (.tmp 34)) (oVal (.tmp 36) (kLoad none (.tmp 35)) (oVal (.tmp 37) (kMove (.tmp 5)) (oVal (.tmp 38) (kMove (.tmp 7)) (oVal (.tmp 39) (kTwo (ixsA 2) (.tmp 37) (.tmp 38)) (oVal (.tmp 40) (kUn (fadA 1) (.tmp 39)) (oVal (.tmp 41) (kLoad none (.tmp 40)) (oVal (.tmp 42) (kBuild [(.int .i64 0),(.int .i64 0),(.int .i64 0)] [(0,1,(.tmp 31)),(1,1,(.tmp 36)),(2,1,(.tmp 41))]) (oVal (.tmp 43) (kBuildSlice [(.int .i64 0),(.int .i64 0),(.int .i64 0)] 1 [(0,3,(.tmp 42))]) (oVal (.tmp 44) (kTwo (appendA false 3 24 (tag 66)) (.tmp 30) (.tmp 43)) (oVal (.tmp 6) (kMove (.tmp 44)) oNil)))))))))))))))))
def K8r8:OpsF:=(oVal (.tmp 28) (kMove (.tmp 7)) (oVal (.tmp 29) (kInt aAdd (.tmp 28) (.con (.int .i64 1))) (oVal (.tmp 7) (kMove (.tmp 29)) oNil)))
def K8l0:K:=(kSeq (kSeq (kRegion K8r6 [27]) (kCond (.tmp 27) kSkip (kExit 0))) (kSeq (kBlock 1 (kRegionD K8r7 [6])) (kRegion K8r8 [7])))
def K8r9:OpsF:=(oVal (.tmp 46) (kLoad (some 3) (.tmp 4)) (oVal (.tmp 47) (kMove (.tmp 6)) (oCall (.tmp 48) (.con (.func 27 [] [])) [(.tmp 46),(.tmp 47)] (oVal (.tmp 45) (kMove (.tmp 48)) (oVal (.tmp 49) (kUn (extA 0) (.tmp 45)) (oVal (.tmp 50) (kUn (extA 1) (.tmp 45)) (oVal .none (kStore 3 (.tmp 4) (.tmp 49)) (oVal (.tmp 8) (kMove (.tmp 50)) oNil))))))))
def K8r10s9:OpsF:=(oVal (.tmp 60) (kPick (.tmp 53) (.con (.bool true)) (.tmp 59)) oNil)
def K8r10s8:OpsF:=(oIf 53 false (oVal (.tmp 59) (kInt aNeq (.tmp 56) (.tmp 58)) K8r10s9) (oSkip (.tmp 59) K8r10s9))
def K8r10s7:OpsF:=(oIf 53 false (oVal (.tmp 58) (kUn lenSlA (.tmp 57)) K8r10s8) (oSkip (.tmp 58) K8r10s8))
def K8r10s6:OpsF:=(oIf 53 false (oVal (.tmp 57) (kMove (.tmp 5)) K8r10s7) (oSkip (.tmp 57) K8r10s7))
def K8r10s5:OpsF:=(oIf 53 false (oVal (.tmp 56) (kUn lenSlA (.tmp 55)) K8r10s6) (oSkip (.tmp 56) K8r10s6))
def K8r10s4:OpsF:=(oIf 53 false (oVal (.tmp 55) (kLoad none (.tmp 54)) K8r10s5) (oSkip (.tmp 55) K8r10s5))
def K8r10:OpsF:=(oVal (.tmp 51) (kMove (.tmp 8)) (oVal (.tmp 52) (kInt aNeq (.tmp 51) (.con (.int .i64 0))) (oVal (.tmp 53) (kMove (.tmp 52)) (oIf 53 false (oVal (.tmp 54) (kUn (fadA 2) (.tmp 4)) K8r10s4) (oSkip (.tmp 54) K8r10s4)))))
def K8r11:OpsF:=(oVal (.tmp 2) (kMove (.con (.bool false))) oNil)
def K8r12:OpsF:=(oVal (.tmp 9) (kMove (.con (.int .i64 0))) oNil)
def K8r13:OpsF:=(oVal (.tmp 61) (kMove (.tmp 9)) (oVal (.tmp 62) (kUn (fadA 1) (.tmp 4)) (oVal (.tmp 63) (kLoad none (.tmp 62)) (oVal (.tmp 64) (kInt aLss (.tmp 61) (.tmp 63)) oNil))))
def K8r14:OpsF:=(oVal (.tmp 68) (kLoad (some 3) (.tmp 4)) (oVal (.tmp 69) (kMove (.tmp 9)) (oCall (.tmp 70) (.con (.func 14 [] [])) [(.tmp 68),(.tmp 69)] (oVal (.tmp 67) (kMove (.tmp 70)) (oVal (.tmp 71) (kUn (extA 0) (.tmp 67)) (oVal (.tmp 72) (kUn (extA 1) (.tmp 67)) (oVal (.tmp 73) (kUn (extA 2) (.tmp 67)) (oVal (.tmp 11) (kAlloc [(.int .i64 0),(.int .i64 0)] (tag 38)) (oVal (.tmp 10) (kMove (.tmp 71)) (oVal .none (kStore 2 (.tmp 11) (.tmp 72)) (oVal (.tmp 12) (kMove (.tmp 73)) oNil)))))))))))
def K8r15:OpsF:=(oVal (.tmp 13) (kMove (.con (.int .i64 0))) (oVal (.tmp 14) (kMove (.con (.int .i64 0))) (oVal (.tmp 15) (kMove (.con (.int .i64 0))) oNil)))
def K8r16:OpsF:=(oVal (.tmp 16) (kMove (.con (.int .i64 0))) oNil)
def K8r17:OpsF:=(oVal (.tmp 74) (kMove (.tmp 16)) (oVal (.tmp 75) (kMove (.tmp 5)) (oVal (.tmp 76) (kUn lenSlA (.tmp 75)) (oVal (.tmp 77) (kInt aLss (.tmp 74) (.tmp 76)) oNil))))
def K8r18:OpsF:=(oVal (.tmp 80) (kUn (fadA 2) (.tmp 4)) (oVal (.tmp 81) (kLoad none (.tmp 80)) (oVal (.tmp 82) (kMove (.tmp 16)) (oVal (.tmp 83) (kTwo (ixsA 6) (.tmp 81) (.tmp 82)) (oVal (.tmp 84) (kUn (fadA 1) (.tmp 83)) (oVal (.tmp 85) (kLoad none (.tmp 84)) (oVal (.tmp 86) (kMove (.tmp 9)) (oVal (.tmp 87) (kInt aNeq (.tmp 85) (.tmp 86)) oNil))))))))
def K8r19:OpsF:=(oVal (.tmp 88) (kMove (.tmp 13)) (oVal (.tmp 89) (kMove (.tmp 5)) (oVal (.tmp 90) (kMove (.tmp 16)) (oVal (.tmp 91) (kTwo (ixsA 2) (.tmp 89) (.tmp 90)) (oVal (.tmp 92) (kUn (fadA 0) (.tmp 91)) (oVal (.tmp 93) (kLoad none (.tmp 92)) (oVal (.tmp 94) (kInt aAdd (.tmp 88) (.tmp 93)) (oVal (.tmp 13) (kMove (.tmp 94)) oNil))))))))
def K8r20:OpsF:=(oEnd [] (oVal (.tmp 95) (kMove (.tmp 5)) (oVal (.tmp 96) (kMove (.tmp 16)) (oVal (.tmp 97) (kTwo (ixsA 2) (.tmp 95) (.tmp 96)) (oVal (.tmp 98) (kUn (fadA 1) (.tmp 97)) (oVal (.tmp 99) (kLoad none (.tmp 98)) (oVal (.tmp 100) (kUn (fadA 0) (.tmp 11)) (oVal (.tmp 101) (kLoad none (.tmp 100)) (oVal (.tmp 102) (kInt aLeq (.tmp 99) (.tmp 101)) oNil)))))))))
def K8r21:OpsF:=(oVal (.tmp 103) (kMove (.tmp 14)) (oVal (.tmp 104) (kMove (.tmp 5)) (oVal (.tmp 105) (kMove (.tmp 16)) (oVal (.tmp 106) (kTwo (ixsA 2) (.tmp 104) (.tmp 105)) (oVal (.tmp 107) (kUn (fadA 0) (.tmp 106)) (oVal (.tmp 108) (kLoad none (.tmp 107)) (oVal (.tmp 109) (kInt aAdd (.tmp 103) (.tmp 108)) (oVal (.tmp 14) (kMove (.tmp 109)) oNil))))))))
def K8r22:OpsF:=(oEnd [] (oVal (.tmp 110) (kMove (.tmp 5)) (oVal (.tmp 111) (kMove (.tmp 16)) (oVal (.tmp 112) (kTwo (ixsA 2) (.tmp 110) (.tmp 111)) (oVal (.tmp 113) (kUn (fadA 1) (.tmp 112)) (oVal (.tmp 114) (kLoad none (.tmp 113)) (oVal (.tmp 115) (kUn (fadA 0) (.tmp 11)) (oVal (.tmp 116) (kLoad none (.tmp 115)) (oVal (.tmp 117) (kInt aLss (.tmp 114) (.tmp 116)) oNil)))))))))
def K8r23:OpsF:=(oVal (.tmp 118) (kMove (.tmp 15)) (oVal (.tmp 119) (kMove (.tmp 5)) (oVal (.tmp 120) (kMove (.tmp 16)) (oVal (.tmp 121) (kTwo (ixsA 2) (.tmp 119) (.tmp 120)) (oVal (.tmp 122) (kUn (fadA 0) (.tmp 121)) (oVal (.tmp 123) (kLoad none (.tmp 122)) (oVal (.tmp 124) (kInt aAdd (.tmp 118) (.tmp 123)) (oVal (.tmp 15) (kMove (.tmp 124)) oNil))))))))
def K8r24:OpsF:=(oVal (.tmp 78) (kMove (.tmp 16)) (oVal (.tmp 79) (kInt aAdd (.tmp 78) (.con (.int .i64 1))) (oVal (.tmp 16) (kMove (.tmp 79)) oNil)))
def K8l1:K:=(kSeq (kSeq (kRegion K8r17 [77]) (kCond (.tmp 77) kSkip (kExit 4))) (kSeq (kBlock 5 (kSeq (kSeq (kRegion K8r18 [87]) (kCond (.tmp 87) (kExit 5) kSkip)) (kSeq (kRegion K8r19 [13]) (kSeq (kSeq (kRegionD K8r20 [102]) (kCond (.tmp 102) (kRegion K8r21 [14]) kSkip)) (kSeq (kRegionD K8r22 [117]) (kCond (.tmp 117) (kRegion K8r23 [15]) kSkip)))))) (kRegion K8r24 [16])))
def K8r25s35:OpsF:=(oVal (.tmp 160) (kPick (.tmp 145) (.con (.bool true)) (.tmp 159)) oNil)
def K8r25s34:OpsF:=(oIf 145 false (oVal (.tmp 159) (kPick (.tmp 148) (.tmp 158) (.con (.bool false))) K8r25s35) (oSkip (.tmp 159) K8r25s35))
def K8r25s33:OpsF:=(oIf 148 true (oVal (.tmp 158) (kPick (.tmp 153) (.con (.bool true)) (.tmp 157)) K8r25s34) (oSkip (.tmp 158) K8r25s34))
def K8r25s32:OpsF:=(oIf 153 false (oVal (.tmp 157) (kInt aGeq (.tmp 155) (.tmp 156)) K8r25s33) (oSkip (.tmp 157) K8r25s33))
def K8r25s31:OpsF:=(oIf 153 false (oVal (.tmp 156) (kMove (.tmp 13)) K8r25s32) (oSkip (.tmp 156) K8r25s32))
def K8r25s30:OpsF:=(oIf 153 false (oVal (.tmp 155) (kInt aMul (.con (.int .i64 2)) (.tmp 154)) K8r25s31) (oSkip (.tmp 155) K8r25s31))
def K8r25s29:OpsF:=(oIf 153 false (oVal (.tmp 154) (kMove (.tmp 15)) K8r25s30) (oSkip (.tmp 154) K8r25s30))
def K8r25s28:OpsF:=(oIf 148 true (oVal (.tmp 153) (kMove (.tmp 152)) K8r25s29) (oSkip (.tmp 153) K8r25s29))
def K8r25s27:OpsF:=(oIf 148 true (oVal (.tmp 152) (kInt aLss (.tmp 150) (.tmp 151)) K8r25s28) (oSkip (.tmp 152) K8r25s28))
def K8r25s26:OpsF:=(oIf 148 true (oVal (.tmp 151) (kMove (.tmp 13)) K8r25s27) (oSkip (.tmp 151) K8r25s27))
def K8r25s25:OpsF:=(oIf 148 true (oVal (.tmp 150) (kInt aMul (.con (.int .i64 2)) (.tmp 149)) K8r25s26) (oSkip (.tmp 150) K8r25s26))
def K8r25s24:OpsF:=(oIf 148 true (oVal (.tmp 149) (kMove (.tmp 14)) K8r25s25) (oSkip (.tmp 149) K8r25s25))
def K8r25s23:OpsF:=(oIf 145 false (oVal (.tmp 148) (kMove (.tmp 147)) K8r25s24) (oSkip (.tmp 148) K8r25s24))
def K8r25s22:OpsF:=(oIf 145 false (oVal (.tmp 147) (kGtr (.tmp 146) (.con (.int .i64 0))) K8r25s23) (oSkip (.tmp 147) K8r25s23))
def K8r25s19:OpsF:=(oVal (.tmp 144) (kPick (.tmp 141) (.con (.bool true)) (.tmp 143)) (oVal (.tmp 145) (kMove (.tmp 144)) (oIf 145 false (oVal (.tmp 146) (kMove (.tmp 13)) K8r25s22) (oSkip (.tmp 146) K8r25s22))))
def K8r25s18:OpsF:=(oIf 141 false (oVal (.tmp 143) (kInt aEql (.tmp 142) (.con (.int .i64 3))) K8r25s19) (oSkip (.tmp 143) K8r25s19))
def K8r25s15:OpsF:=(oVal (.tmp 140) (kPick (.tmp 134) (.con (.bool true)) (.tmp 139)) (oVal (.tmp 141) (kMove (.tmp 140)) (oIf 141 false (oVal (.tmp 142) (kMove (.tmp 10)) K8r25s18) (oSkip (.tmp 142) K8r25s18))))
def K8r25s14:OpsF:=(oIf 134 false (oVal (.tmp 139) (kEql .bool true (.tmp 136) (.tmp 138)) K8r25s15) (oSkip (.tmp 139) K8r25s15))
def K8r25s13:OpsF:=(oIf 134 false (oVal (.tmp 138) (kInt aEql (.tmp 137) (.con (.int .i64 0))) K8r25s14) (oSkip (.tmp 138) K8r25s14))
def K8r25s12:OpsF:=(oIf 134 false (oVal (.tmp 137) (kMove (.tmp 13)) K8r25s13) (oSkip (.tmp 137) K8r25s13))
def K8r25s11:OpsF:=(oIf 134 false (oVal (.tmp 136) (kInt aEql (.tmp 135) (.con (.int .i64 2))) K8r25s12) (oSkip (.tmp 136) K8r25s12))
def K8r25s8:OpsF:=(oVal (.tmp 133) (kPick (.tmp 127) (.con (.bool true)) (.tmp 132)) (oVal (.tmp 134) (kMove (.tmp 133)) (oIf 134 false (oVal (.tmp 135) (kMove (.tmp 10)) K8r25s11) (oSkip (.tmp 135) K8r25s11))))
def K8r25s7:OpsF:=(oIf 127 false (oVal (.tmp 132) (kInt aNeq (.tmp 129) (.tmp 131)) K8r25s8) (oSkip (.tmp 132) K8r25s8))
def K8r25s6:OpsF:=(oIf 127 false (oVal (.tmp 131) (kLoad none (.tmp 130)) K8r25s7) (oSkip (.tmp 131) K8r25s7))
def K8r25s5:OpsF:=(oIf 127 false (oVal (.tmp 130) (kUn (fadA 1) (.tmp 11)) K8r25s6) (oSkip (.tmp 130) K8r25s6))
def K8r25s4:OpsF:=(oIf 127 false (oVal (.tmp 129) (kLoad none (.tmp 128)) K8r25s5) (oSkip (.tmp 129) K8r25s5))
def K8r25:OpsF:=(oVal (.tmp 125) (kMove (.tmp 12)) (oVal (.tmp 126) (kInt aNeq (.tmp 125) (.con (.int .i64 0))) (oVal (.tmp 127) (kMove (.tmp 126)) (oIf 127 false (oVal (.tmp 128) (kUn (fadA 0) (.tmp 11)) K8r25s4) (oSkip (.tmp 128) K8r25s4)))))
def K8r26:OpsF:=(oVal (.tmp 2) (kMove (.con (.bool false))) oNil)
def K8r27:OpsF:=(oVal (.tmp 65) (kMove (.tmp 9)) (oVal (.tmp 66) (kInt aAdd (.tmp 65) (.con (.int .i64 1))) (oVal (.tmp 9) (kMove (.tmp 66)) oNil)))
def K8l2:K:=(kSeq (kSeq (kRegion K8r13 [64]) (kCond (.tmp 64) kSkip (kExit 2))) (kSeq (kBlock 3 (kSeq (kRegion K8r14 [11,10,12]) (kSeq (kRegion K8r15 [13,14,15]) (kSeq (kSeq (kRegion K8r16 [16]) (kBlock 4 (kLoop K8l1))) (kSeq (kRegion K8r25 [160]) (kCond (.tmp 160) (kSeq (kRegion K8r26 [2]) kRet) kSkip)))))) (kRegion K8r27 [9])))
def K8r28:OpsF:=(oCall (.tmp 161) (.con (.func 20 [] [])) [] (oVal (.tmp 2) (kMove (.tmp 161)) oNil))
theorem res8:Try.f8.results.toList=[.tmp 2]:=by kernel_rfl
def K13r0:OpsF:=(oVal (.tmp 3) (kBox (tag 27) (.tmp 1)) (oVal (.tmp 4) (kMove (.con .nilslice)) oNil))
def K13r1:OpsF:=(oVal (.tmp 5) (kMove (.con .nilslice)) oNil)
def K13r2:OpsF:=(oVal (.tmp 6) (kMove (.con (.int .i64 0))) oNil)
def K13r3:OpsF:=(oVal (.tmp 7) (kMove (.tmp 6)) (oVal (.tmp 8) (kUn (fadA 2) (.tmp 3)) (oVal (.tmp 9) (kLoad none (.tmp 8)) (oVal (.tmp 10) (kUn lenSlA (.tmp 9)) (oVal (.tmp 11) (kInt aLss (.tmp 7) (.tmp 10)) oNil)))))
def K13r4:OpsF:=(oEnd [] (oVal (.tmp 14) (kMove (.tmp 5)) (oVal (.tmp 15) (kMove (.tmp 0)) (oVal (.tmp 16) (kUn (fadA 2) (.tmp 3)) (oVal (.tmp 17) (kLoad none (.tmp 16)) (oVal (.tmp 18) (kMove (.tmp 6)) (oVal (.tmp 19) (kTwo (ixsA 6) (.tmp 17) (.tmp 18)) (oVal (.tmp 20) (kUn (fadA 2) (.tmp 19)) (oVal (.tmp 21) (kLoad (some 2) (.tmp 20)) (oCallT (some [24,28]) (.tmp 22) (.con (.func 42 [] [])) [(.tmp 15),(.tmp 21)] (oVal (.tmp 23) (kMove (.tmp 0)) (oVal (.tmp 24) (kUn (fadA 2) (.tmp 3)) (oVal (.tmp 25) (kLoad none (.tmp 24)) (oVal (.tmp 26) (kMove (.tmp 6)) (oVal (.tmp 27) (kTwo (ixsA 6) (.tmp 25) (.tmp 26)) (oVal (.tmp 28) (kUn (fadA 4) (.tmp 27)) (oVal (.tmp 29) (kLoad (some 2) (.tmp 28)) (oCall (.tmp 30) (.con (.func 42 [] [])) [(.tmp 23),(.tmp 29)] (oVal (.tmp 31) (kBuild [(.int .i64 0),(.int .i64 0)] [(0,1,(.tmp 22)),(1,1,(.tmp 30))]) (oVal (.tmp 32) (kBuildSlice [(.int .i64 0),(.int .i64 0)] 1 [(0,2,(.tmp 31))]) (oVal (.tmp 33) (kTwo (appendA false 2 16 (tag 64)) (.tmp 14) (.tmp 32)) (oVal (.tmp 5) (kMove (.tmp 33)) oNil))))))))))))))))))))))
def K13r5:OpsF:=(oVal (.tmp 12) (kMove (.tmp 6)) (oVal (.tmp 13) (kInt aAdd (.tmp 12) (.con (.int .i64 1))) (oVal (.tmp 6) (kMove (.tmp 13)) oNil)))
def K13l0:K:=(kSeq (kSeq (kRegion K13r3 [11]) (kCond (.tmp 11) kSkip (kExit 0))) (kSeq (kBlock 1 (kRegionD K13r4 [5])) (kRegion K13r5 [6])))
def K13r6:OpsF:=(oVal (.tmp 34) (kMove (.tmp 5)) (oVal (.tmp 4) (kMove (.tmp 34)) oNil))
theorem res13:Try.f13.results.toList=[.tmp 4]:=by kernel_rfl
def K13:K:=(kSeq (kRegion K13r0 [3,4]) (kSeq (kRegion K13r1 [5]) (kSeq (kSeq (kRegion K13r2 [6]) (kBlock 0 (kLoop K13l0))) (kSeq (kRegion K13r6 [4]) kRet))))
theorem enter13 (cl:CallF) (a0 a1:AV) (s:St):enterA Try.prog X cl 13 [a0,a1] s Try.f13=finA Try.prog Try.f13 (K13 cl ⟨13,none,Try.f13.ntmps,X 13⟩ (paramsEnv 0 [a0,a1] .nil) [] s) :=
  enterA_eq (b:=Try.f13.body.getD .skip) (by kernel_rfl) (by kernel_rfl) (by kernel_rfl) (by kernel_rfl) (by kernel_rfl)
end
end Go.Proofs.Ytamlnddeiokbdaa.code
set_option maxRecDepth 100000
namespace Go.Proofs.Ytamlnddeiokbdaa.code
open Go.Abs
noncomputable section
end
end Go.Proofs.Ytamlnddeiokbdaa.code
