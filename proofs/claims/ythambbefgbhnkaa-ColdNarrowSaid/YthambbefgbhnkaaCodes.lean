/- The code of functions as the interpreter has it, region by region. -/
import Derived.Test.YthambbefgbhnkaaAbsTab
import Derived.Test.YthambbefgbhnkaaAbsWalk
import Derived.KernelRfl
set_option maxRecDepth 100000
namespace Go.Proofs.Ythambbefgbhnkaa.code
open Go.Abs
noncomputable section
def K43r0 : OpsF := (oVal (.tmp 2) (kMove (.con (.int .i64 0))) oNil)
def K43r1 : OpsF := (oVal (.tmp 3) (kMove (.con (.int .i64 0))) oNil)
def K43r2 : OpsF := (oVal (.tmp 6) (kMove (.tmp 0)) (oVal (.tmp 7) (kUn lenSlA (.tmp 6)) (oVal (.tmp 8) (kMove (.con (.int .i64 0))) oNil)))
def K43r3 : OpsF := (oVal (.tmp 9) (kInt aLss (.tmp 8) (.tmp 7)) oNil)
def K43r4 : OpsF := (oVal (.tmp 10) (kTwo (ixsA 1) (.tmp 6) (.tmp 8)) (oVal (.tmp 11) (kLoad none (.tmp 10)) (oVal (.tmp 5) (kMove (.tmp 11)) oNil)))
def K43r5 : OpsF := (oVal (.tmp 12) (kMove (.tmp 5)) (oVal (.tmp 13) (kMove (.tmp 3)) (oVal (.tmp 14) (kInt aNeq (.tmp 12) (.tmp 13)) oNil)))
def K43r6 : OpsF := (oVal (.tmp 15) (kMove (.tmp 5)) (oVal (.tmp 2) (kMove (.tmp 15)) oNil))
def K43r7 : OpsF := (oVal (.tmp 16) (kInt aAdd (.tmp 8) (.con (.int .i64 1))) (oVal (.tmp 8) (kMove (.tmp 16)) oNil))
def K43l0 : K := (kSeq (kRegion K43r3 [9]) (kSeq (kCond (.tmp 9) kSkip (kExit 0)) (kSeq (kBlock 1 (kSeq (kRegion K43r4 [5]) (kSeq (kRegion K43r5 [14]) (kCond (.tmp 14) (kSeq (kRegion K43r6 [2]) kRet) kSkip)))) (kRegion K43r7 [8]))))
def K43r8 : OpsF := (oVal (.tmp 17) (kMove (.tmp 3)) (oVal (.tmp 2) (kMove (.tmp 17)) oNil))
theorem res43 : Try.f43.results.toList = [.tmp 2] := by kernel_rfl
def K43 : K := (kSeq (kRegion K43r0 [2]) (kSeq (kRegion K43r1 [3]) (kSeq (kSeq (kRegion K43r2 [6, 7, 8]) (kBlock 0 (kLoop K43l0))) (kSeq (kRegion K43r8 [2]) kRet))))
theorem enter43 (cl : CallF) (a0 : AV) (s : St) : enterA Try.prog X cl 43 [a0] s Try.f43 = finA Try.prog Try.f43 (K43 cl ⟨43, none, Try.f43.ntmps, X 43⟩ (paramsEnv 0 [a0] .nil) [] s) :=
  enterA_eq (b := Try.f43.body.getD .skip) (by kernel_rfl) (by kernel_rfl) (by kernel_rfl) (by kernel_rfl) (by kernel_rfl)
def K65r0 : OpsF := (oVal (.tmp 6) (kMove (.con (.int .i64 0))) oNil)
def K65r1 : OpsF := (oVal (.tmp 8) (kMove (.tmp 0)) (oVal (.tmp 9) (kMove (.tmp 1)) (oVal (.tmp 10) (kInt aLss (.tmp 8) (.tmp 9)) (oVal (.tmp 7) (kMove (.tmp 10)) oNil))))
def K65r2 : OpsF := (oVal (.tmp 6) (kMove (.con (.int .i64 7))) oNil)
def K65r3 : OpsF := (oVal (.tmp 12) (kMove (.tmp 0)) (oVal (.tmp 13) (kMove (.tmp 2)) (oVal (.tmp 14) (kGtr (.tmp 12) (.tmp 13)) (oVal (.tmp 11) (kMove (.tmp 14)) oNil))))
def K65r4 : OpsF := (oVal (.tmp 6) (kMove (.con (.int .i64 6))) oNil)
def K65r5 : OpsF := (oVal (.tmp 6) (kMove (.con (.int .i64 0))) oNil)
theorem res65 : Try.f65.results.toList = [.tmp 6] := by kernel_rfl
def K65 : K := (kSeq (kRegion K65r0 [6]) (kSeq (kBlock 0 (kSeq (kRegion K65r1 [7]) (kCond (.tmp 7) (kSeq (kRegion K65r2 [6]) kRet) (kSeq (kRegion K65r3 [11]) (kCond (.tmp 11) (kSeq (kRegion K65r4 [6]) kRet) kSkip))))) (kSeq (kRegion K65r5 [6]) kRet)))
theorem enter65 (cl : CallF) (a0 a1 a2 : AV) (s : St) : enterA Try.prog X cl 65 [a0, a1, a2] s Try.f65 = finA Try.prog Try.f65 (K65 cl ⟨65, none, Try.f65.ntmps, X 65⟩ (paramsEnv 0 [a0, a1, a2] .nil) [] s) :=
  enterA_eq (b := Try.f65.body.getD .skip) (by kernel_rfl) (by kernel_rfl) (by kernel_rfl) (by kernel_rfl) (by kernel_rfl)
def K82r0 : OpsF := (oVal (.tmp 4) (kMove (.con (.int .i64 0))) oNil)
def K82r1s6 : OpsF := (oVal (.tmp 11) (kPick (.tmp 7) (.con (.bool true)) (.tmp 10)) oNil)
def K82r1s5 : OpsF := (oIf 7 false (oVal (.tmp 10) (kInt aGeq (.tmp 8) (.tmp 9)) K82r1s6) (oSkip (.tmp 10) K82r1s6))
def K82r1s4 : OpsF := (oIf 7 false (oVal (.tmp 9) (kMove (.tmp 1)) K82r1s5) (oSkip (.tmp 9) K82r1s5))
def K82r1 : OpsF := (oVal (.tmp 5) (kMove (.tmp 0)) (oVal (.tmp 6) (kInt aLss (.tmp 5) (.con (.int .i64 0))) (oVal (.tmp 7) (kMove (.tmp 6)) (oIf 7 false (oVal (.tmp 8) (kMove (.tmp 0)) K82r1s4) (oSkip (.tmp 8) K82r1s4)))))
def K82r2 : OpsF := (oVal (.tmp 4) (kMove (.con (.int .i64 3))) oNil)
def K82r3 : OpsF := (oVal (.tmp 4) (kMove (.con (.int .i64 0))) oNil)
theorem res82 : Try.f82.results.toList = [.tmp 4] := by kernel_rfl
def K82 : K := (kSeq (kRegion K82r0 [4]) (kSeq (kSeq (kRegion K82r1 [11]) (kCond (.tmp 11) (kSeq (kRegion K82r2 [4]) kRet) kSkip)) (kSeq (kRegion K82r3 [4]) kRet)))
theorem enter82 (cl : CallF) (a0 a1 : AV) (s : St) : enterA Try.prog X cl 82 [a0, a1] s Try.f82 = finA Try.prog Try.f82 (K82 cl ⟨82, none, Try.f82.ntmps, X 82⟩ (paramsEnv 0 [a0, a1] .nil) [] s) :=
  enterA_eq (b := Try.f82.body.getD .skip) (by kernel_rfl) (by kernel_rfl) (by kernel_rfl) (by kernel_rfl) (by kernel_rfl)
def K95r0 : OpsF := (oVal (.tmp 3) (kBox (tag 26) (.tmp 0)) (oVal (.tmp 6) (kMove (.con (.int .i64 0))) oNil))
def K95r1 : OpsF := (oEnd [] (oVal (.tmp 8) (kUn (fadA 0) (.tmp 3)) (oVal (.tmp 9) (kLoad none (.tmp 8)) (oVal (.tmp 10) (kMove (.tmp 1)) (oVal (.tmp 11) (kMove (.tmp 2)) (oCallT (some [13]) (.tmp 12) (.con (.func 45 [] [])) [(.tmp 9), (.tmp 10), (.tmp 11)] (oVal (.tmp 13) (kUn (fadA 1) (.tmp 3)) (oVal (.tmp 14) (kLoad none (.tmp 13)) (oVal (.tmp 15) (kMove (.tmp 1)) (oVal (.tmp 16) (kMove (.tmp 2)) (oCall (.tmp 17) (.con (.func 45 [] [])) [(.tmp 14), (.tmp 15), (.tmp 16)] (oVal (.tmp 18) (kBuildSlice [(.int .i64 0), (.int .i64 0)] 2 [(0, 1, (.tmp 12)), (1, 1, (.tmp 17))]) (oCall (.tmp 19) (.con (.func 43 [] [])) [(.tmp 18)] (oVal (.tmp 7) (kMove (.tmp 19)) oNil))))))))))))))
def K95r2 : OpsF := (oVal (.tmp 20) (kMove (.tmp 7)) (oVal (.tmp 21) (kInt aNeq (.tmp 20) (.con (.int .i64 0))) oNil))
def K95r3 : OpsF := (oVal (.tmp 22) (kMove (.tmp 7)) (oVal (.tmp 6) (kMove (.tmp 22)) oNil))
def K95r4 : OpsF := (oVal (.tmp 23) (kUn (fadA 0) (.tmp 3)) (oVal (.tmp 24) (kLoad none (.tmp 23)) (oVal (.tmp 25) (kUn (fadA 1) (.tmp 3)) (oVal (.tmp 26) (kLoad none (.tmp 25)) (oVal (.tmp 27) (kGtr (.tmp 24) (.tmp 26)) oNil)))))
def K95r5 : OpsF := (oVal (.tmp 6) (kMove (.con (.int .i64 5))) oNil)
def K95r6 : OpsF := (oVal (.tmp 6) (kMove (.con (.int .i64 0))) oNil)
theorem res95 : Try.f95.results.toList = [.tmp 6] := by kernel_rfl
def K95 : K := (kSeq (kRegion K95r0 [3, 6]) (kSeq (kSeq (kRegionD K95r1 [7]) (kSeq (kRegion K95r2 [21]) (kCond (.tmp 21) (kSeq (kRegion K95r3 [6]) kRet) kSkip))) (kSeq (kSeq (kRegion K95r4 [27]) (kCond (.tmp 27) (kSeq (kRegion K95r5 [6]) kRet) kSkip)) (kSeq (kRegion K95r6 [6]) kRet))))
theorem enter95 (cl : CallF) (a0 a1 a2 : AV) (s : St) : enterA Try.prog X cl 95 [a0, a1, a2] s Try.f95 = finA Try.prog Try.f95 (K95 cl ⟨95, none, Try.f95.ntmps, X 95⟩ (paramsEnv 0 [a0, a1, a2] .nil) [] s) :=
  enterA_eq (b := Try.f95.body.getD .skip) (by kernel_rfl) (by kernel_rfl) (by kernel_rfl) (by kernel_rfl) (by kernel_rfl)
def K46r0 : OpsF := (oVal (.tmp 4) (kMove (.con (.int .i64 0))) oNil)
def K46r1 : OpsF := (oVal (.tmp 5) (kMove (.tmp 0)) oNil)
def K46r2 : OpsF := (oVal (.tmp 4) (kMove (.con (.int .i64 0))) oNil)
def K46r3 : OpsF := (oVal (.tmp 6) (kMove (.tmp 1)) (oVal (.tmp 4) (kMove (.tmp 6)) oNil))
theorem res46 : Try.f46.results.toList = [.tmp 4] := by kernel_rfl
def K46 : K := (kSeq (kRegion K46r0 [4]) (kSeq (kSeq (kRegion K46r1 [5]) (kCond (.tmp 5) (kSeq (kRegion K46r2 [4]) kRet) kSkip)) (kSeq (kRegion K46r3 [4]) kRet)))
theorem enter46 (cl : CallF) (a0 a1 : AV) (s : St) : enterA Try.prog X cl 46 [a0, a1] s Try.f46 = finA Try.prog Try.f46 (K46 cl ⟨46, none, Try.f46.ntmps, X 46⟩ (paramsEnv 0 [a0, a1] .nil) [] s) :=
  enterA_eq (b := Try.f46.body.getD .skip) (by kernel_rfl) (by kernel_rfl) (by kernel_rfl) (by kernel_rfl) (by kernel_rfl)
def K45r0 : OpsF := (oVal (.tmp 6) (kMove (.con (.int .i64 0))) oNil)
def K45r1s7 : OpsF := (oVal (.tmp 14) (kPick (.tmp 10) (.con (.bool true)) (.tmp 13)) oNil)
def K45r1s6 : OpsF := (oIf 10 false (oVal (.tmp 13) (kGtr (.tmp 11) (.tmp 12)) K45r1s7) (oSkip (.tmp 13) K45r1s7))
def K45r1s5 : OpsF := (oIf 10 false (oVal (.tmp 12) (kMove (.tmp 2)) K45r1s6) (oSkip (.tmp 12) K45r1s6))
def K45r1 : OpsF := (oVal (.tmp 7) (kMove (.tmp 0)) (oVal (.tmp 8) (kMove (.tmp 1)) (oVal (.tmp 9) (kInt aLss (.tmp 7) (.tmp 8)) (oVal (.tmp 10) (kMove (.tmp 9)) (oIf 10 false (oVal (.tmp 11) (kMove (.tmp 0)) K45r1s5) (oSkip (.tmp 11) K45r1s5))))))
def K45r2 : OpsF := (oVal (.tmp 6) (kMove (.con (.int .i64 1))) oNil)
def K45r3 : OpsF := (oVal (.tmp 6) (kMove (.con (.int .i64 0))) oNil)
theorem res45 : Try.f45.results.toList = [.tmp 6] := by kernel_rfl
def K45 : K := (kSeq (kRegion K45r0 [6]) (kSeq (kSeq (kRegion K45r1 [14]) (kCond (.tmp 14) (kSeq (kRegion K45r2 [6]) kRet) kSkip)) (kSeq (kRegion K45r3 [6]) kRet)))
theorem enter45 (cl : CallF) (a0 a1 a2 : AV) (s : St) : enterA Try.prog X cl 45 [a0, a1, a2] s Try.f45 = finA Try.prog Try.f45 (K45 cl ⟨45, none, Try.f45.ntmps, X 45⟩ (paramsEnv 0 [a0, a1, a2] .nil) [] s) :=
  enterA_eq (b := Try.f45.body.getD .skip) (by kernel_rfl) (by kernel_rfl) (by kernel_rfl) (by kernel_rfl) (by kernel_rfl)
def K53r0 : OpsF := (oVal (.tmp 1) (kBox (tag 31) (.tmp 0)) (oVal (.tmp 2) (kMove (.con (.int .i64 0))) oNil))
def K53r1 : OpsF := (oEnd [] (oVal (.tmp 3) (kUn (fadA 0) (.tmp 1)) (oVal (.tmp 4) (kLoad (some 2) (.tmp 3)) (oCallT (some [6, 1, 11]) (.tmp 5) (.con (.func 78 [] [])) [(.tmp 4)] (oVal (.tmp 6) (kUn (fadA 2) (.tmp 1)) (oVal (.tmp 7) (kLoad none (.tmp 6)) (oCallT (some [1, 11]) (.tmp 8) (.con (.func 79 [] [])) [(.tmp 7)] (oVal (.tmp 9) (kLoad (some 5) (.tmp 1)) (oCallT (some [11]) (.tmp 10) (.con (.func 80 [] [])) [(.tmp 9)] (oVal (.tmp 11) (kUn (fadA 4) (.tmp 1)) (oVal (.tmp 12) (kLoad none (.tmp 11)) (oCall (.tmp 13) (.con (.func 81 [] [])) [(.tmp 12)] (oVal (.tmp 14) (kBuildSlice [(.int .i64 0), (.int .i64 0), (.int .i64 0), (.int .i64 0)] 4 [(0, 1, (.tmp 5)), (1, 1, (.tmp 8)), (2, 1, (.tmp 10)), (3, 1, (.tmp 13))]) (oCall (.tmp 15) (.con (.func 43 [] [])) [(.tmp 14)] (oVal (.tmp 2) (kMove (.tmp 15)) oNil)))))))))))))))
theorem res53 : Try.f53.results.toList = [.tmp 2] := by kernel_rfl
def K53 : K := (kSeq (kRegion K53r0 [1, 2]) (kSeq (kRegionD K53r1 [2]) kRet))
theorem enter53 (cl : CallF) (a0 : AV) (s : St) : enterA Try.prog X cl 53 [a0] s Try.f53 = finA Try.prog Try.f53 (K53 cl ⟨53, none, Try.f53.ntmps, X 53⟩ (paramsEnv 0 [a0] .nil) [] s) :=
  enterA_eq (b := Try.f53.body.getD .skip) (by kernel_rfl) (by kernel_rfl) (by kernel_rfl) (by kernel_rfl) (by kernel_rfl)
def K44r0 : OpsF := (oVal (.tmp 2) (kBox (tag 31) (.tmp 0)) (oVal (.tmp 3) (kBox (tag 35) (.tmp 1)) (oVal (.tmp 4) (kMove (.con (.int .i64 0))) oNil)))
def K44r1 : OpsF := (oEnd [] (oVal (.tmp 5) (kLoad (some 5) (.tmp 2)) (oCallT (some [2, 3]) (.tmp 6) (.con (.func 53 [] [])) [(.tmp 5)] (oVal (.tmp 7) (kLoad (some 5) (.tmp 2)) (oVal (.tmp 8) (kLoad (some 3) (.tmp 3)) (oCall (.tmp 9) (.con (.func 71 [] [])) [(.tmp 7), (.tmp 8)] (oVal (.tmp 10) (kBuildSlice [(.int .i64 0), (.int .i64 0)] 2 [(0, 1, (.tmp 6)), (1, 1, (.tmp 9))]) (oCall (.tmp 11) (.con (.func 43 [] [])) [(.tmp 10)] (oVal (.tmp 4) (kMove (.tmp 11)) oNil)))))))))
theorem res44 : Try.f44.results.toList = [.tmp 4] := by kernel_rfl
def K44 : K := (kSeq (kRegion K44r0 [2, 3, 4]) (kSeq (kRegionD K44r1 [4]) kRet))
theorem enter44 (cl : CallF) (a0 a1 : AV) (s : St) : enterA Try.prog X cl 44 [a0, a1] s Try.f44 = finA Try.prog Try.f44 (K44 cl ⟨44, none, Try.f44.ntmps, X 44⟩ (paramsEnv 0 [a0, a1] .nil) [] s) :=
  enterA_eq (b := Try.f44.body.getD .skip) (by kernel_rfl) (by kernel_rfl) (by kernel_rfl) (by kernel_rfl) (by kernel_rfl)
def K54r0 : OpsF := (oVal (.tmp 2) (kBox (tag 31) (.tmp 0)) (oVal (.tmp 4) (kMove (.con (.int .i64 0))) oNil))
def K54r1 : OpsF := (oVal (.tmp 5) (kMove (.tmp 1)) (oVal (.tmp 6) (kUn (fadA 2) (.tmp 2)) (oVal (.tmp 7) (kLoad none (.tmp 6)) (oVal (.tmp 8) (kUn lenSlA (.tmp 7)) (oCall (.tmp 9) (.con (.func 82 [] [])) [(.tmp 5), (.tmp 8)] (oVal (.tmp 4) (kMove (.tmp 9)) oNil))))))
theorem res54 : Try.f54.results.toList = [.tmp 4] := by kernel_rfl
def K54 : K := (kSeq (kRegion K54r0 [2, 4]) (kSeq (kRegion K54r1 [4]) kRet))
theorem enter54 (cl : CallF) (a0 a1 : AV) (s : St) : enterA Try.prog X cl 54 [a0, a1] s Try.f54 = finA Try.prog Try.f54 (K54 cl ⟨54, none, Try.f54.ntmps, X 54⟩ (paramsEnv 0 [a0, a1] .nil) [] s) :=
  enterA_eq (b := Try.f54.body.getD .skip) (by kernel_rfl) (by kernel_rfl) (by kernel_rfl) (by kernel_rfl) (by kernel_rfl)
def K79r0 : OpsF := (oVal (.tmp 2) (kMove (.con (.int .i64 0))) oNil)
def K79r1 : OpsF := (oVal (.tmp 7) (kMove (.tmp 0)) (oVal (.tmp 8) (kUn lenSlA (.tmp 7)) (oCall (.tmp 9) (.con (.func 65 [] [])) [(.tmp 8), (.con (.int .i64 0)), (.con (.int .i64 6))] (oVal (.tmp 3) (kMove (.tmp 9)) oNil))))
def K79r2 : OpsF := (oVal (.tmp 10) (kMove (.tmp 3)) (oVal (.tmp 11) (kInt aNeq (.tmp 10) (.con (.int .i64 0))) oNil))
def K79r3 : OpsF := (oVal (.tmp 12) (kMove (.tmp 3)) (oVal (.tmp 2) (kMove (.tmp 12)) oNil))
def K79r4 : OpsF := (oVal (.tmp 13) (kMove (.tmp 0)) (oVal (.tmp 14) (kUn lenSlA (.tmp 13)) (oVal (.tmp 15) (kMove (.con (.int .i64 0))) oNil)))
def K79r5 : OpsF := (oVal (.tmp 16) (kInt aLss (.tmp 15) (.tmp 14)) oNil)
def K79r6 : OpsF := (oVal (.tmp 17) (kTwo (ixsA 9) (.tmp 13) (.tmp 15)) (oVal (.tmp 18) (kLoad (some 9) (.tmp 17)) (oVal (.tmp 5) (kAlloc [(.int .i64 0), (.int .i64 0), (.int .i64 0), (.int .i64 0), (.int .i64 0), (.int .i64 0), (.int .i64 0), (.int .i64 0), (.int .i64 0)] (tag 79)) (oVal .none (kStore 9 (.tmp 5) (.tmp 18)) oNil))))
def K79r7 : OpsF := (oEnd [] (oVal (.tmp 19) (kUn (fadA 0) (.tmp 5)) (oVal (.tmp 20) (kLoad none (.tmp 19)) (oCallT (some [22, 24, 27, 30, 33, 37, 40]) (.tmp 21) (.con (.func 45 [] [])) [(.tmp 20), (.con (.int .i64 0)), (.con (.int .i64 100000))] (oVal (.tmp 22) (kUn (fadA 1) (.tmp 5)) (oVal (.tmp 23) (kLoad (some 2) (.tmp 22)) (oVal (.tmp 24) (kUn (fadA 0) (.tmp 5)) (oVal (.tmp 25) (kLoad none (.tmp 24)) (oCallT (some [27, 30, 33, 37, 40]) (.tmp 26) (.con (.func 95 [] [])) [(.tmp 23), (.con (.int .i64 0)), (.tmp 25)] (oVal (.tmp 27) (kUn (fadA 3) (.tmp 5)) (oVal (.tmp 28) (kLoad (some 2) (.tmp 27)) (oCallT (some [30, 33, 37, 40]) (.tmp 29) (.con (.func 95 [] [])) [(.tmp 28), (.con (.int .i64 0)), (.con (.int .i64 100000))] (oVal (.tmp 30) (kUn (fadA 5) (.tmp 5)) (oVal (.tmp 31) (kLoad (some 2) (.tmp 30)) (oCallT (some [33, 37, 40]) (.tmp 32) (.con (.func 78 [] [])) [(.tmp 31)] (oVal (.tmp 33) (kUn (fadA 7) (.tmp 5)) (oVal (.tmp 34) (kLoad (some 2) (.tmp 33)) (oCallT (some [37, 40]) (.tmp 35) (.con (.func 78 [] [])) [(.tmp 34)] (oVal (.tmp 36) (kUn (fadA 5) (.tmp 5)) (oVal (.tmp 37) (kUn (fadA 1) (.tmp 36)) (oVal (.tmp 38) (kLoad none (.tmp 37)) (oVal (.tmp 39) (kUn (fadA 7) (.tmp 5)) (oVal (.tmp 40) (kUn (fadA 0) (.tmp 39)) (oVal (.tmp 41) (kLoad none (.tmp 40)) (oVal (.tmp 42) (kInt aLeq (.tmp 38) (.tmp 41)) (oCall (.tmp 43) (.con (.func 46 [] [])) [(.tmp 42), (.con (.int .i64 9))] (oVal (.tmp 44) (kBuildSlice [(.int .i64 0), (.int .i64 0), (.int .i64 0), (.int .i64 0), (.int .i64 0), (.int .i64 0)] 6 [(0, 1, (.tmp 21)), (1, 1, (.tmp 26)), (2, 1, (.tmp 29)), (3, 1, (.tmp 32)), (4, 1, (.tmp 35)), (5, 1, (.tmp 43))]) (oCall (.tmp 45) (.con (.func 43 [] [])) [(.tmp 44)] (oVal (.tmp 6) (kMove (.tmp 45)) oNil)))))))))))))))))))))))))))))
def K79r8 : OpsF := (oVal (.tmp 46) (kMove (.tmp 6)) (oVal (.tmp 47) (kInt aNeq (.tmp 46) (.con (.int .i64 0))) oNil))
def K79r9 : OpsF := (oVal (.tmp 48) (kMove (.tmp 6)) (oVal (.tmp 2) (kMove (.tmp 48)) oNil))
def K79r10 : OpsF := (oVal (.tmp 49) (kInt aAdd (.tmp 15) (.con (.int .i64 1))) (oVal (.tmp 15) (kMove (.tmp 49)) oNil))
def K79l0 : K := (kSeq (kRegion K79r5 [16]) (kSeq (kCond (.tmp 16) kSkip (kExit 0)) (kSeq (kBlock 1 (kSeq (kRegion K79r6 [5]) (kSeq (kRegionD K79r7 [6]) (kSeq (kRegion K79r8 [47]) (kCond (.tmp 47) (kSeq (kRegion K79r9 [2]) kRet) kSkip))))) (kRegion K79r10 [15]))))
def K79r11 : OpsF := (oVal (.tmp 2) (kMove (.con (.int .i64 0))) oNil)
theorem res79 : Try.f79.results.toList = [.tmp 2] := by kernel_rfl
def K79 : K := (kSeq (kRegion K79r0 [2]) (kSeq (kSeq (kRegion K79r1 [3]) (kSeq (kRegion K79r2 [11]) (kCond (.tmp 11) (kSeq (kRegion K79r3 [2]) kRet) kSkip))) (kSeq (kSeq (kRegion K79r4 [13, 14, 15]) (kBlock 0 (kLoop K79l0))) (kSeq (kRegion K79r11 [2]) kRet))))
theorem enter79 (cl : CallF) (a0 : AV) (s : St) : enterA Try.prog X cl 79 [a0] s Try.f79 = finA Try.prog Try.f79 (K79 cl ⟨79, none, Try.f79.ntmps, X 79⟩ (paramsEnv 0 [a0] .nil) [] s) :=
  enterA_eq (b := Try.f79.body.getD .skip) (by kernel_rfl) (by kernel_rfl) (by kernel_rfl) (by kernel_rfl) (by kernel_rfl)
def K80r0 : OpsF := (oVal (.tmp 1) (kBox (tag 31) (.tmp 0)) (oVal (.tmp 2) (kMove (.con (.int .i64 0))) oNil))
def K80r1 : OpsF := (oVal (.tmp 8) (kUn (fadA 3) (.tmp 1)) (oVal (.tmp 9) (kLoad none (.tmp 8)) (oVal (.tmp 10) (kUn lenSlA (.tmp 9)) (oCall (.tmp 11) (.con (.func 65 [] [])) [(.tmp 10), (.con (.int .i64 0)), (.con (.int .i64 20))] (oVal (.tmp 3) (kMove (.tmp 11)) oNil)))))
def K80r2 : OpsF := (oVal (.tmp 12) (kMove (.tmp 3)) (oVal (.tmp 13) (kInt aNeq (.tmp 12) (.con (.int .i64 0))) oNil))
def K80r3 : OpsF := (oVal (.tmp 14) (kMove (.tmp 3)) (oVal (.tmp 2) (kMove (.tmp 14)) oNil))
def K80r4 : OpsF := (oVal (.tmp 4) (kMove (.con (.int .i64 0))) oNil)
def K80r5 : OpsF := (oVal (.tmp 15) (kUn (fadA 3) (.tmp 1)) (oVal (.tmp 16) (kLoad none (.tmp 15)) (oVal (.tmp 17) (kUn lenSlA (.tmp 16)) (oVal (.tmp 18) (kMove (.con (.int .i64 0))) oNil))))
def K80r6 : OpsF := (oVal (.tmp 19) (kInt aLss (.tmp 18) (.tmp 17)) oNil)
def K80r7 : OpsF := (oVal (.tmp 20) (kTwo (ixsA 3) (.tmp 16) (.tmp 18)) (oVal (.tmp 21) (kLoad (some 3) (.tmp 20)) (oVal (.tmp 6) (kAlloc [(.int .i64 0), (.int .i64 0), (.int .i64 0)] (tag 87)) (oVal .none (kStore 3 (.tmp 6) (.tmp 21)) oNil))))
def K80r8 : OpsF := (oEnd [] (oVal (.tmp 22) (kLoad (some 5) (.tmp 1)) (oVal (.tmp 23) (kUn (fadA 0) (.tmp 6)) (oVal (.tmp 24) (kLoad none (.tmp 23)) (oCallT (some [26, 29, 32]) (.tmp 25) (.con (.func 54 [] [])) [(.tmp 22), (.tmp 24)] (oVal (.tmp 26) (kUn (fadA 1) (.tmp 6)) (oVal (.tmp 27) (kLoad none (.tmp 26)) (oCallT (some [29, 32]) (.tmp 28) (.con (.func 55 [] [])) [(.tmp 27)] (oVal (.tmp 29) (kUn (fadA 2) (.tmp 6)) (oVal (.tmp 30) (kLoad none (.tmp 29)) (oCallT (some [32]) (.tmp 31) (.con (.func 45 [] [])) [(.tmp 30), (.con (.int .i64 0)), (.con (.int .i64 100000))] (oVal (.tmp 32) (kUn (fadA 1) (.tmp 6)) (oVal (.tmp 33) (kLoad none (.tmp 32)) (oVal (.tmp 34) (kMove (.tmp 4)) (oVal (.tmp 35) (kInt aGeq (.tmp 33) (.tmp 34)) (oCall (.tmp 36) (.con (.func 46 [] [])) [(.tmp 35), (.con (.int .i64 5))] (oVal (.tmp 37) (kBuildSlice [(.int .i64 0), (.int .i64 0), (.int .i64 0), (.int .i64 0)] 4 [(0, 1, (.tmp 25)), (1, 1, (.tmp 28)), (2, 1, (.tmp 31)), (3, 1, (.tmp 36))]) (oCall (.tmp 38) (.con (.func 43 [] [])) [(.tmp 37)] (oVal (.tmp 7) (kMove (.tmp 38)) oNil)))))))))))))))))))
def K80r9 : OpsF := (oVal (.tmp 39) (kMove (.tmp 7)) (oVal (.tmp 40) (kInt aNeq (.tmp 39) (.con (.int .i64 0))) oNil))
def K80r10 : OpsF := (oVal (.tmp 41) (kMove (.tmp 7)) (oVal (.tmp 2) (kMove (.tmp 41)) oNil))
def K80r11 : OpsF := (oVal (.tmp 42) (kUn (fadA 1) (.tmp 6)) (oVal (.tmp 43) (kLoad none (.tmp 42)) (oVal (.tmp 4) (kMove (.tmp 43)) oNil)))
def K80r12 : OpsF := (oVal (.tmp 44) (kInt aAdd (.tmp 18) (.con (.int .i64 1))) (oVal (.tmp 18) (kMove (.tmp 44)) oNil))
def K80l0 : K := (kSeq (kRegion K80r6 [19]) (kSeq (kCond (.tmp 19) kSkip (kExit 0)) (kSeq (kBlock 1 (kSeq (kRegion K80r7 [6]) (kSeq (kRegionD K80r8 [7]) (kSeq (kSeq (kRegion K80r9 [40]) (kCond (.tmp 40) (kSeq (kRegion K80r10 [2]) kRet) kSkip)) (kRegion K80r11 [4]))))) (kRegion K80r12 [18]))))
def K80r13 : OpsF := (oVal (.tmp 2) (kMove (.con (.int .i64 0))) oNil)
theorem res80 : Try.f80.results.toList = [.tmp 2] := by kernel_rfl
def K80 : K := (kSeq (kRegion K80r0 [1, 2]) (kSeq (kSeq (kRegion K80r1 [3]) (kSeq (kRegion K80r2 [13]) (kCond (.tmp 13) (kSeq (kRegion K80r3 [2]) kRet) kSkip))) (kSeq (kRegion K80r4 [4]) (kSeq (kSeq (kRegion K80r5 [16, 17, 18]) (kBlock 0 (kLoop K80l0))) (kSeq (kRegion K80r13 [2]) kRet)))))
theorem enter80 (cl : CallF) (a0 : AV) (s : St) : enterA Try.prog X cl 80 [a0] s Try.f80 = finA Try.prog Try.f80 (K80 cl ⟨80, none, Try.f80.ntmps, X 80⟩ (paramsEnv 0 [a0] .nil) [] s) :=
  enterA_eq (b := Try.f80.body.getD .skip) (by kernel_rfl) (by kernel_rfl) (by kernel_rfl) (by kernel_rfl) (by kernel_rfl)
def K55r0 : OpsF := (oVal (.tmp 2) (kMove (.con (.int .i64 0))) oNil)
def K55r1 : OpsF := (oVal (.tmp 3) (kMove (.tmp 0)) (oCall (.tmp 4) (.con (.func 45 [] [])) [(.tmp 3), (.con (.int .i64 0)), (.con (.int .i64 239))] (oVal (.tmp 2) (kMove (.tmp 4)) oNil)))
theorem res55 : Try.f55.results.toList = [.tmp 2] := by kernel_rfl
def K55 : K := (kSeq (kRegion K55r0 [2]) (kSeq (kRegion K55r1 [2]) kRet))
theorem enter55 (cl : CallF) (a0 : AV) (s : St) : enterA Try.prog X cl 55 [a0] s Try.f55 = finA Try.prog Try.f55 (K55 cl ⟨55, none, Try.f55.ntmps, X 55⟩ (paramsEnv 0 [a0] .nil) [] s) :=
  enterA_eq (b := Try.f55.body.getD .skip) (by kernel_rfl) (by kernel_rfl) (by kernel_rfl) (by kernel_rfl) (by kernel_rfl)
def K71r0 : OpsF := (oVal (.tmp 2) (kBox (tag 31) (.tmp 0)) (oVal (.tmp 3) (kBox (tag 35) (.tmp 1)) (oVal (.tmp 4) (kMove (.con (.int .i64 0))) oNil)))
def K71r1 : OpsF := (oEnd [] (oVal (.tmp 10) (kUn (fadA 0) (.tmp 3)) (oVal (.tmp 11) (kLoad none (.tmp 10)) (oCallT (some [13, 16, 17]) (.tmp 12) (.con (.func 55 [] [])) [(.tmp 11)] (oVal (.tmp 13) (kUn (fadA 1) (.tmp 3)) (oVal (.tmp 14) (kLoad none (.tmp 13)) (oCallT (some [16, 17]) (.tmp 15) (.con (.func 45 [] [])) [(.tmp 14), (.con (.int .i64 0)), (.con (.int .i64 100000))] (oVal (.tmp 16) (kUn (fadA 2) (.tmp 3)) (oVal (.tmp 17) (kLoad none (.tmp 16)) (oVal (.tmp 18) (kUn lenSlA (.tmp 17)) (oCall (.tmp 19) (.con (.func 65 [] [])) [(.tmp 18), (.con (.int .i64 0)), (.con (.int .i64 8))] (oVal (.tmp 20) (kBuildSlice [(.int .i64 0), (.int .i64 0), (.int .i64 0)] 3 [(0, 1, (.tmp 12)), (1, 1, (.tmp 15)), (2, 1, (.tmp 19))]) (oCall (.tmp 21) (.con (.func 43 [] [])) [(.tmp 20)] (oVal (.tmp 5) (kMove (.tmp 21)) oNil))))))))))))))
def K71r2 : OpsF := (oVal (.tmp 22) (kMove (.tmp 5)) (oVal (.tmp 23) (kInt aNeq (.tmp 22) (.con (.int .i64 0))) oNil))
def K71r3 : OpsF := (oVal (.tmp 24) (kMove (.tmp 5)) (oVal (.tmp 4) (kMove (.tmp 24)) oNil))
def K71r4 : OpsF := (oVal (.tmp 25) (kUn (fadA 0) (.tmp 3)) (oVal (.tmp 26) (kLoad none (.tmp 25)) (oVal (.tmp 6) (kMove (.tmp 26)) oNil)))
def K71r5 : OpsF := (oVal (.tmp 27) (kUn (fadA 2) (.tmp 3)) (oVal (.tmp 28) (kLoad none (.tmp 27)) (oVal (.tmp 29) (kUn lenSlA (.tmp 28)) (oVal (.tmp 30) (kMove (.con (.int .i64 0))) oNil))))
def K71r6 : OpsF := (oVal (.tmp 31) (kInt aLss (.tmp 30) (.tmp 29)) oNil)
def K71r7 : OpsF := (oVal (.tmp 32) (kTwo (ixsA 3) (.tmp 28) (.tmp 30)) (oVal (.tmp 33) (kLoad (some 3) (.tmp 32)) (oVal (.tmp 8) (kAlloc [(.int .i64 0), (.int .i64 0), (.int .i64 0)] (tag 91)) (oVal .none (kStore 3 (.tmp 8) (.tmp 33)) oNil))))
def K71r8s20 : OpsF := (oVal (.tmp 54) (kPick (.tmp 49) (.tmp 53) (.con (.bool false))) (oCall (.tmp 55) (.con (.func 46 [] [])) [(.tmp 54), (.con (.int .i64 5))] (oVal (.tmp 56) (kBuildSlice [(.int .i64 0), (.int .i64 0), (.int .i64 0), (.int .i64 0)] 4 [(0, 1, (.tmp 37)), (1, 1, (.tmp 40)), (2, 1, (.tmp 43)), (3, 1, (.tmp 55))]) (oCall (.tmp 57) (.con (.func 43 [] [])) [(.tmp 56)] (oVal (.tmp 9) (kMove (.tmp 57)) oNil)))))
def K71r8s19 : OpsF := (oIf 49 true (oVal (.tmp 53) (kInt aGeq (.tmp 51) (.tmp 52)) K71r8s20) (oSkip (.tmp 53) K71r8s20))
def K71r8s18 : OpsF := (oIf 49 true (oVal (.tmp 52) (kMove (.tmp 6)) K71r8s19) (oSkip (.tmp 52) K71r8s19))
def K71r8s17 : OpsF := (oIf 49 true (oVal (.tmp 51) (kLoad none (.tmp 50)) K71r8s18) (oSkip (.tmp 51) K71r8s18))
def K71r8 : OpsF := (oEnd [] (oVal (.tmp 34) (kLoad (some 5) (.tmp 2)) (oVal (.tmp 35) (kUn (fadA 0) (.tmp 8)) (oVal (.tmp 36) (kLoad none (.tmp 35)) (oCallT (some [38, 41, 44, 46]) (.tmp 37) (.con (.func 54 [] [])) [(.tmp 34), (.tmp 36)] (oVal (.tmp 38) (kUn (fadA 1) (.tmp 8)) (oVal (.tmp 39) (kLoad none (.tmp 38)) (oCallT (some [41, 44, 46]) (.tmp 40) (.con (.func 45 [] [])) [(.tmp 39), (.con (.int .i64 0)), (.con (.int .i64 240))] (oVal (.tmp 41) (kUn (fadA 2) (.tmp 8)) (oVal (.tmp 42) (kLoad none (.tmp 41)) (oCallT (some [44, 46]) (.tmp 43) (.con (.func 45 [] [])) [(.tmp 42), (.con (.int .i64 0)), (.con (.int .i64 240))] (oVal (.tmp 44) (kUn (fadA 1) (.tmp 8)) (oVal (.tmp 45) (kLoad none (.tmp 44)) (oVal (.tmp 46) (kUn (fadA 2) (.tmp 8)) (oVal (.tmp 47) (kLoad none (.tmp 46)) (oVal (.tmp 48) (kInt aLss (.tmp 45) (.tmp 47)) (oVal (.tmp 49) (kMove (.tmp 48)) (oIf 49 true (oVal (.tmp 50) (kUn (fadA 1) (.tmp 8)) K71r8s17) (oSkip (.tmp 50) K71r8s17)))))))))))))))))))
def K71r9 : OpsF := (oVal (.tmp 58) (kMove (.tmp 9)) (oVal (.tmp 59) (kInt aNeq (.tmp 58) (.con (.int .i64 0))) oNil))
def K71r10 : OpsF := (oVal (.tmp 60) (kMove (.tmp 9)) (oVal (.tmp 4) (kMove (.tmp 60)) oNil))
def K71r11 : OpsF := (oVal (.tmp 61) (kUn (fadA 2) (.tmp 8)) (oVal (.tmp 62) (kLoad none (.tmp 61)) (oVal (.tmp 6) (kMove (.tmp 62)) oNil)))
def K71r12 : OpsF := (oVal (.tmp 63) (kInt aAdd (.tmp 30) (.con (.int .i64 1))) (oVal (.tmp 30) (kMove (.tmp 63)) oNil))
def K71l0 : K := (kSeq (kRegion K71r6 [31]) (kSeq (kCond (.tmp 31) kSkip (kExit 0)) (kSeq (kBlock 1 (kSeq (kRegion K71r7 [8]) (kSeq (kRegionD K71r8 [9]) (kSeq (kSeq (kRegion K71r9 [59]) (kCond (.tmp 59) (kSeq (kRegion K71r10 [4]) kRet) kSkip)) (kRegion K71r11 [6]))))) (kRegion K71r12 [30]))))
def K71r13 : OpsF := (oVal (.tmp 4) (kMove (.con (.int .i64 0))) oNil)
theorem res71 : Try.f71.results.toList = [.tmp 4] := by kernel_rfl
def K71 : K := (kSeq (kRegion K71r0 [2, 3, 4]) (kSeq (kRegionD K71r1 [5]) (kSeq (kSeq (kRegion K71r2 [23]) (kCond (.tmp 23) (kSeq (kRegion K71r3 [4]) kRet) kSkip)) (kSeq (kRegion K71r4 [6]) (kSeq (kSeq (kRegion K71r5 [28, 29, 30]) (kBlock 0 (kLoop K71l0))) (kSeq (kRegion K71r13 [4]) kRet))))))
theorem enter71 (cl : CallF) (a0 a1 : AV) (s : St) : enterA Try.prog X cl 71 [a0, a1] s Try.f71 = finA Try.prog Try.f71 (K71 cl ⟨71, none, Try.f71.ntmps, X 71⟩ (paramsEnv 0 [a0, a1] .nil) [] s) :=
  enterA_eq (b := Try.f71.body.getD .skip) (by kernel_rfl) (by kernel_rfl) (by kernel_rfl) (by kernel_rfl) (by kernel_rfl)
def K81r0 : OpsF := (oVal (.tmp 2) (kMove (.con (.int .i64 0))) oNil)
def K81r1 : OpsF := (oVal (.tmp 8) (kMove (.tmp 0)) (oVal (.tmp 9) (kUn lenSlA (.tmp 8)) (oCall (.tmp 10) (.con (.func 65 [] [])) [(.tmp 9), (.con (.int .i64 1)), (.con (.int .i64 6))] (oVal (.tmp 3) (kMove (.tmp 10)) oNil))))
def K81r2 : OpsF := (oVal (.tmp 11) (kMove (.tmp 3)) (oVal (.tmp 12) (kInt aNeq (.tmp 11) (.con (.int .i64 0))) oNil))
def K81r3 : OpsF := (oVal (.tmp 13) (kMove (.tmp 3)) (oVal (.tmp 2) (kMove (.tmp 13)) oNil))
def K81r4 : OpsF := (oVal (.tmp 14) (kBuild [(.int .i64 0), (.int .i64 0)] [(0, 1, (.con (.int .i64 (-301))))]) (oVal (.tmp 4) (kAlloc [(.int .i64 0), (.int .i64 0)] (tag 89)) (oVal .none (kStore 2 (.tmp 4) (.tmp 14)) oNil)))
def K81r5 : OpsF := (oVal (.tmp 15) (kMove (.tmp 0)) (oVal (.tmp 16) (kUn lenSlA (.tmp 15)) (oVal (.tmp 17) (kMove (.con (.int .i64 0))) oNil)))
def K81r6 : OpsF := (oVal (.tmp 18) (kInt aLss (.tmp 17) (.tmp 16)) oNil)
def K81r7 : OpsF := (oVal (.tmp 19) (kTwo (ixsA 2) (.tmp 15) (.tmp 17)) (oVal (.tmp 20) (kLoad (some 2) (.tmp 19)) (oVal (.tmp 6) (kAlloc [(.int .i64 0), (.int .i64 0)] (tag 89)) (oVal .none (kStore 2 (.tmp 6) (.tmp 20)) oNil))))
def K81r8s17 : OpsF := (oVal (.tmp 38) (kPick (.tmp 32) (.tmp 37) (.con (.bool false))) (oCall (.tmp 39) (.con (.func 46 [] [])) [(.tmp 38), (.con (.int .i64 5))] (oVal (.tmp 40) (kBuildSlice [(.int .i64 0), (.int .i64 0), (.int .i64 0)] 3 [(0, 1, (.tmp 23)), (1, 1, (.tmp 26)), (2, 1, (.tmp 39))]) (oCall (.tmp 41) (.con (.func 43 [] [])) [(.tmp 40)] (oVal (.tmp 7) (kMove (.tmp 41)) oNil)))))
def K81r8s16 : OpsF := (oIf 32 true (oVal (.tmp 37) (kInt aGeq (.tmp 34) (.tmp 36)) K81r8s17) (oSkip (.tmp 37) K81r8s17))
def K81r8s15 : OpsF := (oIf 32 true (oVal (.tmp 36) (kLoad none (.tmp 35)) K81r8s16) (oSkip (.tmp 36) K81r8s16))
def K81r8s14 : OpsF := (oIf 32 true (oVal (.tmp 35) (kUn (fadA 1) (.tmp 4)) K81r8s15) (oSkip (.tmp 35) K81r8s15))
def K81r8s13 : OpsF := (oIf 32 true (oVal (.tmp 34) (kLoad none (.tmp 33)) K81r8s14) (oSkip (.tmp 34) K81r8s14))
def K81r8 : OpsF := (oEnd [] (oVal (.tmp 21) (kUn (fadA 0) (.tmp 6)) (oVal (.tmp 22) (kLoad none (.tmp 21)) (oCallT (some [24, 27, 29]) (.tmp 23) (.con (.func 45 [] [])) [(.tmp 22), (.con (.int .i64 (-300))), (.con (.int .i64 400))] (oVal (.tmp 24) (kUn (fadA 1) (.tmp 6)) (oVal (.tmp 25) (kLoad none (.tmp 24)) (oCallT (some [27, 29]) (.tmp 26) (.con (.func 45 [] [])) [(.tmp 25), (.con (.int .i64 0)), (.con (.int .i64 1000))] (oVal (.tmp 27) (kUn (fadA 0) (.tmp 6)) (oVal (.tmp 28) (kLoad none (.tmp 27)) (oVal (.tmp 29) (kUn (fadA 0) (.tmp 4)) (oVal (.tmp 30) (kLoad none (.tmp 29)) (oVal (.tmp 31) (kGtr (.tmp 28) (.tmp 30)) (oVal (.tmp 32) (kMove (.tmp 31)) (oIf 32 true (oVal (.tmp 33) (kUn (fadA 1) (.tmp 6)) K81r8s13) (oSkip (.tmp 33) K81r8s13)))))))))))))))
def K81r9 : OpsF := (oVal (.tmp 42) (kMove (.tmp 7)) (oVal (.tmp 43) (kInt aNeq (.tmp 42) (.con (.int .i64 0))) oNil))
def K81r10 : OpsF := (oVal (.tmp 44) (kMove (.tmp 7)) (oVal (.tmp 2) (kMove (.tmp 44)) oNil))
def K81r11 : OpsF := (oVal (.tmp 45) (kLoad (some 2) (.tmp 6)) (oVal .none (kStore 2 (.tmp 4) (.tmp 45)) oNil))
def K81r12 : OpsF := (oVal (.tmp 46) (kInt aAdd (.tmp 17) (.con (.int .i64 1))) (oVal (.tmp 17) (kMove (.tmp 46)) oNil))
def K81l0 : K := (kSeq (kRegion K81r6 [18]) (kSeq (kCond (.tmp 18) kSkip (kExit 0)) (kSeq (kBlock 1 (kSeq (kRegion K81r7 [6]) (kSeq (kRegionD K81r8 [7]) (kSeq (kSeq (kRegion K81r9 [43]) (kCond (.tmp 43) (kSeq (kRegion K81r10 [2]) kRet) kSkip)) (kRegion K81r11 []))))) (kRegion K81r12 [17]))))
def K81r13 : OpsF := (oVal (.tmp 2) (kMove (.con (.int .i64 0))) oNil)
theorem res81 : Try.f81.results.toList = [.tmp 2] := by kernel_rfl
def K81 : K := (kSeq (kRegion K81r0 [2]) (kSeq (kSeq (kRegion K81r1 [3]) (kSeq (kRegion K81r2 [12]) (kCond (.tmp 12) (kSeq (kRegion K81r3 [2]) kRet) kSkip))) (kSeq (kRegion K81r4 [4]) (kSeq (kSeq (kRegion K81r5 [15, 16, 17]) (kBlock 0 (kLoop K81l0))) (kSeq (kRegion K81r13 [2]) kRet)))))
theorem enter81 (cl : CallF) (a0 : AV) (s : St) : enterA Try.prog X cl 81 [a0] s Try.f81 = finA Try.prog Try.f81 (K81 cl ⟨81, none, Try.f81.ntmps, X 81⟩ (paramsEnv 0 [a0] .nil) [] s) :=
  enterA_eq (b := Try.f81.body.getD .skip) (by kernel_rfl) (by kernel_rfl) (by kernel_rfl) (by kernel_rfl) (by kernel_rfl)
def K78r0 : OpsF := (oVal (.tmp 1) (kBox (tag 26) (.tmp 0)) (oVal (.tmp 2) (kMove (.con (.int .i64 0))) oNil))
def K78r1 : OpsF := (oVal (.tmp 3) (kLoad (some 2) (.tmp 1)) (oCall (.tmp 4) (.con (.func 95 [] [])) [(.tmp 3), (.con (.int .i64 (-300))), (.con (.int .i64 400))] (oVal (.tmp 2) (kMove (.tmp 4)) oNil)))
theorem res78 : Try.f78.results.toList = [.tmp 2] := by kernel_rfl
def K78 : K := (kSeq (kRegion K78r0 [1, 2]) (kSeq (kRegion K78r1 [2]) kRet))
theorem enter78 (cl : CallF) (a0 : AV) (s : St) : enterA Try.prog X cl 78 [a0] s Try.f78 = finA Try.prog Try.f78 (K78 cl ⟨78, none, Try.f78.ntmps, X 78⟩ (paramsEnv 0 [a0] .nil) [] s) :=
  enterA_eq (b := Try.f78.body.getD .skip) (by kernel_rfl) (by kernel_rfl) (by kernel_rfl) (by kernel_rfl) (by kernel_rfl)
end
end Go.Proofs.Ythambbefgbhnkaa.code
set_option maxRecDepth 100000
namespace Go.Proofs.Ythambbefgbhnkaa.code
open Go.Abs
noncomputable section
def K20r0 : OpsF := (oVal (.tmp 3) (kBox (tag 31) (.tmp 0)) (oVal (.tmp 6) (kAlloc [(.int .i64 0), (.int .i64 0)] (tag 26)) (oVal (.tmp 7) (kMove (.con (.int .i64 0))) oNil)))
def K20r1 : OpsF := (oEnd [] (oVal (.tmp 13) (kLoad (some 5) (.tmp 3)) (oCallT (some [3]) (.tmp 14) (.con (.func 53 [] [])) [(.tmp 13)] (oVal (.tmp 15) (kLoad (some 5) (.tmp 3)) (oVal (.tmp 16) (kMove (.tmp 1)) (oCall (.tmp 17) (.con (.func 54 [] [])) [(.tmp 15), (.tmp 16)] (oVal (.tmp 18) (kMove (.tmp 2)) (oCall (.tmp 19) (.con (.func 55 [] [])) [(.tmp 18)] (oVal (.tmp 20) (kBuildSlice [(.int .i64 0), (.int .i64 0), (.int .i64 0)] 3 [(0, 1, (.tmp 14)), (1, 1, (.tmp 17)), (2, 1, (.tmp 19))]) (oCall (.tmp 21) (.con (.func 43 [] [])) [(.tmp 20)] (oVal (.tmp 8) (kMove (.tmp 21)) oNil)))))))))))
def K20r2 : OpsF := (oVal (.tmp 22) (kMove (.tmp 8)) (oVal (.tmp 23) (kInt aNeq (.tmp 22) (.con (.int .i64 0))) oNil))
def K20r3 : OpsF := (oVal (.tmp 24) (kBuild [(.int .i64 0), (.int .i64 0)] []) (oVal (.tmp 25) (kMove (.tmp 8)) (oVal .none (kStore 2 (.tmp 6) (.tmp 24)) (oVal (.tmp 7) (kMove (.tmp 25)) oNil))))
def K20r4 : OpsF := (oVal (.tmp 26) (kLoad (some 5) (.tmp 3)) (oVal (.tmp 27) (kMove (.tmp 1)) (oCall (.tmp 28) (.con (.func 56 [] [])) [(.tmp 26), (.tmp 27)] (oVal (.tmp 9) (kAlloc [(.int .i64 0), (.int .i64 0), (.int .i64 0), (.int .i64 0), (.int .i64 0), (.int .i64 0), (.int .i64 0), (.int .i64 0), (.int .i64 0), (.int .i64 0), (.int .i64 0), (.int .i64 0), .nilslice] (tag 111)) (oVal .none (kStore 13 (.tmp 9) (.tmp 28)) oNil)))))
def K20r5 : OpsF := (oVal (.tmp 10) (kAlloc [(.int .i64 0), (.int .i64 0)] (tag 109)) oNil)
def K20r6 : OpsF := (oVal (.tmp 29) (kMove (.tmp 2)) (oVal (.tmp 30) (kInt aAdd (.tmp 29) (.con (.int .i64 1))) (oCall (.tmp 31) (.con (.func 57 [] [])) [(.tmp 9), (.tmp 30)] oNil)))
def K20r7 : OpsF := (oVal (.tmp 35) (kLoad (some 2) (.tmp 10)) (oCall (.tmp 36) (.con (.func 58 [] [])) [(.tmp 35)] (oVal .none (kStore 2 (.tmp 6) (.tmp 36)) (oVal (.tmp 7) (kMove (.con (.int .i64 0))) oNil))))
theorem res20 : Try.f20.results.toList = [.cell 6 26, .tmp 7] := by kernel_rfl
def K20 : K := (kSeq (kRegion K20r0 [3, 6, 7]) (kSeq (kRegionD K20r1 [8]) (kSeq (kSeq (kRegion K20r2 [23]) (kCond (.tmp 23) (kSeq (kRegion K20r3 [7]) kRet) kSkip)) (kSeq (kRegion K20r4 [9]) (kSeq (kRegion K20r5 [10]) (kSeq (kSeq (kRegion K20r6 [31]) (kBlock 0 (kRange (.tmp 31) [32, 33] (rangeAt Try.f20 0).1 (rangeAt Try.f20 0).2))) (kSeq (kRegion K20r7 [7]) kRet)))))))
theorem enter20 (cl : CallF) (a0 a1 a2 : AV) (s : St) : enterA Try.prog X cl 20 [a0, a1, a2] s Try.f20 = finA Try.prog Try.f20 (K20 cl ⟨20, none, Try.f20.ntmps, X 20⟩ (paramsEnv 0 [a0, a1, a2] .nil) [] s) :=
  enterA_eq (b := Try.f20.body.getD .skip) (by kernel_rfl) (by kernel_rfl) (by kernel_rfl) (by kernel_rfl) (by kernel_rfl)
def K20a0r0 : OpsF := (oVal (.tmp 12) (kAlloc [(.int .i64 0), (.int .i64 0)] (tag 109)) (oVal .none (kStore 2 (.tmp 12) (.tmp 33)) oNil))
def K20a0 : K := (kRegion K20a0r0 [12])
theorem code20a0 : codeK Try.prog (X 20) Try.f20.ntmps (rangeAt Try.f20 0).1 = some K20a0 := by kernel_rfl
def K20b0r0 : OpsF := (oVal (.tmp 34) (kLoad (some 2) (.tmp 12)) (oVal .none (kStore 2 (.tmp 10) (.tmp 34)) oNil))
def K20b0 : K := (kBlock 1 (kRegion K20b0r0 []))
theorem code20b0 : codeK Try.prog (X 20) Try.f20.ntmps (rangeAt Try.f20 0).2 = some K20b0 := by kernel_rfl
def K21r0 : OpsF := (oVal (.tmp 3) (kBox (tag 31) (.tmp 0)) (oVal (.tmp 6) (kMove (.con (.int .i64 0))) (oVal (.tmp 7) (kMove (.con (.int .i64 0))) oNil)))
def K21r1 : OpsF := (oVal (.tmp 11) (kLoad (some 5) (.tmp 3)) (oVal (.tmp 12) (kMove (.tmp 1)) (oVal (.tmp 13) (kMove (.tmp 2)) (oCall (.tmp 14) (.con (.func 20 [] [])) [(.tmp 11), (.tmp 12), (.tmp 13)] (oVal (.tmp 10) (kMove (.tmp 14)) (oVal (.tmp 15) (kUn (extA 0) (.tmp 10)) (oVal (.tmp 16) (kUn (extA 1) (.tmp 10)) (oVal (.tmp 8) (kAlloc [(.int .i64 0), (.int .i64 0)] (tag 26)) (oVal .none (kStore 2 (.tmp 8) (.tmp 15)) (oVal (.tmp 9) (kMove (.tmp 16)) oNil))))))))))
def K21r2 : OpsF := (oVal (.tmp 17) (kMove (.tmp 9)) (oVal (.tmp 18) (kInt aNeq (.tmp 17) (.con (.int .i64 0))) oNil))
def K21r3 : OpsF := (oVal (.tmp 19) (kMove (.tmp 9)) (oVal (.tmp 6) (kMove (.con (.int .i64 0))) (oVal (.tmp 7) (kMove (.tmp 19)) oNil)))
def K21r4 : OpsF := (oVal (.tmp 20) (kUn (fadA 1) (.tmp 8)) (oVal (.tmp 21) (kLoad none (.tmp 20)) (oVal (.tmp 22) (kGtr (.tmp 21) (.con (.int .i64 0))) (oVal (.tmp 23) (kUn (fadA 0) (.tmp 8)) (oVal (.tmp 24) (kLoad none (.tmp 23)) (oVal (.tmp 25) (kGtr (.tmp 24) (.con (.int .i64 0))) (oCall (.tmp 26) (.con (.func 49 [] [])) [(.tmp 22), (.tmp 25)] (oVal (.tmp 6) (kMove (.tmp 26)) (oVal (.tmp 7) (kMove (.con (.int .i64 0))) oNil)))))))))
theorem res21 : Try.f21.results.toList = [.tmp 6, .tmp 7] := by kernel_rfl
def K21 : K := (kSeq (kRegion K21r0 [3, 6, 7]) (kSeq (kRegion K21r1 [8, 9]) (kSeq (kSeq (kRegion K21r2 [18]) (kCond (.tmp 18) (kSeq (kRegion K21r3 [6, 7]) kRet) kSkip)) (kSeq (kRegion K21r4 [6, 7]) kRet))))
theorem enter21 (cl : CallF) (a0 a1 a2 : AV) (s : St) : enterA Try.prog X cl 21 [a0, a1, a2] s Try.f21 = finA Try.prog Try.f21 (K21 cl ⟨21, none, Try.f21.ntmps, X 21⟩ (paramsEnv 0 [a0, a1, a2] .nil) [] s) :=
  enterA_eq (b := Try.f21.body.getD .skip) (by kernel_rfl) (by kernel_rfl) (by kernel_rfl) (by kernel_rfl) (by kernel_rfl)
def K56r0 : OpsF := (oVal (.tmp 2) (kBox (tag 31) (.tmp 0)) (oVal (.tmp 3) (kBox (tag 3) (.tmp 1)) (oVal (.tmp 4) (kAlloc [(.int .i64 0), (.int .i64 0), (.int .i64 0), (.int .i64 0), (.int .i64 0), (.int .i64 0), (.int .i64 0), (.int .i64 0), (.int .i64 0), (.int .i64 0), (.int .i64 0), (.int .i64 0), .nilslice] (tag 111)) oNil)))
def K56r1 : OpsF := (oVal (.tmp 6) (kFunc 83 [] [(.tmp 3)]) (oVal (.tmp 5) (kMove (.tmp 6)) oNil))
def K56r2 : OpsF := (oEnd [] (oVal (.tmp 7) (kUn (fadA 2) (.tmp 2)) (oVal (.tmp 8) (kLoad none (.tmp 7)) (oVal (.tmp 9) (kLoad none (.tmp 3)) (oVal (.tmp 10) (kTwo (ixsA 9) (.tmp 8) (.tmp 9)) (oVal (.tmp 11) (kLoad (some 9) (.tmp 10)) (oVal (.tmp 12) (kUn (fadA 2) (.tmp 2)) (oVal (.tmp 13) (kLoad none (.tmp 12)) (oVal (.tmp 14) (kLoad none (.tmp 3)) (oVal (.tmp 15) (kTwo (ixsA 9) (.tmp 13) (.tmp 14)) (oVal (.tmp 16) (kUn (fadA 1) (.tmp 15)) (oVal (.tmp 17) (kLoad (some 2) (.tmp 16)) (oCallT (some [7, 3, 10, 19]) (.tmp 18) (.con (.func 84 [] [])) [(.tmp 17)] (oVal (.tmp 19) (kUn (fadA 3) (.tmp 2)) (oVal (.tmp 20) (kLoad none (.tmp 19)) (oCallT (some [7, 3, 10]) (.tmp 21) (.con (.func 86 [] [])) [(.tmp 20)] (oVal (.tmp 22) (kMove (.tmp 5)) (oCallT (some [7, 3, 10]) (.tmp 23) (.con (.func 85 [] [])) [(.tmp 21), (.tmp 22)] (oVal (.tmp 24) (kBuild [(.int .i64 0), (.int .i64 0), (.int .i64 0), (.int .i64 0), (.int .i64 0), (.int .i64 0), (.int .i64 0), (.int .i64 0), (.int .i64 0), (.int .i64 0), (.int .i64 0), (.int .i64 0), .nilslice] [(0, 9, (.tmp 11)), (10, 2, (.tmp 18)), (12, 1, (.tmp 23))]) (oVal .none (kStore 13 (.tmp 4) (.tmp 24)) oNil))))))))))))))))))))
theorem res56 : Try.f56.results.toList = [.cell 4 111] := by kernel_rfl
def K56 : K := (kSeq (kRegion K56r0 [2, 3, 4]) (kSeq (kRegion K56r1 [5]) (kSeq (kRegionD K56r2 []) kRet)))
theorem enter56 (cl : CallF) (a0 a1 : AV) (s : St) : enterA Try.prog X cl 56 [a0, a1] s Try.f56 = finA Try.prog Try.f56 (K56 cl ⟨56, none, Try.f56.ntmps, X 56⟩ (paramsEnv 0 [a0, a1] .nil) [] s) :=
  enterA_eq (b := Try.f56.body.getD .skip) (by kernel_rfl) (by kernel_rfl) (by kernel_rfl) (by kernel_rfl) (by kernel_rfl)
def K57r0 : OpsF := (oVal (.tmp 2) (kBox (tag 144) (.tmp 0)) (oVal (.tmp 3) (kBox (tag 3) (.tmp 1)) (oVal (.tmp 4) (kMove (.con .nilfunc)) oNil)))
def K57r1 : OpsF := (oVal (.tmp 5) (kFunc 87 [] [(.tmp 2), (.tmp 3)]) (oVal (.tmp 4) (kMove (.tmp 5)) oNil))
theorem res57 : Try.f57.results.toList = [.tmp 4] := by kernel_rfl
def K57 : K := (kSeq (kRegion K57r0 [2, 3, 4]) (kSeq (kRegion K57r1 [4]) kRet))
theorem enter57 (cl : CallF) (a0 a1 : AV) (s : St) : enterA Try.prog X cl 57 [a0, a1] s Try.f57 = finA Try.prog Try.f57 (K57 cl ⟨57, none, Try.f57.ntmps, X 57⟩ (paramsEnv 0 [a0, a1] .nil) [] s) :=
  enterA_eq (b := Try.f57.body.getD .skip) (by kernel_rfl) (by kernel_rfl) (by kernel_rfl) (by kernel_rfl) (by kernel_rfl)
def K58r0 : OpsF := (oVal (.tmp 1) (kBox (tag 109) (.tmp 0)) (oVal (.tmp 2) (kAlloc [(.int .i64 0), (.int .i64 0)] (tag 26)) oNil))
def K58r1 : OpsF := (oVal (.tmp 3) (kTwo (ixaA 2 1) (.tmp 1) (.con (.int .i64 0))) (oVal (.tmp 4) (kLoad none (.tmp 3)) (oVal (.tmp 5) (kTwo (ixaA 2 1) (.tmp 1) (.con (.int .i64 1))) (oVal (.tmp 6) (kLoad none (.tmp 5)) (oVal (.tmp 7) (kBuild [(.int .i64 0), (.int .i64 0)] [(0, 1, (.tmp 4)), (1, 1, (.tmp 6))]) (oVal .none (kStore 2 (.tmp 2) (.tmp 7)) oNil))))))
theorem res58 : Try.f58.results.toList = [.cell 2 26] := by kernel_rfl
def K58 : K := (kSeq (kRegion K58r0 [1, 2]) (kSeq (kRegion K58r1 []) kRet))
theorem enter58 (cl : CallF) (a0 : AV) (s : St) : enterA Try.prog X cl 58 [a0] s Try.f58 = finA Try.prog Try.f58 (K58 cl ⟨58, none, Try.f58.ntmps, X 58⟩ (paramsEnv 0 [a0] .nil) [] s) :=
  enterA_eq (b := Try.f58.body.getD .skip) (by kernel_rfl) (by kernel_rfl) (by kernel_rfl) (by kernel_rfl) (by kernel_rfl)
def K49r0 : OpsF := (oVal (.tmp 4) (kMove (.con (.int .i64 0))) oNil)
def K49r1 : OpsF := (oVal (.tmp 6) (kMove (.tmp 1)) (oVal (.tmp 5) (kMove (.tmp 6)) oNil))
def K49r2 : OpsF := (oVal (.tmp 4) (kMove (.con (.int .i64 1))) oNil)
def K49r3 : OpsF := (oVal (.tmp 8) (kMove (.tmp 0)) (oVal (.tmp 7) (kMove (.tmp 8)) oNil))
def K49r4 : OpsF := (oVal (.tmp 4) (kMove (.con (.int .i64 3))) oNil)
def K49r5 : OpsF := (oVal (.tmp 4) (kMove (.con (.int .i64 2))) oNil)
theorem res49 : Try.f49.results.toList = [.tmp 4] := by kernel_rfl
def K49 : K := (kSeq (kRegion K49r0 [4]) (kSeq (kBlock 0 (kSeq (kRegion K49r1 [5]) (kCond (.tmp 5) (kSeq (kRegion K49r2 [4]) kRet) (kSeq (kRegion K49r3 [7]) (kCond (.tmp 7) (kSeq (kRegion K49r4 [4]) kRet) kSkip))))) (kSeq (kRegion K49r5 [4]) kRet)))
theorem enter49 (cl : CallF) (a0 a1 : AV) (s : St) : enterA Try.prog X cl 49 [a0, a1] s Try.f49 = finA Try.prog Try.f49 (K49 cl ⟨49, none, Try.f49.ntmps, X 49⟩ (paramsEnv 0 [a0, a1] .nil) [] s) :=
  enterA_eq (b := Try.f49.body.getD .skip) (by kernel_rfl) (by kernel_rfl) (by kernel_rfl) (by kernel_rfl) (by kernel_rfl)
def K83r0 : OpsF := (oVal (.tmp 2) (kBox (tag 87) (.tmp 0)) (oVal (.tmp 3) (kMove (.con (.bool false))) oNil))
def K83r1 : OpsF := (oVal (.tmp 4) (kUn (fadA 0) (.tmp 2)) (oVal (.tmp 5) (kLoad none (.tmp 4)) (oVal (.tmp 6) (kLoad none (.tmp 1)) (oVal (.tmp 7) (kInt aNeq (.tmp 5) (.tmp 6)) (oVal (.tmp 3) (kMove (.tmp 7)) oNil)))))
theorem res83 : Try.f83.results.toList = [.tmp 3] := by kernel_rfl
def K83 : K := (kSeq (kRegion K83r0 [2, 3]) (kSeq (kRegion K83r1 [3]) kRet))
theorem enter83 (cl : CallF) (a0 a1 : AV) (s : St) : enterA Try.prog X cl 83 [a0, a1] s Try.f83 = finA Try.prog Try.f83 (K83 cl ⟨83, none, Try.f83.ntmps, X 83⟩ (paramsEnv 0 [a0, a1] .nil) [] s) :=
  enterA_eq (b := Try.f83.body.getD .skip) (by kernel_rfl) (by kernel_rfl) (by kernel_rfl) (by kernel_rfl) (by kernel_rfl)
def K84r0 : OpsF := (oVal (.tmp 1) (kBox (tag 26) (.tmp 0)) (oVal (.tmp 2) (kAlloc [(.int .i64 0), (.int .i64 0)] (tag 109)) oNil))
def K84r1 : OpsF := (oVal (.tmp 3) (kUn (fadA 0) (.tmp 1)) (oVal (.tmp 4) (kLoad none (.tmp 3)) (oVal (.tmp 5) (kUn (fadA 1) (.tmp 1)) (oVal (.tmp 6) (kLoad none (.tmp 5)) (oVal (.tmp 7) (kBuild [(.int .i64 0), (.int .i64 0)] [(0, 1, (.tmp 4)), (1, 1, (.tmp 6))]) (oVal .none (kStore 2 (.tmp 2) (.tmp 7)) oNil))))))
theorem res84 : Try.f84.results.toList = [.cell 2 109] := by kernel_rfl
def K84 : K := (kSeq (kRegion K84r0 [1, 2]) (kSeq (kRegion K84r1 []) kRet))
theorem enter84 (cl : CallF) (a0 : AV) (s : St) : enterA Try.prog X cl 84 [a0] s Try.f84 = finA Try.prog Try.f84 (K84 cl ⟨84, none, Try.f84.ntmps, X 84⟩ (paramsEnv 0 [a0] .nil) [] s) :=
  enterA_eq (b := Try.f84.body.getD .skip) (by kernel_rfl) (by kernel_rfl) (by kernel_rfl) (by kernel_rfl) (by kernel_rfl)
def K85r0 : OpsF := (oVal (.tmp 4) (kMove (.con .nilslice)) oNil)
def K85r1 : OpsF := (oVal (.tmp 8) (kMove (.tmp 0)) (oVal (.tmp 9) (kMove (.tmp 1)) (oCall (.tmp 10) (.con (.func 96 [] [])) [(.tmp 8), (.tmp 9)] (oVal (.tmp 5) (kMove (.tmp 10)) oNil))))
def K85r2 : OpsF := (oVal (.tmp 11) (kMove (.tmp 5)) (oVal (.tmp 12) (kInt aEql (.tmp 11) (.con (.int .i64 (-1)))) oNil))
def K85r3 : OpsF := (oVal (.tmp 13) (kMove (.tmp 0)) (oVal (.tmp 4) (kMove (.tmp 13)) oNil))
def K85r4 : OpsF := (oVal (.tmp 14) (kMove (.tmp 5)) (oVal (.tmp 15) (kInt aAdd (.tmp 14) (.con (.int .i64 1))) (oVal (.tmp 6) (kMove (.tmp 15)) oNil)))
def K85r5 : OpsF := (oVal (.tmp 16) (kMove (.tmp 6)) (oVal (.tmp 17) (kMove (.tmp 0)) (oVal (.tmp 18) (kUn lenSlA (.tmp 17)) (oVal (.tmp 19) (kInt aLss (.tmp 16) (.tmp 18)) oNil))))
def K85r6 : OpsF := (oVal (.tmp 22) (kMove (.tmp 0)) (oVal (.tmp 23) (kMove (.tmp 6)) (oVal (.tmp 24) (kTwo (ixsA 3) (.tmp 22) (.tmp 23)) (oVal (.tmp 25) (kLoad (some 3) (.tmp 24)) (oVal (.tmp 7) (kAlloc [(.int .i64 0), (.int .i64 0), (.int .i64 0)] (tag 87)) (oVal .none (kStore 3 (.tmp 7) (.tmp 25)) oNil))))))
def K85r7 : OpsF := (oVal (.tmp 26) (kMove (.tmp 1)) (oVal (.tmp 27) (kLoad (some 3) (.tmp 7)) (oCall (.tmp 28) (.tmp 26) [(.tmp 27)] (oVal (.tmp 29) (kUn notA (.tmp 28)) oNil))))
def K85r8 : OpsF := (oVal (.tmp 30) (kMove (.tmp 0)) (oVal (.tmp 31) (kMove (.tmp 5)) (oVal (.tmp 32) (kLoad (some 3) (.tmp 7)) (oVal (.tmp 33) (kTwo (ixsA 3) (.tmp 30) (.tmp 31)) (oVal .none (kStore 3 (.tmp 33) (.tmp 32)) oNil)))))
def K85r9 : OpsF := (oVal (.tmp 34) (kMove (.tmp 5)) (oVal (.tmp 35) (kInt aAdd (.tmp 34) (.con (.int .i64 1))) (oVal (.tmp 5) (kMove (.tmp 35)) oNil)))
def K85r10 : OpsF := (oVal (.tmp 20) (kMove (.tmp 6)) (oVal (.tmp 21) (kInt aAdd (.tmp 20) (.con (.int .i64 1))) (oVal (.tmp 6) (kMove (.tmp 21)) oNil)))
def K85l0 : K := (kSeq (kSeq (kRegion K85r5 [19]) (kCond (.tmp 19) kSkip (kExit 0))) (kSeq (kBlock 1 (kSeq (kRegion K85r6 [7]) (kSeq (kRegion K85r7 [29]) (kCond (.tmp 29) (kSeq (kRegion K85r8 []) (kRegion K85r9 [5])) kSkip)))) (kRegion K85r10 [6])))
def K85r11 : OpsF := (oVal (.tmp 36) (kMove (.tmp 0)) (oVal (.tmp 37) (kMove (.tmp 5)) (oVal (.tmp 38) (kSlice (sliceVal 3) (.tmp 36) (some (.tmp 37)) none) (oVal .none (kUn (clearA [(.int .i64 0), (.int .i64 0), (.int .i64 0)]) (.tmp 38)) oNil))))
def K85r12 : OpsF := (oVal (.tmp 39) (kMove (.tmp 0)) (oVal (.tmp 40) (kMove (.tmp 5)) (oVal (.tmp 41) (kSlice (sliceVal 3) (.tmp 39) none (some (.tmp 40))) (oVal (.tmp 4) (kMove (.tmp 41)) oNil))))
theorem res85 : Try.f85.results.toList = [.tmp 4] := by kernel_rfl
def K85 : K := (kSeq (kRegion K85r0 [4]) (kSeq (kRegion K85r1 [5]) (kSeq (kSeq (kRegion K85r2 [12]) (kCond (.tmp 12) (kSeq (kRegion K85r3 [4]) kRet) kSkip)) (kSeq (kSeq (kRegion K85r4 [6]) (kBlock 0 (kLoop K85l0))) (kSeq (kRegion K85r11 []) (kSeq (kRegion K85r12 [4]) kRet))))))
theorem enter85 (cl : CallF) (a0 a1 : AV) (s : St) : enterA Try.prog X cl 85 [a0, a1] s Try.f85 = finA Try.prog Try.f85 (K85 cl ⟨85, none, Try.f85.ntmps, X 85⟩ (paramsEnv 0 [a0, a1] .nil) [] s) :=
  enterA_eq (b := Try.f85.body.getD .skip) (by kernel_rfl) (by kernel_rfl) (by kernel_rfl) (by kernel_rfl) (by kernel_rfl)
def K86r0 : OpsF := (oVal (.tmp 2) (kMove (.con .nilslice)) oNil)
def K86r1 : OpsF := (oVal (.tmp 3) (kMove (.tmp 0)) (oVal (.tmp 4) (kEql .nilS false (.tmp 3) (.con .nilslice)) oNil))
def K86r2 : OpsF := (oVal (.tmp 2) (kMove (.con .nilslice)) oNil)
def K86r3 : OpsF := (oVal (.tmp 5) (kBuildSlice [] 0 []) (oVal (.tmp 6) (kMove (.tmp 0)) (oVal (.tmp 7) (kTwo (appendA false 3 24 (tag 87)) (.tmp 5) (.tmp 6)) (oVal (.tmp 2) (kMove (.tmp 7)) oNil))))
theorem res86 : Try.f86.results.toList = [.tmp 2] := by kernel_rfl
def K86 : K := (kSeq (kRegion K86r0 [2]) (kSeq (kSeq (kRegion K86r1 [4]) (kCond (.tmp 4) (kSeq (kRegion K86r2 [2]) kRet) kSkip)) (kSeq (kRegion K86r3 [2]) kRet)))
theorem enter86 (cl : CallF) (a0 : AV) (s : St) : enterA Try.prog X cl 86 [a0] s Try.f86 = finA Try.prog Try.f86 (K86 cl ⟨86, none, Try.f86.ntmps, X 86⟩ (paramsEnv 0 [a0] .nil) [] s) :=
  enterA_eq (b := Try.f86.body.getD .skip) (by kernel_rfl) (by kernel_rfl) (by kernel_rfl) (by kernel_rfl) (by kernel_rfl)
def K87r0 : OpsF := (oEnd [] (oVal (.tmp 4) (kLoad none (.tmp 1)) (oVal (.tmp 5) (kUn nilA (.tmp 4)) (oVal (.tmp 6) (kUn (fadA 9) (.tmp 5)) (oVal (.tmp 7) (kLoad none (.tmp 6)) (oVal (.tmp 8) (kLoad none (.tmp 2)) (oVal (.tmp 9) (kInt aLss (.tmp 7) (.tmp 8)) oNil)))))))
def K87r1 : OpsF := (oVal (.tmp 10) (kLoad none (.tmp 1)) (oCall (.tmp 11) (.con (.func 88 [] [])) [(.tmp 10)] oNil))
def K87r2 : OpsF := (oEnd [] (oVal (.tmp 12) (kMove (.tmp 0)) (oVal (.tmp 13) (kLoad none (.tmp 1)) (oVal (.tmp 14) (kUn nilA (.tmp 13)) (oVal (.tmp 15) (kUn (fadA 9) (.tmp 14)) (oVal (.tmp 16) (kLoad none (.tmp 15)) (oVal (.tmp 17) (kLoad none (.tmp 1)) (oVal (.tmp 18) (kUn nilA (.tmp 17)) (oVal (.tmp 19) (kUn (fadA 10) (.tmp 18)) (oVal (.tmp 20) (kLoad (some 2) (.tmp 19)) (oCall (.tmp 21) (.tmp 12) [(.tmp 16), (.tmp 20)] (oVal (.tmp 22) (kUn notA (.tmp 21)) oNil))))))))))))
def K87r3 : OpsF := (oVal (.tmp 23) (kLoad none (.tmp 1)) (oCall (.tmp 24) (.con (.func 89 [] [])) [(.tmp 23)] oNil))
def K87r4 : OpsF := (oVal (.tmp 25) (kLoad none (.tmp 1)) (oVal (.tmp 26) (kUn nilA (.tmp 25)) (oVal (.tmp 27) (kUn (fadA 9) (.tmp 26)) (oVal (.tmp 28) (kLoad none (.tmp 27)) (oVal (.tmp 29) (kInt aAdd (.tmp 28) (.con (.int .i64 1))) (oVal (.tmp 30) (kUn nilA (.tmp 25)) (oVal (.tmp 31) (kUn (fadA 9) (.tmp 30)) (oVal .none (kStore 1 (.tmp 31) (.tmp 29)) oNil))))))))
def K87l0 : K := (kSeq (kSeq (kRegionD K87r0 [9]) (kCond (.tmp 9) kSkip (kExit 0))) (kBlock 1 (kSeq (kRegion K87r1 []) (kSeq (kSeq (kRegionD K87r2 [22]) (kCond (.tmp 22) kRet kSkip)) (kSeq (kRegion K87r3 []) (kRegion K87r4 []))))))
theorem res87 : Try.f87.results.toList = [] := by kernel_rfl
def K87 : K := (kBlock 0 (kLoop K87l0))
theorem enter87 (cl : CallF) (a0 a1 a2 : AV) (s : St) : enterA Try.prog X cl 87 [a0, a1, a2] s Try.f87 = finA Try.prog Try.f87 (K87 cl ⟨87, none, Try.f87.ntmps, X 87⟩ (paramsEnv 0 [a0, a1, a2] .nil) [] s) :=
  enterA_eq (b := Try.f87.body.getD .skip) (by kernel_rfl) (by kernel_rfl) (by kernel_rfl) (by kernel_rfl) (by kernel_rfl)
def K88r0s19 : OpsF := (oVal (.tmp 21) (kPick (.tmp 8) (.tmp 20) (.con (.bool false))) oNil)
def K88r0s18 : OpsF := (oIf 8 true (oVal (.tmp 20) (kInt aEql (.tmp 15) (.tmp 19)) K88r0s19) (oSkip (.tmp 20) K88r0s19))
def K88r0s17 : OpsF := (oIf 8 true (oVal (.tmp 19) (kLoad none (.tmp 18)) K88r0s18) (oSkip (.tmp 19) K88r0s18))
def K88r0s16 : OpsF := (oIf 8 true (oVal (.tmp 18) (kUn (fadA 9) (.tmp 17)) K88r0s17) (oSkip (.tmp 18) K88r0s17))
def K88r0s15 : OpsF := (oIf 8 true (oVal (.tmp 17) (kUn nilA (.tmp 16)) K88r0s16) (oSkip (.tmp 17) K88r0s16))
def K88r0s14 : OpsF := (oIf 8 true (oVal (.tmp 16) (kMove (.tmp 0)) K88r0s15) (oSkip (.tmp 16) K88r0s15))
def K88r0s13 : OpsF := (oIf 8 true (oVal (.tmp 15) (kLoad none (.tmp 14)) K88r0s14) (oSkip (.tmp 15) K88r0s14))
def K88r0s12 : OpsF := (oIf 8 true (oVal (.tmp 14) (kUn (fadA 1) (.tmp 13)) K88r0s13) (oSkip (.tmp 14) K88r0s13))
def K88r0s11 : OpsF := (oIf 8 true (oVal (.tmp 13) (kTwo (ixsA 3) (.tmp 12) (.con (.int .i64 0))) K88r0s12) (oSkip (.tmp 13) K88r0s12))
def K88r0s10 : OpsF := (oIf 8 true (oVal (.tmp 12) (kLoad none (.tmp 11)) K88r0s11) (oSkip (.tmp 12) K88r0s11))
def K88r0s9 : OpsF := (oIf 8 true (oVal (.tmp 11) (kUn (fadA 12) (.tmp 10)) K88r0s10) (oSkip (.tmp 11) K88r0s10))
def K88r0s8 : OpsF := (oIf 8 true (oVal (.tmp 10) (kUn nilA (.tmp 9)) K88r0s9) (oSkip (.tmp 10) K88r0s9))
def K88r0 : OpsF := (oEnd [] (oVal (.tmp 2) (kMove (.tmp 0)) (oVal (.tmp 3) (kUn nilA (.tmp 2)) (oVal (.tmp 4) (kUn (fadA 12) (.tmp 3)) (oVal (.tmp 5) (kLoad none (.tmp 4)) (oVal (.tmp 6) (kUn lenSlA (.tmp 5)) (oVal (.tmp 7) (kGtr (.tmp 6) (.con (.int .i64 0))) (oVal (.tmp 8) (kMove (.tmp 7)) (oIf 8 true (oVal (.tmp 9) (kMove (.tmp 0)) K88r0s8) (oSkip (.tmp 9) K88r0s8))))))))))
def K88r1 : OpsF := (oVal (.tmp 22) (kMove (.tmp 0)) (oVal (.tmp 23) (kMove (.tmp 0)) (oVal (.tmp 24) (kUn nilA (.tmp 23)) (oVal (.tmp 25) (kUn (fadA 12) (.tmp 24)) (oVal (.tmp 26) (kLoad none (.tmp 25)) (oVal (.tmp 27) (kTwo (ixsA 3) (.tmp 26) (.con (.int .i64 0))) (oVal (.tmp 28) (kUn (fadA 2) (.tmp 27)) (oVal (.tmp 29) (kLoad none (.tmp 28)) (oCall (.tmp 30) (.con (.func 97 [] [])) [(.tmp 22), (.tmp 29)] oNil)))))))))
def K88r2 : OpsF := (oVal (.tmp 31) (kMove (.tmp 0)) (oVal (.tmp 32) (kMove (.tmp 0)) (oVal (.tmp 33) (kUn nilA (.tmp 32)) (oVal (.tmp 34) (kUn (fadA 12) (.tmp 33)) (oVal (.tmp 35) (kLoad none (.tmp 34)) (oVal (.tmp 36) (kSlice (sliceVal 3) (.tmp 35) (some (.con (.int .i64 1))) none) (oVal (.tmp 37) (kUn nilA (.tmp 31)) (oVal (.tmp 38) (kUn (fadA 12) (.tmp 37)) (oVal .none (kStore 1 (.tmp 38) (.tmp 36)) oNil)))))))))
def K88l0 : K := (kSeq (kSeq (kRegionD K88r0 [21]) (kCond (.tmp 21) kSkip (kExit 0))) (kBlock 1 (kSeq (kRegion K88r1 []) (kRegion K88r2 []))))
theorem res88 : Try.f88.results.toList = [] := by kernel_rfl
def K88 : K := (kBlock 0 (kLoop K88l0))
theorem enter88 (cl : CallF) (a0 : AV) (s : St) : enterA Try.prog X cl 88 [a0] s Try.f88 = finA Try.prog Try.f88 (K88 cl ⟨88, none, Try.f88.ntmps, X 88⟩ (paramsEnv 0 [a0] .nil) [] s) :=
  enterA_eq (b := Try.f88.body.getD .skip) (by kernel_rfl) (by kernel_rfl) (by kernel_rfl) (by kernel_rfl) (by kernel_rfl)
def K89r0 : OpsF := (oEnd [] (oVal (.tmp 2) (kMove (.tmp 0)) (oVal (.tmp 3) (kMove (.tmp 0)) (oVal (.tmp 4) (kUn nilA (.tmp 3)) (oVal (.tmp 5) (kUn (fadA 10) (.tmp 4)) (oVal (.tmp 6) (kTwo (ixaA 2 1) (.tmp 5) (.con (.int .i64 0))) (oVal (.tmp 7) (kLoad none (.tmp 6)) (oVal (.tmp 8) (kMove (.tmp 0)) (oVal (.tmp 9) (kUn nilA (.tmp 8)) (oVal (.tmp 10) (kUn (fadA 0) (.tmp 9)) (oVal (.tmp 11) (kUn (fadA 3) (.tmp 10)) (oVal (.tmp 12) (kUn (fadA 1) (.tmp 11)) (oVal (.tmp 13) (kLoad none (.tmp 12)) (oVal (.tmp 14) (kInt aSub (.tmp 7) (.tmp 13)) (oVal (.tmp 15) (kFold maxA (.con (.int .i64 0)) [(.tmp 14)]) (oVal (.tmp 16) (kUn nilA (.tmp 2)) (oVal (.tmp 17) (kUn (fadA 10) (.tmp 16)) (oVal (.tmp 18) (kTwo (ixaA 2 1) (.tmp 17) (.con (.int .i64 0))) (oVal .none (kStore 1 (.tmp 18) (.tmp 15)) oNil)))))))))))))))))))
def K89r1 : OpsF := (oEnd [] (oVal (.tmp 19) (kMove (.tmp 0)) (oVal (.tmp 20) (kMove (.tmp 0)) (oVal (.tmp 21) (kUn nilA (.tmp 20)) (oVal (.tmp 22) (kUn (fadA 10) (.tmp 21)) (oVal (.tmp 23) (kTwo (ixaA 2 1) (.tmp 22) (.con (.int .i64 1))) (oVal (.tmp 24) (kLoad none (.tmp 23)) (oVal (.tmp 25) (kMove (.tmp 0)) (oVal (.tmp 26) (kUn nilA (.tmp 25)) (oVal (.tmp 27) (kUn (fadA 0) (.tmp 26)) (oVal (.tmp 28) (kUn (fadA 3) (.tmp 27)) (oVal (.tmp 29) (kUn (fadA 0) (.tmp 28)) (oVal (.tmp 30) (kLoad none (.tmp 29)) (oVal (.tmp 31) (kInt aSub (.tmp 24) (.tmp 30)) (oVal (.tmp 32) (kFold maxA (.con (.int .i64 0)) [(.tmp 31)]) (oVal (.tmp 33) (kUn nilA (.tmp 19)) (oVal (.tmp 34) (kUn (fadA 10) (.tmp 33)) (oVal (.tmp 35) (kTwo (ixaA 2 1) (.tmp 34) (.con (.int .i64 1))) (oVal .none (kStore 1 (.tmp 35) (.tmp 32)) oNil)))))))))))))))))))
theorem res89 : Try.f89.results.toList = [] := by kernel_rfl
def K89 : K := (kSeq (kRegionD K89r0 []) (kRegionD K89r1 []))
theorem enter89 (cl : CallF) (a0 : AV) (s : St) : enterA Try.prog X cl 89 [a0] s Try.f89 = finA Try.prog Try.f89 (K89 cl ⟨89, none, Try.f89.ntmps, X 89⟩ (paramsEnv 0 [a0] .nil) [] s) :=
  enterA_eq (b := Try.f89.body.getD .skip) (by kernel_rfl) (by kernel_rfl) (by kernel_rfl) (by kernel_rfl) (by kernel_rfl)
def K96r0 : OpsF := (oVal (.tmp 4) (kMove (.con (.int .i64 0))) oNil)
def K96r1 : OpsF := (oVal (.tmp 6) (kMove (.tmp 0)) (oVal (.tmp 7) (kUn lenSlA (.tmp 6)) (oVal (.tmp 8) (kMove (.con (.int .i64 0))) oNil)))
def K96r2 : OpsF := (oVal (.tmp 9) (kInt aLss (.tmp 8) (.tmp 7)) oNil)
def K96r3 : OpsF := (oVal (.tmp 10) (kMove (.tmp 8)) (oVal (.tmp 5) (kMove (.tmp 10)) oNil))
def K96r4 : OpsF := (oVal (.tmp 11) (kMove (.tmp 1)) (oVal (.tmp 12) (kMove (.tmp 0)) (oVal (.tmp 13) (kMove (.tmp 5)) (oVal (.tmp 14) (kTwo (ixsA 3) (.tmp 12) (.tmp 13)) (oVal (.tmp 15) (kLoad (some 3) (.tmp 14)) (oCall (.tmp 16) (.tmp 11) [(.tmp 15)] oNil))))))
def K96r5 : OpsF := (oVal (.tmp 17) (kMove (.tmp 5)) (oVal (.tmp 4) (kMove (.tmp 17)) oNil))
def K96r6 : OpsF := (oVal (.tmp 18) (kInt aAdd (.tmp 8) (.con (.int .i64 1))) (oVal (.tmp 8) (kMove (.tmp 18)) oNil))
def K96l0 : K := (kSeq (kRegion K96r2 [9]) (kSeq (kCond (.tmp 9) kSkip (kExit 0)) (kSeq (kBlock 1 (kSeq (kRegion K96r3 [5]) (kSeq (kRegion K96r4 [16]) (kCond (.tmp 16) (kSeq (kRegion K96r5 [4]) kRet) kSkip)))) (kRegion K96r6 [8]))))
def K96r7 : OpsF := (oVal (.tmp 4) (kMove (.con (.int .i64 (-1)))) oNil)
theorem res96 : Try.f96.results.toList = [.tmp 4] := by kernel_rfl
def K96 : K := (kSeq (kRegion K96r0 [4]) (kSeq (kSeq (kRegion K96r1 [7, 8]) (kBlock 0 (kLoop K96l0))) (kSeq (kRegion K96r7 [4]) kRet)))
theorem enter96 (cl : CallF) (a0 a1 : AV) (s : St) : enterA Try.prog X cl 96 [a0, a1] s Try.f96 = finA Try.prog Try.f96 (K96 cl ⟨96, none, Try.f96.ntmps, X 96⟩ (paramsEnv 0 [a0, a1] .nil) [] s) :=
  enterA_eq (b := Try.f96.body.getD .skip) (by kernel_rfl) (by kernel_rfl) (by kernel_rfl) (by kernel_rfl) (by kernel_rfl)
def K97r0 : OpsF := (oVal (.tmp 5) (kMove (.con (.int .i64 0))) oNil)
def K97r1 : OpsF := (oVal (.tmp 6) (kInt aLss (.tmp 5) (.con (.int .i64 2))) oNil)
def K97r2 : OpsF := (oVal (.tmp 7) (kMove (.tmp 5)) (oVal (.tmp 4) (kMove (.tmp 7)) oNil))
def K97r3 : OpsF := (oEnd [] (oVal (.tmp 8) (kMove (.tmp 0)) (oVal (.tmp 9) (kMove (.tmp 4)) (oVal (.tmp 10) (kMove (.tmp 0)) (oVal (.tmp 11) (kMove (.tmp 4)) (oVal (.tmp 12) (kUn nilA (.tmp 10)) (oVal (.tmp 13) (kUn (fadA 10) (.tmp 12)) (oVal (.tmp 14) (kTwo (ixaA 2 1) (.tmp 13) (.tmp 11)) (oVal (.tmp 15) (kLoad none (.tmp 14)) (oVal (.tmp 16) (kMove (.tmp 1)) (oVal (.tmp 17) (kInt aAdd (.tmp 15) (.tmp 16)) (oVal (.tmp 18) (kMove (.tmp 0)) (oVal (.tmp 19) (kUn nilA (.tmp 18)) (oVal (.tmp 20) (kUn (fadA 0) (.tmp 19)) (oVal (.tmp 21) (kUn (fadA 0) (.tmp 20)) (oVal (.tmp 22) (kLoad none (.tmp 21)) (oVal (.tmp 23) (kFold minA (.tmp 17) [(.tmp 22)]) (oVal (.tmp 24) (kUn nilA (.tmp 8)) (oVal (.tmp 25) (kUn (fadA 10) (.tmp 24)) (oVal (.tmp 26) (kTwo (ixaA 2 1) (.tmp 25) (.tmp 9)) (oVal .none (kStore 1 (.tmp 26) (.tmp 23)) oNil)))))))))))))))))))))
def K97r4 : OpsF := (oVal (.tmp 27) (kInt aAdd (.tmp 5) (.con (.int .i64 1))) (oVal (.tmp 5) (kMove (.tmp 27)) oNil))
def K97l0 : K := (kSeq (kRegion K97r1 [6]) (kSeq (kCond (.tmp 6) kSkip (kExit 0)) (kSeq (kBlock 1 (kSeq (kRegion K97r2 [4]) (kRegionD K97r3 []))) (kRegion K97r4 [5]))))
theorem res97 : Try.f97.results.toList = [] := by kernel_rfl
def K97 : K := (kSeq (kRegion K97r0 [5]) (kBlock 0 (kLoop K97l0)))
theorem enter97 (cl : CallF) (a0 a1 : AV) (s : St) : enterA Try.prog X cl 97 [a0, a1] s Try.f97 = finA Try.prog Try.f97 (K97 cl ⟨97, none, Try.f97.ntmps, X 97⟩ (paramsEnv 0 [a0, a1] .nil) [] s) :=
  enterA_eq (b := Try.f97.body.getD .skip) (by kernel_rfl) (by kernel_rfl) (by kernel_rfl) (by kernel_rfl) (by kernel_rfl)
end
end Go.Proofs.Ythambbefgbhnkaa.code
set_option maxRecDepth 100000
namespace Go.Proofs.Ythambbefgbhnkaa.code
open Go.Abs
noncomputable section
def K47r0 : OpsF := (oVal (.tmp 1) (kBox (tag 31) (.tmp 0)) (oVal (.tmp 2) (kAlloc [(.int .i64 0), (.int .i64 0), .nilslice, .nilslice, .nilslice, .nilslice] (tag 99)) oNil))
def K47r1 : OpsF := (oVal (.tmp 6) (kLoad (some 5) (.tmp 1)) (oVal (.tmp 7) (kBuild [(.int .i64 0), (.int .i64 0), .nilslice, .nilslice, .nilslice, .nilslice] [(0, 5, (.tmp 6))]) (oVal (.tmp 3) (kAlloc [(.int .i64 0), (.int .i64 0), .nilslice, .nilslice, .nilslice, .nilslice] (tag 99)) (oVal .none (kStore 6 (.tmp 3) (.tmp 7)) oNil))))
def K47r2 : OpsF := (oVal (.tmp 8) (kUn (fadA 2) (.tmp 1)) (oVal (.tmp 9) (kLoad none (.tmp 8)) (oVal (.tmp 10) (kUn lenSlA (.tmp 9)) (oVal (.tmp 11) (kMove (.con (.int .i64 0))) oNil))))
def K47r3 : OpsF := (oVal (.tmp 12) (kInt aLss (.tmp 11) (.tmp 10)) oNil)
def K47r4 : OpsF := (oVal (.tmp 13) (kMove (.tmp 11)) (oVal (.tmp 4) (kMove (.tmp 13)) oNil))
def K47r5 : OpsF := (oVal (.tmp 14) (kLoad (some 5) (.tmp 1)) (oVal (.tmp 15) (kMove (.tmp 4)) (oCall (.tmp 16) (.con (.func 56 [] [])) [(.tmp 14), (.tmp 15)] (oVal (.tmp 5) (kAlloc [(.int .i64 0), (.int .i64 0), (.int .i64 0), (.int .i64 0), (.int .i64 0), (.int .i64 0), (.int .i64 0), (.int .i64 0), (.int .i64 0), (.int .i64 0), (.int .i64 0), (.int .i64 0), .nilslice] (tag 111)) (oVal .none (kStore 13 (.tmp 5) (.tmp 16)) oNil)))))
def K47r6 : OpsF := (oEnd [] (oVal (.tmp 17) (kUn (fadA 5) (.tmp 3)) (oVal (.tmp 18) (kLoad none (.tmp 17)) (oCallT (some [17]) (.tmp 19) (.con (.func 57 [] [])) [(.tmp 5), (.con (.int .i64 240))] (oVal (.tmp 20) (kFunc 73 [(.tmp 5)] []) (oCallT (some [17]) (.tmp 21) (.con (.func 72 [] [])) [(.tmp 19), (.tmp 20)] (oVal (.tmp 22) (kBuildSlice [.nilslice] 1 [(0, 1, (.tmp 21))]) (oVal (.tmp 23) (kTwo (appendA false 1 24 (tag 128)) (.tmp 18) (.tmp 22)) (oVal (.tmp 24) (kUn (fadA 5) (.tmp 3)) (oVal .none (kStore 1 (.tmp 24) (.tmp 23)) oNil))))))))))
def K47r7 : OpsF := (oVal (.tmp 25) (kInt aAdd (.tmp 11) (.con (.int .i64 1))) (oVal (.tmp 11) (kMove (.tmp 25)) oNil))
def K47l0 : K := (kSeq (kRegion K47r3 [12]) (kSeq (kCond (.tmp 12) kSkip (kExit 0)) (kSeq (kBlock 1 (kSeq (kRegion K47r4 [4]) (kSeq (kRegion K47r5 [5]) (kRegionD K47r6 [])))) (kRegion K47r7 [11]))))
def K47r8 : OpsF := (oVal (.tmp 26) (kLoad (some 6) (.tmp 3)) (oVal .none (kStore 6 (.tmp 2) (.tmp 26)) oNil))
theorem res47 : Try.f47.results.toList = [.cell 2 99] := by kernel_rfl
def K47 : K := (kSeq (kRegion K47r0 [1, 2]) (kSeq (kRegion K47r1 [3]) (kSeq (kSeq (kRegion K47r2 [10, 11]) (kBlock 0 (kLoop K47l0))) (kSeq (kRegion K47r8 []) kRet))))
theorem enter47 (cl : CallF) (a0 : AV) (s : St) : enterA Try.prog X cl 47 [a0] s Try.f47 = finA Try.prog Try.f47 (K47 cl ⟨47, none, Try.f47.ntmps, X 47⟩ (paramsEnv 0 [a0] .nil) [] s) :=
  enterA_eq (b := Try.f47.body.getD .skip) (by kernel_rfl) (by kernel_rfl) (by kernel_rfl) (by kernel_rfl) (by kernel_rfl)
def K48r0 : OpsF := (oVal (.tmp 3) (kBox (tag 99) (.tmp 0)) (oVal (.tmp 4) (kBox (tag 35) (.tmp 1)) (oVal (.tmp 6) (kAlloc [(.int .i64 0), (.int .i64 0)] (tag 26)) oNil)))
def K48r1 : OpsF := (oEnd [] (oVal (.tmp 7) (kLoad (some 6) (.tmp 3)) (oVal (.tmp 8) (kLoad (some 3) (.tmp 4)) (oVal (.tmp 9) (kMove (.tmp 2)) (oCallT (some [3]) (.tmp 10) (.con (.func 75 [] [])) [(.tmp 7), (.tmp 8), (.tmp 9)] (oVal (.tmp 11) (kLoad (some 6) (.tmp 3)) (oVal (.tmp 12) (kFunc 76 [(.tmp 11)] []) (oCall (.tmp 13) (.con (.func 74 [] [])) [(.tmp 10), (.tmp 12)] (oVal .none (kStore 2 (.tmp 6) (.tmp 13)) oNil)))))))))
theorem res48 : Try.f48.results.toList = [.cell 6 26] := by kernel_rfl
def K48 : K := (kSeq (kRegion K48r0 [3, 4, 6]) (kSeq (kRegionD K48r1 []) kRet))
theorem enter48 (cl : CallF) (a0 a1 a2 : AV) (s : St) : enterA Try.prog X cl 48 [a0, a1, a2] s Try.f48 = finA Try.prog Try.f48 (K48 cl ⟨48, none, Try.f48.ntmps, X 48⟩ (paramsEnv 0 [a0, a1, a2] .nil) [] s) :=
  enterA_eq (b := Try.f48.body.getD .skip) (by kernel_rfl) (by kernel_rfl) (by kernel_rfl) (by kernel_rfl) (by kernel_rfl)
def K15r0 : OpsF := (oVal (.tmp 3) (kBox (tag 31) (.tmp 0)) (oVal (.tmp 4) (kBox (tag 35) (.tmp 1)) (oVal (.tmp 6) (kAlloc [(.int .i64 0), (.int .i64 0)] (tag 26)) (oVal (.tmp 7) (kMove (.con (.int .i64 0))) oNil))))
def K15r1 : OpsF := (oEnd [] (oVal (.tmp 9) (kLoad (some 5) (.tmp 3)) (oVal (.tmp 10) (kLoad (some 3) (.tmp 4)) (oCallT (some [15]) (.tmp 11) (.con (.func 44 [] [])) [(.tmp 9), (.tmp 10)] (oVal (.tmp 12) (kMove (.tmp 2)) (oCallT (some [15]) (.tmp 13) (.con (.func 45 [] [])) [(.tmp 12), (.con (.int .i64 0)), (.con (.int .i64 240))] (oVal (.tmp 14) (kMove (.tmp 2)) (oVal (.tmp 15) (kUn (fadA 0) (.tmp 4)) (oVal (.tmp 16) (kLoad none (.tmp 15)) (oVal (.tmp 17) (kInt aGeq (.tmp 14) (.tmp 16)) (oCall (.tmp 18) (.con (.func 46 [] [])) [(.tmp 17), (.con (.int .i64 12))] (oVal (.tmp 19) (kBuildSlice [(.int .i64 0), (.int .i64 0), (.int .i64 0)] 3 [(0, 1, (.tmp 11)), (1, 1, (.tmp 13)), (2, 1, (.tmp 18))]) (oCall (.tmp 20) (.con (.func 43 [] [])) [(.tmp 19)] (oVal (.tmp 8) (kMove (.tmp 20)) oNil))))))))))))))
def K15r2 : OpsF := (oVal (.tmp 21) (kMove (.tmp 8)) (oVal (.tmp 22) (kInt aNeq (.tmp 21) (.con (.int .i64 0))) oNil))
def K15r3 : OpsF := (oVal (.tmp 23) (kBuild [(.int .i64 0), (.int .i64 0)] []) (oVal (.tmp 24) (kMove (.tmp 8)) (oVal .none (kStore 2 (.tmp 6) (.tmp 23)) (oVal (.tmp 7) (kMove (.tmp 24)) oNil))))
def K15r4 : OpsF := (oEnd [] (oVal (.tmp 25) (kLoad (some 5) (.tmp 3)) (oCallT (some [4]) (.tmp 26) (.con (.func 47 [] [])) [(.tmp 25)] (oVal (.tmp 27) (kLoad (some 3) (.tmp 4)) (oVal (.tmp 28) (kMove (.tmp 2)) (oCall (.tmp 29) (.con (.func 48 [] [])) [(.tmp 26), (.tmp 27), (.tmp 28)] (oVal .none (kStore 2 (.tmp 6) (.tmp 29)) (oVal (.tmp 7) (kMove (.con (.int .i64 0))) oNil))))))))
theorem res15 : Try.f15.results.toList = [.cell 6 26, .tmp 7] := by kernel_rfl
def K15 : K := (kSeq (kRegion K15r0 [3, 4, 6, 7]) (kSeq (kRegionD K15r1 [8]) (kSeq (kSeq (kRegion K15r2 [22]) (kCond (.tmp 22) (kSeq (kRegion K15r3 [7]) kRet) kSkip)) (kSeq (kRegionD K15r4 [7]) kRet))))
theorem enter15 (cl : CallF) (a0 a1 a2 : AV) (s : St) : enterA Try.prog X cl 15 [a0, a1, a2] s Try.f15 = finA Try.prog Try.f15 (K15 cl ⟨15, none, Try.f15.ntmps, X 15⟩ (paramsEnv 0 [a0, a1, a2] .nil) [] s) :=
  enterA_eq (b := Try.f15.body.getD .skip) (by kernel_rfl) (by kernel_rfl) (by kernel_rfl) (by kernel_rfl) (by kernel_rfl)
def K16r0 : OpsF := (oVal (.tmp 3) (kBox (tag 31) (.tmp 0)) (oVal (.tmp 4) (kBox (tag 35) (.tmp 1)) (oVal (.tmp 6) (kMove (.con (.int .i64 0))) (oVal (.tmp 7) (kMove (.con (.int .i64 0))) oNil))))
def K16r1 : OpsF := (oVal (.tmp 11) (kLoad (some 5) (.tmp 3)) (oVal (.tmp 12) (kLoad (some 3) (.tmp 4)) (oVal (.tmp 13) (kMove (.tmp 2)) (oCall (.tmp 14) (.con (.func 15 [] [])) [(.tmp 11), (.tmp 12), (.tmp 13)] (oVal (.tmp 10) (kMove (.tmp 14)) (oVal (.tmp 15) (kUn (extA 0) (.tmp 10)) (oVal (.tmp 16) (kUn (extA 1) (.tmp 10)) (oVal (.tmp 8) (kAlloc [(.int .i64 0), (.int .i64 0)] (tag 26)) (oVal .none (kStore 2 (.tmp 8) (.tmp 15)) (oVal (.tmp 9) (kMove (.tmp 16)) oNil))))))))))
def K16r2 : OpsF := (oVal (.tmp 17) (kMove (.tmp 9)) (oVal (.tmp 18) (kInt aNeq (.tmp 17) (.con (.int .i64 0))) oNil))
def K16r3 : OpsF := (oVal (.tmp 19) (kMove (.tmp 9)) (oVal (.tmp 6) (kMove (.con (.int .i64 0))) (oVal (.tmp 7) (kMove (.tmp 19)) oNil)))
def K16r4 : OpsF := (oVal (.tmp 20) (kUn (fadA 0) (.tmp 8)) (oVal (.tmp 21) (kLoad none (.tmp 20)) (oVal (.tmp 22) (kUn (fadA 1) (.tmp 4)) (oVal (.tmp 23) (kLoad none (.tmp 22)) (oVal (.tmp 24) (kInt aLeq (.tmp 21) (.tmp 23)) (oVal (.tmp 25) (kUn (fadA 1) (.tmp 8)) (oVal (.tmp 26) (kLoad none (.tmp 25)) (oVal (.tmp 27) (kUn (fadA 1) (.tmp 4)) (oVal (.tmp 28) (kLoad none (.tmp 27)) (oVal (.tmp 29) (kInt aLeq (.tmp 26) (.tmp 28)) (oCall (.tmp 30) (.con (.func 49 [] [])) [(.tmp 24), (.tmp 29)] (oVal (.tmp 6) (kMove (.tmp 30)) (oVal (.tmp 7) (kMove (.con (.int .i64 0))) oNil)))))))))))))
theorem res16 : Try.f16.results.toList = [.tmp 6, .tmp 7] := by kernel_rfl
def K16 : K := (kSeq (kRegion K16r0 [3, 4, 6, 7]) (kSeq (kRegion K16r1 [8, 9]) (kSeq (kSeq (kRegion K16r2 [18]) (kCond (.tmp 18) (kSeq (kRegion K16r3 [6, 7]) kRet) kSkip)) (kSeq (kRegion K16r4 [6, 7]) kRet))))
theorem enter16 (cl : CallF) (a0 a1 a2 : AV) (s : St) : enterA Try.prog X cl 16 [a0, a1, a2] s Try.f16 = finA Try.prog Try.f16 (K16 cl ⟨16, none, Try.f16.ntmps, X 16⟩ (paramsEnv 0 [a0, a1, a2] .nil) [] s) :=
  enterA_eq (b := Try.f16.body.getD .skip) (by kernel_rfl) (by kernel_rfl) (by kernel_rfl) (by kernel_rfl) (by kernel_rfl)
def K72r0 : OpsF := (oVal (.tmp 3) (kBox (tag 130) (.tmp 1)) (oVal (.tmp 4) (kMove (.con .nilslice)) oNil))
def K72r1 : OpsF := (oVal (.tmp 5) (kAlloc [.nilslice] (tag 128)) oNil)
def K72r2 : OpsF := (oVal (.tmp 8) (kMove (.tmp 0)) oNil)
def K72r3 : OpsF := (oVal (.tmp 17) (kLoad none (.tmp 5)) (oVal (.tmp 4) (kMove (.tmp 17)) oNil))
theorem res72 : Try.f72.results.toList = [.tmp 4] := by kernel_rfl
def K72 : K := (kSeq (kRegion K72r0 [3, 4]) (kSeq (kRegion K72r1 [5]) (kSeq (kSeq (kRegion K72r2 [8]) (kBlock 0 (kRange (.tmp 8) [9, 10] (rangeAt Try.f72 0).1 (rangeAt Try.f72 0).2))) (kSeq (kRegion K72r3 [4]) kRet))))
theorem enter72 (cl : CallF) (a0 a1 : AV) (s : St) : enterA Try.prog X cl 72 [a0, a1] s Try.f72 = finA Try.prog Try.f72 (K72 cl ⟨72, none, Try.f72.ntmps, X 72⟩ (paramsEnv 0 [a0, a1] .nil) [] s) :=
  enterA_eq (b := Try.f72.body.getD .skip) (by kernel_rfl) (by kernel_rfl) (by kernel_rfl) (by kernel_rfl) (by kernel_rfl)
def K72a0r0 : OpsF := (oVal (.tmp 7) (kAlloc [(.int .i64 0), (.int .i64 0)] (tag 109)) (oVal .none (kStore 2 (.tmp 7) (.tmp 10)) oNil))
def K72a0 : K := (kRegion K72a0r0 [7])
theorem code72a0 : codeK Try.prog (X 72) Try.f72.ntmps (rangeAt Try.f72 0).1 = some K72a0 := by kernel_rfl
def K72b0r0 : OpsF := (oEnd [] (oVal (.tmp 11) (kLoad none (.tmp 5)) (oVal (.tmp 12) (kLoad none (.tmp 3)) (oVal (.tmp 13) (kLoad (some 2) (.tmp 7)) (oCallT (some [5]) (.tmp 14) (.tmp 12) [(.tmp 13)] (oVal (.tmp 15) (kBuildSlice [(.int .i64 0), (.int .i64 0)] 1 [(0, 2, (.tmp 14))]) (oVal (.tmp 16) (kTwo (appendA false 2 16 (tag 109)) (.tmp 11) (.tmp 15)) (oVal .none (kStore 1 (.tmp 5) (.tmp 16)) oNil))))))))
def K72b0 : K := (kBlock 1 (kRegionD K72b0r0 []))
theorem code72b0 : codeK Try.prog (X 72) Try.f72.ntmps (rangeAt Try.f72 0).2 = some K72b0 := by kernel_rfl
def K73r0 : OpsF := (oVal (.tmp 3) (kBox (tag 109) (.tmp 1)) (oVal (.tmp 4) (kAlloc [(.int .i64 0), (.int .i64 0)] (tag 109)) oNil))
def K73r1 : OpsF := (oVal (.tmp 6) (kMove (.tmp 0)) (oVal (.tmp 7) (kUn nilA (.tmp 6)) (oVal (.tmp 8) (kUn (fadA 0) (.tmp 7)) (oVal (.tmp 9) (kUn (fadA 7) (.tmp 8)) (oVal (.tmp 10) (kLoad (some 2) (.tmp 9)) (oCall (.tmp 11) (.con (.func 84 [] [])) [(.tmp 10)] (oVal (.tmp 5) (kAlloc [(.int .i64 0), (.int .i64 0)] (tag 109)) (oVal .none (kStore 2 (.tmp 5) (.tmp 11)) oNil))))))))
def K73r2 : OpsF := (oVal (.tmp 12) (kTwo (ixaA 2 1) (.tmp 3) (.con (.int .i64 1))) (oVal (.tmp 13) (kLoad none (.tmp 12)) (oVal (.tmp 14) (kGtr (.tmp 13) (.con (.int .i64 0))) oNil)))
def K73r3 : OpsF := (oVal (.tmp 15) (kMove (.tmp 0)) (oVal (.tmp 16) (kUn nilA (.tmp 15)) (oVal (.tmp 17) (kUn (fadA 0) (.tmp 16)) (oVal (.tmp 18) (kUn (fadA 5) (.tmp 17)) (oVal (.tmp 19) (kUn (fadA 0) (.tmp 18)) (oVal (.tmp 20) (kLoad none (.tmp 19)) (oVal (.tmp 21) (kTwo (ixaA 2 1) (.tmp 5) (.con (.int .i64 0))) (oVal .none (kStore 1 (.tmp 21) (.tmp 20)) oNil))))))))
def K73r4 : OpsF := (oVal (.tmp 22) (kTwo (ixaA 2 1) (.tmp 3) (.con (.int .i64 0))) (oVal (.tmp 23) (kLoad none (.tmp 22)) (oVal (.tmp 24) (kGtr (.tmp 23) (.con (.int .i64 0))) oNil)))
def K73r5 : OpsF := (oVal (.tmp 25) (kMove (.tmp 0)) (oVal (.tmp 26) (kUn nilA (.tmp 25)) (oVal (.tmp 27) (kUn (fadA 0) (.tmp 26)) (oVal (.tmp 28) (kUn (fadA 5) (.tmp 27)) (oVal (.tmp 29) (kUn (fadA 1) (.tmp 28)) (oVal (.tmp 30) (kLoad none (.tmp 29)) (oVal (.tmp 31) (kTwo (ixaA 2 1) (.tmp 5) (.con (.int .i64 1))) (oVal .none (kStore 1 (.tmp 31) (.tmp 30)) oNil))))))))
def K73r6 : OpsF := (oVal (.tmp 32) (kLoad (some 2) (.tmp 5)) (oVal .none (kStore 2 (.tmp 4) (.tmp 32)) oNil))
theorem res73 : Try.f73.results.toList = [.cell 4 109] := by kernel_rfl
def K73 : K := (kSeq (kRegion K73r0 [3, 4]) (kSeq (kRegion K73r1 [5]) (kSeq (kSeq (kRegion K73r2 [14]) (kCond (.tmp 14) (kRegion K73r3 []) kSkip)) (kSeq (kSeq (kRegion K73r4 [24]) (kCond (.tmp 24) (kRegion K73r5 []) kSkip)) (kSeq (kRegion K73r6 []) kRet)))))
theorem enter73 (cl : CallF) (a0 a1 : AV) (s : St) : enterA Try.prog X cl 73 [a0, a1] s Try.f73 = finA Try.prog Try.f73 (K73 cl ⟨73, none, Try.f73.ntmps, X 73⟩ (paramsEnv 0 [a0, a1] .nil) [] s) :=
  enterA_eq (b := Try.f73.body.getD .skip) (by kernel_rfl) (by kernel_rfl) (by kernel_rfl) (by kernel_rfl) (by kernel_rfl)
def K74r0 : OpsF := (oVal (.tmp 3) (kBox (tag 130) (.tmp 1)) (oVal (.tmp 4) (kAlloc [(.int .i64 0), (.int .i64 0)] (tag 26)) oNil))
def K74r1 : OpsF := (oVal (.tmp 5) (kAlloc [(.int .i64 0), (.int .i64 0)] (tag 26)) oNil)
def K74r2 : OpsF := (oVal (.tmp 8) (kMove (.tmp 0)) oNil)
def K74r3 : OpsF := (oVal (.tmp 25) (kLoad (some 2) (.tmp 5)) (oVal .none (kStore 2 (.tmp 4) (.tmp 25)) oNil))
theorem res74 : Try.f74.results.toList = [.cell 4 26] := by kernel_rfl
def K74 : K := (kSeq (kRegion K74r0 [3, 4]) (kSeq (kRegion K74r1 [5]) (kSeq (kSeq (kRegion K74r2 [8]) (kBlock 0 (kRange (.tmp 8) [9] (rangeAt Try.f74 0).1 (rangeAt Try.f74 0).2))) (kSeq (kRegion K74r3 []) kRet))))
theorem enter74 (cl : CallF) (a0 a1 : AV) (s : St) : enterA Try.prog X cl 74 [a0, a1] s Try.f74 = finA Try.prog Try.f74 (K74 cl ⟨74, none, Try.f74.ntmps, X 74⟩ (paramsEnv 0 [a0, a1] .nil) [] s) :=
  enterA_eq (b := Try.f74.body.getD .skip) (by kernel_rfl) (by kernel_rfl) (by kernel_rfl) (by kernel_rfl) (by kernel_rfl)
def K74a0r0 : OpsF := (oVal (.tmp 6) (kAlloc [(.int .i64 0), (.int .i64 0)] (tag 109)) (oVal .none (kStore 2 (.tmp 6) (.tmp 9)) oNil))
def K74a0 : K := (kRegion K74a0r0 [6])
theorem code74a0 : codeK Try.prog (X 74) Try.f74.ntmps (rangeAt Try.f74 0).1 = some K74a0 := by kernel_rfl
def K74b0r0 : OpsF := (oVal (.tmp 10) (kLoad none (.tmp 3)) (oVal (.tmp 11) (kLoad (some 2) (.tmp 6)) (oCall (.tmp 12) (.tmp 10) [(.tmp 11)] (oVal (.tmp 7) (kAlloc [(.int .i64 0), (.int .i64 0)] (tag 109)) (oVal .none (kStore 2 (.tmp 7) (.tmp 12)) oNil)))))
def K74b0r1 : OpsF := (oVal (.tmp 13) (kUn (fadA 0) (.tmp 5)) (oVal (.tmp 14) (kLoad none (.tmp 13)) (oVal (.tmp 15) (kTwo (ixaA 2 1) (.tmp 7) (.con (.int .i64 0))) (oVal (.tmp 16) (kLoad none (.tmp 15)) (oVal (.tmp 17) (kInt aAdd (.tmp 14) (.tmp 16)) (oVal (.tmp 18) (kUn (fadA 0) (.tmp 5)) (oVal .none (kStore 1 (.tmp 18) (.tmp 17)) oNil)))))))
def K74b0r2 : OpsF := (oVal (.tmp 19) (kUn (fadA 1) (.tmp 5)) (oVal (.tmp 20) (kLoad none (.tmp 19)) (oVal (.tmp 21) (kTwo (ixaA 2 1) (.tmp 7) (.con (.int .i64 1))) (oVal (.tmp 22) (kLoad none (.tmp 21)) (oVal (.tmp 23) (kInt aAdd (.tmp 20) (.tmp 22)) (oVal (.tmp 24) (kUn (fadA 1) (.tmp 5)) (oVal .none (kStore 1 (.tmp 24) (.tmp 23)) oNil)))))))
def K74b0 : K := (kBlock 1 (kSeq (kRegion K74b0r0 [7]) (kSeq (kRegion K74b0r1 []) (kRegion K74b0r2 []))))
theorem code74b0 : codeK Try.prog (X 74) Try.f74.ntmps (rangeAt Try.f74 0).2 = some K74b0 := by kernel_rfl
def K75r0 : OpsF := (oVal (.tmp 3) (kBox (tag 99) (.tmp 0)) (oVal (.tmp 4) (kBox (tag 35) (.tmp 1)) (oVal (.tmp 5) (kBox (tag 3) (.tmp 2)) (oVal (.tmp 6) (kMove (.con .nilfunc)) oNil))))
def K75r1 : OpsF := (oVal (.tmp 7) (kFunc 93 [] [(.tmp 4), (.tmp 5), (.tmp 3)]) (oVal (.tmp 6) (kMove (.tmp 7)) oNil))
theorem res75 : Try.f75.results.toList = [.tmp 6] := by kernel_rfl
def K75 : K := (kSeq (kRegion K75r0 [3, 4, 5, 6]) (kSeq (kRegion K75r1 [6]) kRet))
theorem enter75 (cl : CallF) (a0 a1 a2 : AV) (s : St) : enterA Try.prog X cl 75 [a0, a1, a2] s Try.f75 = finA Try.prog Try.f75 (K75 cl ⟨75, none, Try.f75.ntmps, X 75⟩ (paramsEnv 0 [a0, a1, a2] .nil) [] s) :=
  enterA_eq (b := Try.f75.body.getD .skip) (by kernel_rfl) (by kernel_rfl) (by kernel_rfl) (by kernel_rfl) (by kernel_rfl)
def K93r0 : OpsF := (oVal (.tmp 6) (kUn (fadA 0) (.tmp 1)) (oVal (.tmp 7) (kLoad none (.tmp 6)) (oVal (.tmp 5) (kMove (.tmp 7)) oNil)))
def K93r1 : OpsF := (oVal (.tmp 8) (kMove (.tmp 5)) (oVal (.tmp 9) (kLoad none (.tmp 2)) (oVal (.tmp 10) (kInt aLss (.tmp 8) (.tmp 9)) oNil)))
def K93r2 : OpsF := (oVal (.tmp 13) (kMove (.tmp 0)) (oVal (.tmp 14) (kLoad (some 6) (.tmp 3)) (oVal (.tmp 15) (kLoad (some 3) (.tmp 1)) (oVal (.tmp 16) (kMove (.tmp 5)) (oCall (.tmp 17) (.con (.func 94 [] [])) [(.tmp 14), (.tmp 15), (.tmp 16)] (oCall (.tmp 18) (.tmp 13) [(.tmp 17)] (oVal (.tmp 19) (kUn notA (.tmp 18)) oNil)))))))
def K93r3 : OpsF := (oVal (.tmp 11) (kMove (.tmp 5)) (oVal (.tmp 12) (kInt aAdd (.tmp 11) (.con (.int .i64 1))) (oVal (.tmp 5) (kMove (.tmp 12)) oNil)))
def K93l0 : K := (kSeq (kSeq (kRegion K93r1 [10]) (kCond (.tmp 10) kSkip (kExit 0))) (kSeq (kBlock 1 (kSeq (kRegion K93r2 [19]) (kCond (.tmp 19) kRet kSkip))) (kRegion K93r3 [5])))
theorem res93 : Try.f93.results.toList = [] := by kernel_rfl
def K93 : K := (kSeq (kRegion K93r0 [5]) (kBlock 0 (kLoop K93l0)))
theorem enter93 (cl : CallF) (a0 a1 a2 a3 : AV) (s : St) : enterA Try.prog X cl 93 [a0, a1, a2, a3] s Try.f93 = finA Try.prog Try.f93 (K93 cl ⟨93, none, Try.f93.ntmps, X 93⟩ (paramsEnv 0 [a0, a1, a2, a3] .nil) [] s) :=
  enterA_eq (b := Try.f93.body.getD .skip) (by kernel_rfl) (by kernel_rfl) (by kernel_rfl) (by kernel_rfl) (by kernel_rfl)
def K94r0 : OpsF := (oVal (.tmp 3) (kBox (tag 99) (.tmp 0)) (oVal (.tmp 4) (kBox (tag 35) (.tmp 1)) (oVal (.tmp 6) (kAlloc [(.int .i64 0), (.int .i64 0)] (tag 109)) oNil)))
def K94r1 : OpsF := (oVal (.tmp 9) (kUn (fadA 2) (.tmp 4)) (oVal (.tmp 10) (kLoad none (.tmp 9)) (oVal (.tmp 11) (kUn lenSlA (.tmp 10)) (oVal (.tmp 12) (kMove (.con (.int .i64 0))) oNil))))
def K94r2 : OpsF := (oVal (.tmp 13) (kInt aLss (.tmp 12) (.tmp 11)) oNil)
def K94r3 : OpsF := (oVal (.tmp 14) (kTwo (ixsA 3) (.tmp 10) (.tmp 12)) (oVal (.tmp 15) (kLoad (some 3) (.tmp 14)) (oVal (.tmp 8) (kAlloc [(.int .i64 0), (.int .i64 0), (.int .i64 0)] (tag 91)) (oVal .none (kStore 3 (.tmp 8) (.tmp 15)) oNil))))
def K94r4s9 : OpsF := (oVal (.tmp 25) (kPick (.tmp 20) (.tmp 24) (.con (.bool false))) oNil)
def K94r4s8 : OpsF := (oIf 20 true (oVal (.tmp 24) (kInt aLss (.tmp 21) (.tmp 23)) K94r4s9) (oSkip (.tmp 24) K94r4s9))
def K94r4s7 : OpsF := (oIf 20 true (oVal (.tmp 23) (kLoad none (.tmp 22)) K94r4s8) (oSkip (.tmp 23) K94r4s8))
def K94r4s6 : OpsF := (oIf 20 true (oVal (.tmp 22) (kUn (fadA 2) (.tmp 8)) K94r4s7) (oSkip (.tmp 22) K94r4s7))
def K94r4 : OpsF := (oVal (.tmp 16) (kUn (fadA 1) (.tmp 8)) (oVal (.tmp 17) (kLoad none (.tmp 16)) (oVal (.tmp 18) (kMove (.tmp 2)) (oVal (.tmp 19) (kInt aLeq (.tmp 17) (.tmp 18)) (oVal (.tmp 20) (kMove (.tmp 19)) (oIf 20 true (oVal (.tmp 21) (kMove (.tmp 2)) K94r4s6) (oSkip (.tmp 21) K94r4s6)))))))
def K94r5 : OpsF := (oVal (.tmp 26) (kUn (fadA 5) (.tmp 3)) (oVal (.tmp 27) (kLoad none (.tmp 26)) (oVal (.tmp 28) (kUn (fadA 0) (.tmp 8)) (oVal (.tmp 29) (kLoad none (.tmp 28)) (oVal (.tmp 30) (kTwo (ixsA 1) (.tmp 27) (.tmp 29)) (oVal (.tmp 31) (kLoad none (.tmp 30)) (oVal (.tmp 32) (kMove (.tmp 2)) (oVal (.tmp 33) (kTwo (ixsA 2) (.tmp 31) (.tmp 32)) (oVal (.tmp 34) (kLoad (some 2) (.tmp 33)) (oVal .none (kStore 2 (.tmp 6) (.tmp 34)) oNil))))))))))
def K94r6 : OpsF := (oVal (.tmp 35) (kInt aAdd (.tmp 12) (.con (.int .i64 1))) (oVal (.tmp 12) (kMove (.tmp 35)) oNil))
def K94l0 : K := (kSeq (kRegion K94r2 [13]) (kSeq (kCond (.tmp 13) kSkip (kExit 0)) (kSeq (kBlock 1 (kSeq (kRegion K94r3 [8]) (kSeq (kRegion K94r4 [25]) (kCond (.tmp 25) (kSeq (kRegion K94r5 []) kRet) kSkip)))) (kRegion K94r6 [12]))))
def K94r7 : OpsF := (oVal (.tmp 36) (kUn (fadA 0) (.tmp 3)) (oVal (.tmp 37) (kUn (fadA 0) (.tmp 36)) (oVal (.tmp 38) (kLoad (some 2) (.tmp 37)) (oCall (.tmp 39) (.con (.func 84 [] [])) [(.tmp 38)] (oVal .none (kStore 2 (.tmp 6) (.tmp 39)) oNil)))))
theorem res94 : Try.f94.results.toList = [.cell 6 109] := by kernel_rfl
def K94 : K := (kSeq (kRegion K94r0 [3, 4, 6]) (kSeq (kSeq (kRegion K94r1 [10, 11, 12]) (kBlock 0 (kLoop K94l0))) (kSeq (kRegion K94r7 []) kRet)))
theorem enter94 (cl : CallF) (a0 a1 a2 : AV) (s : St) : enterA Try.prog X cl 94 [a0, a1, a2] s Try.f94 = finA Try.prog Try.f94 (K94 cl ⟨94, none, Try.f94.ntmps, X 94⟩ (paramsEnv 0 [a0, a1, a2] .nil) [] s) :=
  enterA_eq (b := Try.f94.body.getD .skip) (by kernel_rfl) (by kernel_rfl) (by kernel_rfl) (by kernel_rfl) (by kernel_rfl)
def K76r0 : OpsF := (oVal (.tmp 2) (kBox (tag 99) (.tmp 0)) (oVal (.tmp 3) (kBox (tag 109) (.tmp 1)) (oVal (.tmp 4) (kAlloc [(.int .i64 0), (.int .i64 0)] (tag 109)) oNil)))
def K76r1 : OpsF := (oVal (.tmp 5) (kAlloc [(.int .i64 0), (.int .i64 0)] (tag 109)) oNil)
def K76r2 : OpsF := (oVal (.tmp 10) (kLoad (some 2) (.tmp 3)) (oVal (.tmp 11) (kMove (.con (.int .i64 0))) oNil))
def K76r3 : OpsF := (oVal (.tmp 12) (kInt aLss (.tmp 11) (.con (.int .i64 2))) oNil)
def K76r4 : OpsF := (oVal (.tmp 13) (kMove (.tmp 11)) (oVal (.tmp 14) (kTwo (indA 2 1 none) (.tmp 10) (.tmp 11)) (oVal (.tmp 6) (kMove (.tmp 13)) (oVal (.tmp 7) (kMove (.tmp 14)) oNil))))
def K76r5 : OpsF := (oVal (.tmp 15) (kUn (fadA 0) (.tmp 2)) (oVal (.tmp 16) (kUn (fadA 4) (.tmp 15)) (oVal (.tmp 17) (kLoad none (.tmp 16)) (oVal (.tmp 18) (kUn lenSlA (.tmp 17)) (oVal (.tmp 19) (kMove (.con (.int .i64 0))) oNil)))))
def K76r6 : OpsF := (oVal (.tmp 20) (kInt aLss (.tmp 19) (.tmp 18)) oNil)
def K76r7 : OpsF := (oVal (.tmp 21) (kTwo (ixsA 2) (.tmp 17) (.tmp 19)) (oVal (.tmp 22) (kLoad (some 2) (.tmp 21)) (oVal (.tmp 9) (kAlloc [(.int .i64 0), (.int .i64 0)] (tag 89)) (oVal .none (kStore 2 (.tmp 9) (.tmp 22)) oNil))))
def K76r8 : OpsF := (oVal (.tmp 23) (kUn (fadA 0) (.tmp 9)) (oVal (.tmp 24) (kLoad none (.tmp 23)) (oVal (.tmp 25) (kMove (.tmp 7)) (oVal (.tmp 26) (kGtr (.tmp 24) (.tmp 25)) oNil))))
def K76r9 : OpsF := (oVal (.tmp 27) (kMove (.tmp 6)) (oVal (.tmp 28) (kUn (fadA 1) (.tmp 9)) (oVal (.tmp 29) (kLoad none (.tmp 28)) (oVal (.tmp 30) (kTwo (ixaA 2 1) (.tmp 5) (.tmp 27)) (oVal .none (kStore 1 (.tmp 30) (.tmp 29)) oNil)))))
def K76r10 : OpsF := (oVal (.tmp 31) (kInt aAdd (.tmp 19) (.con (.int .i64 1))) (oVal (.tmp 19) (kMove (.tmp 31)) oNil))
def K76l0 : K := (kSeq (kRegion K76r6 [20]) (kSeq (kCond (.tmp 20) kSkip (kExit 2)) (kSeq (kBlock 3 (kSeq (kRegion K76r7 [9]) (kSeq (kSeq (kRegion K76r8 [26]) (kCond (.tmp 26) (kExit 1) kSkip)) (kRegion K76r9 [])))) (kRegion K76r10 [19]))))
def K76r11 : OpsF := (oVal (.tmp 32) (kInt aAdd (.tmp 11) (.con (.int .i64 1))) (oVal (.tmp 11) (kMove (.tmp 32)) oNil))
def K76l1 : K := (kSeq (kRegion K76r3 [12]) (kSeq (kCond (.tmp 12) kSkip (kExit 0)) (kSeq (kBlock 1 (kSeq (kRegion K76r4 [6, 7]) (kSeq (kRegion K76r5 [17, 18, 19]) (kBlock 2 (kLoop K76l0))))) (kRegion K76r11 [11]))))
def K76r12 : OpsF := (oVal (.tmp 33) (kLoad (some 2) (.tmp 5)) (oVal .none (kStore 2 (.tmp 4) (.tmp 33)) oNil))
theorem res76 : Try.f76.results.toList = [.cell 4 109] := by kernel_rfl
def K76 : K := (kSeq (kRegion K76r0 [2, 3, 4]) (kSeq (kRegion K76r1 [5]) (kSeq kSkip (kSeq (kSeq (kRegion K76r2 [10, 11]) (kBlock 0 (kLoop K76l1))) (kSeq (kRegion K76r12 []) kRet)))))
theorem enter76 (cl : CallF) (a0 a1 : AV) (s : St) : enterA Try.prog X cl 76 [a0, a1] s Try.f76 = finA Try.prog Try.f76 (K76 cl ⟨76, none, Try.f76.ntmps, X 76⟩ (paramsEnv 0 [a0, a1] .nil) [] s) :=
  enterA_eq (b := Try.f76.body.getD .skip) (by kernel_rfl) (by kernel_rfl) (by kernel_rfl) (by kernel_rfl) (by kernel_rfl)
end
end Go.Proofs.Ythambbefgbhnkaa.code
set_option maxRecDepth 100000
namespace Go.Proofs.Ythambbefgbhnkaa.code
open Go.Abs
noncomputable section
def K41r0 : OpsF := (oVal (.tmp 2) (kMove (.con (.int .u64 0))) oNil)
def K41r1 : OpsF := (oVal (.tmp 4) (kMove (.tmp 0)) (oVal (.tmp 5) (kMove (.tmp 0)) (oVal (.tmp 6) (kUn nilA (.tmp 5)) (oVal (.tmp 7) (kUn (fadA 0) (.tmp 6)) (oVal (.tmp 8) (kLoad none (.tmp 7)) (oVal (.tmp 9) (kInt aAdd (.tmp 8) (.con (.int .u64 11562461410679940143))) (oVal (.tmp 10) (kUn nilA (.tmp 4)) (oVal (.tmp 11) (kUn (fadA 0) (.tmp 10)) (oVal .none (kStore 1 (.tmp 11) (.tmp 9)) oNil)))))))))
def K41r2 : OpsF := (oVal (.tmp 12) (kMove (.tmp 0)) (oVal (.tmp 13) (kUn nilA (.tmp 12)) (oVal (.tmp 14) (kUn (fadA 0) (.tmp 13)) (oVal (.tmp 15) (kLoad none (.tmp 14)) (oVal (.tmp 3) (kMove (.tmp 15)) oNil)))))
def K41r3 : OpsF := (oVal (.tmp 16) (kMove (.tmp 3)) (oVal (.tmp 17) (kMove (.tmp 3)) (oVal (.tmp 18) (kShr (.tmp 17) (.con (.int .u64 30))) (oVal (.tmp 19) (kInt aXor (.tmp 16) (.tmp 18)) (oVal (.tmp 20) (kInt aMul (.tmp 19) (.con (.int .u64 13787848793156543929))) (oVal (.tmp 3) (kMove (.tmp 20)) oNil))))))
def K41r4 : OpsF := (oVal (.tmp 21) (kMove (.tmp 3)) (oVal (.tmp 22) (kMove (.tmp 3)) (oVal (.tmp 23) (kShr (.tmp 22) (.con (.int .u64 27))) (oVal (.tmp 24) (kInt aXor (.tmp 21) (.tmp 23)) (oVal (.tmp 25) (kInt aMul (.tmp 24) (.con (.int .u64 10723151780598845931))) (oVal (.tmp 3) (kMove (.tmp 25)) oNil))))))
def K41r5 : OpsF := (oVal (.tmp 26) (kMove (.tmp 3)) (oVal (.tmp 27) (kMove (.tmp 3)) (oVal (.tmp 28) (kShr (.tmp 27) (.con (.int .u64 31))) (oVal (.tmp 29) (kInt aXor (.tmp 26) (.tmp 28)) (oVal (.tmp 2) (kMove (.tmp 29)) oNil)))))
theorem res41 : Try.f41.results.toList = [.tmp 2] := by kernel_rfl
def K41 : K := (kSeq (kRegion K41r0 [2]) (kSeq (kRegion K41r1 []) (kSeq (kRegion K41r2 [3]) (kSeq (kRegion K41r3 [3]) (kSeq (kRegion K41r4 [3]) (kSeq (kRegion K41r5 [2]) kRet))))))
theorem enter41 (cl : CallF) (a0 : AV) (s : St) : enterA Try.prog X cl 41 [a0] s Try.f41 = finA Try.prog Try.f41 (K41 cl ⟨41, none, Try.f41.ntmps, X 41⟩ (paramsEnv 0 [a0] .nil) [] s) :=
  enterA_eq (b := Try.f41.body.getD .skip) (by kernel_rfl) (by kernel_rfl) (by kernel_rfl) (by kernel_rfl) (by kernel_rfl)
def K14r0 : OpsF := (oVal (.tmp 4) (kMove (.con (.int .i64 0))) oNil)
def K14r1 : OpsF := (oVal (.tmp 5) (kMove (.tmp 1)) (oVal (.tmp 6) (kInt aLss (.tmp 5) (.con (.int .i64 2))) oNil))
def K14r2 : OpsF := (oVal (.tmp 4) (kMove (.con (.int .i64 0))) oNil)
def K14r3 : OpsF := (oVal (.tmp 7) (kMove (.tmp 0)) (oCall (.tmp 8) (.con (.func 41 [] [])) [(.tmp 7)] (oVal (.tmp 9) (kShr (.tmp 8) (.con (.int .u64 2))) (oVal (.tmp 10) (kMove (.tmp 1)) (oVal (.tmp 11) (kUn (cviA .u64) (.tmp 10)) (oVal (.tmp 12) (kInt aRem (.tmp 9) (.tmp 11)) (oVal (.tmp 13) (kUn (cviA .i64) (.tmp 12)) (oVal (.tmp 4) (kMove (.tmp 13)) oNil))))))))
theorem res14 : Try.f14.results.toList = [.tmp 4] := by kernel_rfl
def K14 : K := (kSeq (kRegion K14r0 [4]) (kSeq (kSeq (kRegion K14r1 [6]) (kCond (.tmp 6) (kSeq (kRegion K14r2 [4]) kRet) kSkip)) (kSeq (kRegion K14r3 [4]) kRet)))
theorem enter14 (cl : CallF) (a0 a1 : AV) (s : St) : enterA Try.prog X cl 14 [a0, a1] s Try.f14 = finA Try.prog Try.f14 (K14 cl ⟨14, none, Try.f14.ntmps, X 14⟩ (paramsEnv 0 [a0, a1] .nil) [] s) :=
  enterA_eq (b := Try.f14.body.getD .skip) (by kernel_rfl) (by kernel_rfl) (by kernel_rfl) (by kernel_rfl) (by kernel_rfl)
def K31r0 : OpsF := (oVal (.tmp 6) (kMove (.con (.int .i64 0))) oNil)
def K31r1 : OpsF := (oVal (.tmp 7) (kMove (.tmp 1)) (oVal (.tmp 8) (kMove (.tmp 0)) (oVal (.tmp 9) (kMove (.tmp 2)) (oVal (.tmp 10) (kMove (.tmp 1)) (oVal (.tmp 11) (kInt aSub (.tmp 9) (.tmp 10)) (oVal (.tmp 12) (kInt aAdd (.tmp 11) (.con (.int .i64 1))) (oCall (.tmp 13) (.con (.func 14 [] [])) [(.tmp 8), (.tmp 12)] (oVal (.tmp 14) (kInt aAdd (.tmp 7) (.tmp 13)) (oVal (.tmp 6) (kMove (.tmp 14)) oNil)))))))))
theorem res31 : Try.f31.results.toList = [.tmp 6] := by kernel_rfl
def K31 : K := (kSeq (kRegion K31r0 [6]) (kSeq (kRegion K31r1 [6]) kRet))
theorem enter31 (cl : CallF) (a0 a1 a2 : AV) (s : St) : enterA Try.prog X cl 31 [a0, a1, a2] s Try.f31 = finA Try.prog Try.f31 (K31 cl ⟨31, none, Try.f31.ntmps, X 31⟩ (paramsEnv 0 [a0, a1, a2] .nil) [] s) :=
  enterA_eq (b := Try.f31.body.getD .skip) (by kernel_rfl) (by kernel_rfl) (by kernel_rfl) (by kernel_rfl) (by kernel_rfl)
def K32r0 : OpsF := (oVal (.tmp 4) (kMove (.con (.int .i64 0))) oNil)
def K32r1 : OpsF := (oVal (.tmp 5) (kMove (.tmp 1)) (oVal (.tmp 6) (kUn lenSlA (.tmp 5)) (oVal (.tmp 7) (kInt aEql (.tmp 6) (.con (.int .i64 0))) oNil)))
def K32r2 : OpsF := (oVal (.tmp 4) (kMove (.con (.int .i64 0))) oNil)
def K32r3 : OpsF := (oVal (.tmp 8) (kMove (.tmp 1)) (oVal (.tmp 9) (kMove (.tmp 0)) (oVal (.tmp 10) (kMove (.tmp 1)) (oVal (.tmp 11) (kUn lenSlA (.tmp 10)) (oCall (.tmp 12) (.con (.func 14 [] [])) [(.tmp 9), (.tmp 11)] (oVal (.tmp 13) (kTwo (ixsA 1) (.tmp 8) (.tmp 12)) (oVal (.tmp 14) (kLoad none (.tmp 13)) (oVal (.tmp 4) (kMove (.tmp 14)) oNil))))))))
theorem res32 : Try.f32.results.toList = [.tmp 4] := by kernel_rfl
def K32 : K := (kSeq (kRegion K32r0 [4]) (kSeq (kSeq (kRegion K32r1 [7]) (kCond (.tmp 7) (kSeq (kRegion K32r2 [4]) kRet) kSkip)) (kSeq (kRegion K32r3 [4]) kRet)))
theorem enter32 (cl : CallF) (a0 a1 : AV) (s : St) : enterA Try.prog X cl 32 [a0, a1] s Try.f32 = finA Try.prog Try.f32 (K32 cl ⟨32, none, Try.f32.ntmps, X 32⟩ (paramsEnv 0 [a0, a1] .nil) [] s) :=
  enterA_eq (b := Try.f32.body.getD .skip) (by kernel_rfl) (by kernel_rfl) (by kernel_rfl) (by kernel_rfl) (by kernel_rfl)
def K42r0 : OpsF := (oVal (.tmp 6) (kAlloc [(.int .i64 0), (.int .i64 0)] (tag 26)) oNil)
def K42r1 : OpsF := (oVal (.tmp 9) (kMove (.tmp 0)) (oVal (.tmp 10) (kMove (.tmp 1)) (oVal (.tmp 11) (kMove (.tmp 2)) (oCall (.tmp 12) (.con (.func 31 [] [])) [(.tmp 9), (.tmp 10), (.tmp 11)] (oVal (.tmp 7) (kMove (.tmp 12)) oNil)))))
def K42r2 : OpsF := (oVal (.tmp 13) (kMove (.tmp 0)) (oVal (.tmp 14) (kMove (.tmp 7)) (oVal (.tmp 15) (kMove (.tmp 2)) (oVal (.tmp 16) (kMove (.tmp 7)) (oVal (.tmp 17) (kInt aAdd (.tmp 16) (.con (.int .i64 4))) (oVal (.tmp 18) (kFold minA (.tmp 15) [(.tmp 17)]) (oVal (.tmp 19) (kMove (.tmp 2)) (oVal (.tmp 20) (kBuildSlice [(.int .i64 0), (.int .i64 0), (.int .i64 0)] 3 [(0, 1, (.tmp 14)), (1, 1, (.tmp 18)), (2, 1, (.tmp 19))]) (oCall (.tmp 21) (.con (.func 32 [] [])) [(.tmp 13), (.tmp 20)] (oVal (.tmp 8) (kMove (.tmp 21)) oNil))))))))))
def K42r3 : OpsF := (oVal (.tmp 22) (kMove (.tmp 7)) (oVal (.tmp 23) (kMove (.tmp 0)) (oVal (.tmp 24) (kMove (.tmp 7)) (oVal (.tmp 25) (kMove (.tmp 8)) (oCall (.tmp 26) (.con (.func 31 [] [])) [(.tmp 23), (.tmp 24), (.tmp 25)] (oVal (.tmp 27) (kBuild [(.int .i64 0), (.int .i64 0)] [(0, 1, (.tmp 22)), (1, 1, (.tmp 26))]) (oVal .none (kStore 2 (.tmp 6) (.tmp 27)) oNil)))))))
theorem res42 : Try.f42.results.toList = [.cell 6 26] := by kernel_rfl
def K42 : K := (kSeq (kRegion K42r0 [6]) (kSeq (kRegion K42r1 [7]) (kSeq (kRegion K42r2 [8]) (kSeq (kRegion K42r3 []) kRet))))
theorem enter42 (cl : CallF) (a0 a1 a2 : AV) (s : St) : enterA Try.prog X cl 42 [a0, a1, a2] s Try.f42 = finA Try.prog Try.f42 (K42 cl ⟨42, none, Try.f42.ntmps, X 42⟩ (paramsEnv 0 [a0, a1, a2] .nil) [] s) :=
  enterA_eq (b := Try.f42.body.getD .skip) (by kernel_rfl) (by kernel_rfl) (by kernel_rfl) (by kernel_rfl) (by kernel_rfl)
def K50r0 : OpsF := (oVal (.tmp 3) (kBox (tag 26) (.tmp 1)) (oVal (.tmp 4) (kMove (.con (.int .i64 0))) oNil))
def K50r1 : OpsF := (oEnd [] (oVal (.tmp 5) (kMove (.tmp 0)) (oVal (.tmp 6) (kUn (fadA 0) (.tmp 3)) (oVal (.tmp 7) (kLoad none (.tmp 6)) (oVal (.tmp 8) (kUn (fadA 1) (.tmp 3)) (oVal (.tmp 9) (kLoad none (.tmp 8)) (oVal (.tmp 10) (kMove (.tmp 0)) (oVal (.tmp 11) (kUn (fadA 0) (.tmp 3)) (oVal (.tmp 12) (kLoad none (.tmp 11)) (oVal (.tmp 13) (kUn (fadA 1) (.tmp 3)) (oVal (.tmp 14) (kLoad none (.tmp 13)) (oCallT (some [6, 8, 17, 19]) (.tmp 15) (.con (.func 31 [] [])) [(.tmp 10), (.tmp 12), (.tmp 14)] (oVal (.tmp 16) (kMove (.tmp 0)) (oVal (.tmp 17) (kUn (fadA 0) (.tmp 3)) (oVal (.tmp 18) (kLoad none (.tmp 17)) (oVal (.tmp 19) (kUn (fadA 1) (.tmp 3)) (oVal (.tmp 20) (kLoad none (.tmp 19)) (oCallT (some [6, 8]) (.tmp 21) (.con (.func 31 [] [])) [(.tmp 16), (.tmp 18), (.tmp 20)] (oVal (.tmp 22) (kBuildSlice [(.int .i64 0), (.int .i64 0), (.int .i64 0), (.int .i64 0)] 4 [(0, 1, (.tmp 7)), (1, 1, (.tmp 9)), (2, 1, (.tmp 15)), (3, 1, (.tmp 21))]) (oCall (.tmp 23) (.con (.func 32 [] [])) [(.tmp 5), (.tmp 22)] (oVal (.tmp 4) (kMove (.tmp 23)) oNil)))))))))))))))))))))
theorem res50 : Try.f50.results.toList = [.tmp 4] := by kernel_rfl
def K50 : K := (kSeq (kRegion K50r0 [3, 4]) (kSeq (kRegionD K50r1 [4]) kRet))
theorem enter50 (cl : CallF) (a0 a1 : AV) (s : St) : enterA Try.prog X cl 50 [a0, a1] s Try.f50 = finA Try.prog Try.f50 (K50 cl ⟨50, none, Try.f50.ntmps, X 50⟩ (paramsEnv 0 [a0, a1] .nil) [] s) :=
  enterA_eq (b := Try.f50.body.getD .skip) (by kernel_rfl) (by kernel_rfl) (by kernel_rfl) (by kernel_rfl) (by kernel_rfl)
def K39r0 : OpsF := (oVal (.tmp 3) (kBox (tag 26) (.tmp 1)) (oVal (.tmp 4) (kAlloc [(.int .i64 0), (.int .i64 0)] (tag 26)) oNil))
def K39r1 : OpsF := (oEnd [] (oVal (.tmp 7) (kMove (.tmp 0)) (oVal (.tmp 8) (kLoad (some 2) (.tmp 3)) (oCallT (some [3]) (.tmp 9) (.con (.func 50 [] [])) [(.tmp 7), (.tmp 8)] (oVal (.tmp 10) (kMove (.tmp 0)) (oVal (.tmp 11) (kLoad (some 2) (.tmp 3)) (oCall (.tmp 12) (.con (.func 50 [] [])) [(.tmp 10), (.tmp 11)] (oVal (.tmp 5) (kMove (.tmp 9)) (oVal (.tmp 6) (kMove (.tmp 12)) oNil)))))))))
def K39r2 : OpsF := (oVal (.tmp 13) (kMove (.tmp 5)) (oVal (.tmp 14) (kMove (.tmp 6)) (oVal (.tmp 15) (kFold minA (.tmp 13) [(.tmp 14)]) (oVal (.tmp 16) (kMove (.tmp 5)) (oVal (.tmp 17) (kMove (.tmp 6)) (oVal (.tmp 18) (kFold maxA (.tmp 16) [(.tmp 17)]) (oVal (.tmp 19) (kBuild [(.int .i64 0), (.int .i64 0)] [(0, 1, (.tmp 15)), (1, 1, (.tmp 18))]) (oVal .none (kStore 2 (.tmp 4) (.tmp 19)) oNil))))))))
theorem res39 : Try.f39.results.toList = [.cell 4 26] := by kernel_rfl
def K39 : K := (kSeq (kRegion K39r0 [3, 4]) (kSeq (kRegionD K39r1 [5, 6]) (kSeq (kRegion K39r2 []) kRet)))
theorem enter39 (cl : CallF) (a0 a1 : AV) (s : St) : enterA Try.prog X cl 39 [a0, a1] s Try.f39 = finA Try.prog Try.f39 (K39 cl ⟨39, none, Try.f39.ntmps, X 39⟩ (paramsEnv 0 [a0, a1] .nil) [] s) :=
  enterA_eq (b := Try.f39.body.getD .skip) (by kernel_rfl) (by kernel_rfl) (by kernel_rfl) (by kernel_rfl) (by kernel_rfl)
def K10r0 : OpsF := (oVal (.tmp 2) (kMove (.con .nilptr)) oNil)
def K10r1 : OpsF := (oVal (.tmp 5) (kBuild [(.int .u64 0)] [(0, 1, (.con (.int .u64 2611923443488327891)))]) (oVal (.tmp 6) (kBox (tag 84) (.tmp 5)) (oVal (.tmp 3) (kMove (.tmp 6)) oNil)))
def K10r2 : OpsF := (oVal (.tmp 4) (kMove (.con (.int .i64 0))) oNil)
def K10r3 : OpsF := (oVal (.tmp 7) (kMove (.tmp 4)) (oVal (.tmp 8) (kMove (.tmp 0)) (oVal (.tmp 9) (kUn lenSlA (.tmp 8)) (oVal (.tmp 10) (kInt aLss (.tmp 7) (.tmp 9)) oNil))))
def K10r4 : OpsF := (oEnd [] (oVal (.tmp 13) (kMove (.tmp 3)) (oVal (.tmp 14) (kMove (.tmp 3)) (oVal (.tmp 15) (kUn nilA (.tmp 14)) (oVal (.tmp 16) (kUn (fadA 0) (.tmp 15)) (oVal (.tmp 17) (kLoad none (.tmp 16)) (oVal (.tmp 18) (kMove (.tmp 0)) (oVal (.tmp 19) (kMove (.tmp 4)) (oVal (.tmp 20) (kTwo (ixsA 1) (.tmp 18) (.tmp 19)) (oVal (.tmp 21) (kLoad none (.tmp 20)) (oVal (.tmp 22) (kUn (cviA .u64) (.tmp 21)) (oVal (.tmp 23) (kInt aXor (.tmp 17) (.tmp 22)) (oVal (.tmp 24) (kInt aMul (.tmp 23) (.con (.int .u64 11507291218515648293))) (oVal (.tmp 25) (kUn nilA (.tmp 13)) (oVal (.tmp 26) (kUn (fadA 0) (.tmp 25)) (oVal .none (kStore 1 (.tmp 26) (.tmp 24)) oNil))))))))))))))))
def K10r5 : OpsF := (oVal (.tmp 27) (kMove (.tmp 3)) (oCall (.tmp 28) (.con (.func 41 [] [])) [(.tmp 27)] oNil))
def K10r6 : OpsF := (oVal (.tmp 11) (kMove (.tmp 4)) (oVal (.tmp 12) (kInt aAdd (.tmp 11) (.con (.int .i64 1))) (oVal (.tmp 4) (kMove (.tmp 12)) oNil)))
def K10l0 : K := (kSeq (kSeq (kRegion K10r3 [10]) (kCond (.tmp 10) kSkip (kExit 0))) (kSeq (kBlock 1 (kSeq (kRegionD K10r4 []) (kRegion K10r5 []))) (kRegion K10r6 [4])))
def K10r7 : OpsF := (oVal (.tmp 29) (kMove (.tmp 3)) (oVal (.tmp 2) (kMove (.tmp 29)) oNil))
theorem res10 : Try.f10.results.toList = [.tmp 2] := by kernel_rfl
def K10 : K := (kSeq (kRegion K10r0 [2]) (kSeq (kRegion K10r1 [3]) (kSeq (kSeq (kRegion K10r2 [4]) (kBlock 0 (kLoop K10l0))) (kSeq (kRegion K10r7 [2]) kRet))))
theorem enter10 (cl : CallF) (a0 : AV) (s : St) : enterA Try.prog X cl 10 [a0] s Try.f10 = finA Try.prog Try.f10 (K10 cl ⟨10, none, Try.f10.ntmps, X 10⟩ (paramsEnv 0 [a0] .nil) [] s) :=
  enterA_eq (b := Try.f10.body.getD .skip) (by kernel_rfl) (by kernel_rfl) (by kernel_rfl) (by kernel_rfl) (by kernel_rfl)
end
end Go.Proofs.Ythambbefgbhnkaa.code
set_option maxRecDepth 100000
namespace Go.Proofs.Ythambbefgbhnkaa.code
open Go.Abs
noncomputable section
def K11r0 : OpsF := (oVal (.tmp 6) (kAlloc [(.int .i64 0), (.int .i64 0), .nilslice, .nilslice, .nilslice] (tag 31)) oNil)
def K11r1 : OpsF := (oVal (.tmp 16) (kMove (.tmp 0)) (oCall (.tmp 17) (.con (.func 42 [] [])) [(.tmp 16), (.con (.int .i64 (-20))), (.con (.int .i64 200))] (oVal (.tmp 18) (kBuild [(.int .i64 0), (.int .i64 0), .nilslice, .nilslice, .nilslice] [(0, 2, (.tmp 17))]) (oVal (.tmp 7) (kAlloc [(.int .i64 0), (.int .i64 0), .nilslice, .nilslice, .nilslice] (tag 31)) (oVal .none (kStore 5 (.tmp 7) (.tmp 18)) oNil)))))
def K11r2 : OpsF := (oVal (.tmp 19) (kMove (.tmp 0)) (oVal (.tmp 20) (kMove (.tmp 1)) (oVal (.tmp 21) (kInt aAdd (.tmp 20) (.con (.int .i64 1))) (oCall (.tmp 22) (.con (.func 14 [] [])) [(.tmp 19), (.tmp 21)] (oVal (.tmp 8) (kMove (.tmp 22)) oNil)))))
def K11r3 : OpsF := (oVal (.tmp 23) (kMove (.tmp 8)) (oVal (.tmp 24) (kGtr (.tmp 23) (.con (.int .i64 0))) oNil))
def K11r4 : OpsF := (oVal (.tmp 27) (kMove (.tmp 0)) (oVal (.tmp 28) (kMove (.tmp 0)) (oVal (.tmp 29) (kBuildSlice [(.int .i64 0), (.int .i64 0)] 2 [(0, 1, (.con (.int .i64 30))), (1, 1, (.con (.int .i64 500)))]) (oCall (.tmp 30) (.con (.func 32 [] [])) [(.tmp 28), (.tmp 29)] (oCall (.tmp 31) (.con (.func 31 [] [])) [(.tmp 27), (.con (.int .i64 1)), (.tmp 30)] (oVal (.tmp 32) (kBuild [(.int .i64 0), (.int .i64 0), (.int .i64 0), (.int .i64 0), (.int .i64 0), (.int .i64 0), (.int .i64 0), (.int .i64 0), (.int .i64 0)] [(0, 1, (.tmp 31))]) (oVal (.tmp 9) (kAlloc [(.int .i64 0), (.int .i64 0), (.int .i64 0), (.int .i64 0), (.int .i64 0), (.int .i64 0), (.int .i64 0), (.int .i64 0), (.int .i64 0)] (tag 79)) (oVal .none (kStore 9 (.tmp 9) (.tmp 32)) oNil))))))))
def K11r5 : OpsF := (oEnd [] (oVal (.tmp 33) (kMove (.tmp 0)) (oVal (.tmp 34) (kUn (fadA 0) (.tmp 9)) (oVal (.tmp 35) (kLoad none (.tmp 34)) (oCallT (some [39]) (.tmp 36) (.con (.func 42 [] [])) [(.tmp 33), (.con (.int .i64 0)), (.tmp 35)] (oVal (.tmp 37) (kMove (.tmp 0)) (oVal (.tmp 38) (kMove (.tmp 0)) (oVal (.tmp 39) (kUn (fadA 0) (.tmp 9)) (oVal (.tmp 40) (kLoad none (.tmp 39)) (oVal (.tmp 41) (kInt aQuo (.tmp 40) (.con (.int .i64 4))) (oVal (.tmp 42) (kInt aAdd (.con (.int .i64 1)) (.tmp 41)) (oVal (.tmp 43) (kBuildSlice [(.int .i64 0), (.int .i64 0)] 2 [(0, 1, (.con (.int .i64 2))), (1, 1, (.tmp 42))]) (oCall (.tmp 44) (.con (.func 32 [] [])) [(.tmp 38), (.tmp 43)] (oCall (.tmp 45) (.con (.func 42 [] [])) [(.tmp 37), (.con (.int .i64 0)), (.tmp 44)] (oVal (.tmp 46) (kUn (fadA 1) (.tmp 9)) (oVal .none (kStore 2 (.tmp 46) (.tmp 36)) (oVal (.tmp 47) (kUn (fadA 3) (.tmp 9)) (oVal .none (kStore 2 (.tmp 47) (.tmp 45)) oNil))))))))))))))))))
def K11r6 : OpsF := (oVal (.tmp 48) (kMove (.tmp 0)) (oCall (.tmp 49) (.con (.func 42 [] [])) [(.tmp 48), (.con (.int .i64 (-50))), (.con (.int .i64 30))] (oVal (.tmp 50) (kUn (fadA 5) (.tmp 9)) (oVal .none (kStore 2 (.tmp 50) (.tmp 49)) oNil))))
def K11r7 : OpsF := (oVal (.tmp 51) (kMove (.tmp 0)) (oVal (.tmp 52) (kUn (fadA 5) (.tmp 9)) (oVal (.tmp 53) (kUn (fadA 1) (.tmp 52)) (oVal (.tmp 54) (kLoad none (.tmp 53)) (oVal (.tmp 55) (kUn (fadA 5) (.tmp 9)) (oVal (.tmp 56) (kUn (fadA 1) (.tmp 55)) (oVal (.tmp 57) (kLoad none (.tmp 56)) (oVal (.tmp 58) (kInt aAdd (.tmp 57) (.con (.int .i64 120))) (oCall (.tmp 59) (.con (.func 42 [] [])) [(.tmp 51), (.tmp 54), (.tmp 58)] (oVal (.tmp 60) (kUn (fadA 7) (.tmp 9)) (oVal .none (kStore 2 (.tmp 60) (.tmp 59)) oNil)))))))))))
def K11r8 : OpsF := (oVal (.tmp 61) (kUn (fadA 2) (.tmp 7)) (oVal (.tmp 62) (kLoad none (.tmp 61)) (oVal (.tmp 63) (kLoad (some 9) (.tmp 9)) (oVal (.tmp 64) (kBuildSlice [(.int .i64 0), (.int .i64 0), (.int .i64 0), (.int .i64 0), (.int .i64 0), (.int .i64 0), (.int .i64 0), (.int .i64 0), (.int .i64 0)] 1 [(0, 9, (.tmp 63))]) (oVal (.tmp 65) (kTwo (appendA false 9 72 (tag 79)) (.tmp 62) (.tmp 64)) (oVal (.tmp 66) (kUn (fadA 2) (.tmp 7)) (oVal .none (kStore 1 (.tmp 66) (.tmp 65)) oNil)))))))
def K11r9 : OpsF := (oVal (.tmp 25) (kMove (.tmp 8)) (oVal (.tmp 26) (kInt aSub (.tmp 25) (.con (.int .i64 1))) (oVal (.tmp 8) (kMove (.tmp 26)) oNil)))
def K11l0 : K := (kSeq (kSeq (kRegion K11r3 [24]) (kCond (.tmp 24) kSkip (kExit 0))) (kSeq (kBlock 1 (kSeq (kRegion K11r4 [9]) (kSeq (kRegionD K11r5 []) (kSeq (kRegion K11r6 []) (kSeq (kRegion K11r7 []) (kRegion K11r8 [])))))) (kRegion K11r9 [8])))
def K11r10 : OpsF := (oVal (.tmp 10) (kMove (.con (.int .i64 0))) oNil)
def K11r11 : OpsF := (oVal (.tmp 67) (kMove (.tmp 0)) (oVal (.tmp 68) (kMove (.tmp 2)) (oVal (.tmp 69) (kInt aAdd (.tmp 68) (.con (.int .i64 1))) (oCall (.tmp 70) (.con (.func 14 [] [])) [(.tmp 67), (.tmp 69)] (oVal (.tmp 11) (kMove (.tmp 70)) oNil)))))
def K11r12s7 : OpsF := (oVal (.tmp 78) (kPick (.tmp 73) (.tmp 77) (.con (.bool false))) oNil)
def K11r12s6 : OpsF := (oIf 73 true (oVal (.tmp 77) (kGtr (.tmp 76) (.con (.int .i64 0))) K11r12s7) (oSkip (.tmp 77) K11r12s7))
def K11r12s5 : OpsF := (oIf 73 true (oVal (.tmp 76) (kUn lenSlA (.tmp 75)) K11r12s6) (oSkip (.tmp 76) K11r12s6))
def K11r12s4 : OpsF := (oIf 73 true (oVal (.tmp 75) (kLoad none (.tmp 74)) K11r12s5) (oSkip (.tmp 75) K11r12s5))
def K11r12 : OpsF := (oVal (.tmp 71) (kMove (.tmp 11)) (oVal (.tmp 72) (kGtr (.tmp 71) (.con (.int .i64 0))) (oVal (.tmp 73) (kMove (.tmp 72)) (oIf 73 true (oVal (.tmp 74) (kUn (fadA 2) (.tmp 7)) K11r12s4) (oSkip (.tmp 74) K11r12s4)))))
def K11r13 : OpsF := (oVal (.tmp 81) (kMove (.tmp 10)) (oVal (.tmp 82) (kMove (.tmp 0)) (oCall (.tmp 83) (.con (.func 14 [] [])) [(.tmp 82), (.con (.int .i64 6))] (oVal (.tmp 84) (kInt aAdd (.tmp 81) (.tmp 83)) (oVal (.tmp 10) (kMove (.tmp 84)) oNil)))))
def K11r14 : OpsF := (oVal (.tmp 85) (kMove (.tmp 0)) (oVal (.tmp 86) (kUn (fadA 2) (.tmp 7)) (oVal (.tmp 87) (kLoad none (.tmp 86)) (oVal (.tmp 88) (kUn lenSlA (.tmp 87)) (oCall (.tmp 89) (.con (.func 14 [] [])) [(.tmp 85), (.tmp 88)] (oVal (.tmp 12) (kMove (.tmp 89)) oNil))))))
def K11r15 : OpsF := (oEnd [] (oVal (.tmp 90) (kUn (fadA 3) (.tmp 7)) (oVal (.tmp 91) (kLoad none (.tmp 90)) (oVal (.tmp 92) (kMove (.tmp 12)) (oVal (.tmp 93) (kMove (.tmp 10)) (oVal (.tmp 94) (kMove (.tmp 0)) (oVal (.tmp 95) (kUn (fadA 2) (.tmp 7)) (oVal (.tmp 96) (kLoad none (.tmp 95)) (oVal (.tmp 97) (kMove (.tmp 12)) (oVal (.tmp 98) (kTwo (ixsA 9) (.tmp 96) (.tmp 97)) (oVal (.tmp 99) (kUn (fadA 0) (.tmp 98)) (oVal (.tmp 100) (kLoad none (.tmp 99)) (oVal (.tmp 101) (kInt aAdd (.tmp 100) (.con (.int .i64 5))) (oCallT (some [90]) (.tmp 102) (.con (.func 14 [] [])) [(.tmp 94), (.tmp 101)] (oVal (.tmp 103) (kBuild [(.int .i64 0), (.int .i64 0), (.int .i64 0)] [(0, 1, (.tmp 92)), (1, 1, (.tmp 93)), (2, 1, (.tmp 102))]) (oVal (.tmp 104) (kBuildSlice [(.int .i64 0), (.int .i64 0), (.int .i64 0)] 1 [(0, 3, (.tmp 103))]) (oVal (.tmp 105) (kTwo (appendA false 3 24 (tag 87)) (.tmp 91) (.tmp 104)) (oVal (.tmp 106) (kUn (fadA 3) (.tmp 7)) (oVal .none (kStore 1 (.tmp 106) (.tmp 105)) oNil)))))))))))))))))))
def K11r16 : OpsF := (oVal (.tmp 79) (kMove (.tmp 11)) (oVal (.tmp 80) (kInt aSub (.tmp 79) (.con (.int .i64 1))) (oVal (.tmp 11) (kMove (.tmp 80)) oNil)))
def K11l1 : K := (kSeq (kSeq (kRegion K11r12 [78]) (kCond (.tmp 78) kSkip (kExit 2))) (kSeq (kBlock 3 (kSeq (kRegion K11r13 [10]) (kSeq (kRegion K11r14 [12]) (kRegionD K11r15 [])))) (kRegion K11r16 [11])))
def K11r17 : OpsF := (oVal (.tmp 107) (kMove (.tmp 0)) (oCall (.tmp 108) (.con (.func 31 [] [])) [(.tmp 107), (.con (.int .i64 (-60))), (.con (.int .i64 20))] (oVal (.tmp 109) (kMove (.tmp 0)) (oCall (.tmp 110) (.con (.func 14 [] [])) [(.tmp 109), (.con (.int .i64 3))] (oVal (.tmp 13) (kMove (.tmp 108)) (oVal (.tmp 14) (kMove (.tmp 110)) oNil))))))
def K11r18 : OpsF := (oVal (.tmp 111) (kMove (.tmp 0)) (oCall (.tmp 112) (.con (.func 31 [] [])) [(.tmp 111), (.con (.int .i64 1)), (.con (.int .i64 4))] (oVal (.tmp 15) (kMove (.tmp 112)) oNil)))
def K11r19 : OpsF := (oVal (.tmp 113) (kMove (.tmp 15)) (oVal (.tmp 114) (kGtr (.tmp 113) (.con (.int .i64 0))) oNil))
def K11r20 : OpsF := (oVal (.tmp 117) (kUn (fadA 4) (.tmp 7)) (oVal (.tmp 118) (kLoad none (.tmp 117)) (oVal (.tmp 119) (kMove (.tmp 13)) (oVal (.tmp 120) (kMove (.tmp 14)) (oVal (.tmp 121) (kBuild [(.int .i64 0), (.int .i64 0)] [(0, 1, (.tmp 119)), (1, 1, (.tmp 120))]) (oVal (.tmp 122) (kBuildSlice [(.int .i64 0), (.int .i64 0)] 1 [(0, 2, (.tmp 121))]) (oVal (.tmp 123) (kTwo (appendA false 2 16 (tag 89)) (.tmp 118) (.tmp 122)) (oVal (.tmp 124) (kUn (fadA 4) (.tmp 7)) (oVal .none (kStore 1 (.tmp 124) (.tmp 123)) oNil)))))))))
def K11r21 : OpsF := (oVal (.tmp 125) (kMove (.tmp 13)) (oVal (.tmp 126) (kMove (.tmp 0)) (oCall (.tmp 127) (.con (.func 31 [] [])) [(.tmp 126), (.con (.int .i64 1)), (.con (.int .i64 60))] (oVal (.tmp 128) (kInt aAdd (.tmp 125) (.tmp 127)) (oVal (.tmp 129) (kMove (.tmp 14)) (oVal (.tmp 130) (kMove (.tmp 0)) (oCall (.tmp 131) (.con (.func 14 [] [])) [(.tmp 130), (.con (.int .i64 8))] (oVal (.tmp 132) (kInt aAdd (.tmp 129) (.tmp 131)) (oVal (.tmp 13) (kMove (.tmp 128)) (oVal (.tmp 14) (kMove (.tmp 132)) oNil))))))))))
def K11r22 : OpsF := (oVal (.tmp 115) (kMove (.tmp 15)) (oVal (.tmp 116) (kInt aSub (.tmp 115) (.con (.int .i64 1))) (oVal (.tmp 15) (kMove (.tmp 116)) oNil)))
def K11l2 : K := (kSeq (kSeq (kRegion K11r19 [114]) (kCond (.tmp 114) kSkip (kExit 4))) (kSeq (kBlock 5 (kSeq (kRegion K11r20 []) (kRegion K11r21 [13, 14]))) (kRegion K11r22 [15])))
def K11r23 : OpsF := (oVal (.tmp 133) (kLoad (some 5) (.tmp 7)) (oVal .none (kStore 5 (.tmp 6) (.tmp 133)) oNil))
theorem res11 : Try.f11.results.toList = [.cell 6 31] := by kernel_rfl
def K11 : K := (kSeq (kRegion K11r0 [6]) (kSeq (kRegion K11r1 [7]) (kSeq (kSeq (kRegion K11r2 [8]) (kBlock 0 (kLoop K11l0))) (kSeq (kRegion K11r10 [10]) (kSeq (kSeq (kRegion K11r11 [11]) (kBlock 2 (kLoop K11l1))) (kSeq (kRegion K11r17 [13, 14]) (kSeq (kSeq (kRegion K11r18 [15]) (kBlock 4 (kLoop K11l2))) (kSeq (kRegion K11r23 []) kRet))))))))
theorem enter11 (cl : CallF) (a0 a1 a2 : AV) (s : St) : enterA Try.prog X cl 11 [a0, a1, a2] s Try.f11 = finA Try.prog Try.f11 (K11 cl ⟨11, none, Try.f11.ntmps, X 11⟩ (paramsEnv 0 [a0, a1, a2] .nil) [] s) :=
  enterA_eq (b := Try.f11.body.getD .skip) (by kernel_rfl) (by kernel_rfl) (by kernel_rfl) (by kernel_rfl) (by kernel_rfl)
def K12r0 : OpsF := (oVal (.tmp 4) (kBox (tag 31) (.tmp 1)) (oVal (.tmp 6) (kAlloc [(.int .i64 0), (.int .i64 0), .nilslice] (tag 35)) oNil))
def K12r1 : OpsF := (oVal (.tmp 11) (kMove (.tmp 0)) (oCall (.tmp 12) (.con (.func 14 [] [])) [(.tmp 11), (.con (.int .i64 10))] (oVal (.tmp 13) (kMove (.tmp 0)) (oVal (.tmp 14) (kMove (.tmp 0)) (oCall (.tmp 15) (.con (.func 14 [] [])) [(.tmp 14), (.con (.int .i64 40))] (oVal (.tmp 16) (kMove (.tmp 0)) (oCall (.tmp 17) (.con (.func 14 [] [])) [(.tmp 16), (.con (.int .i64 200))] (oVal (.tmp 18) (kBuildSlice [(.int .i64 0), (.int .i64 0), (.int .i64 0)] 3 [(0, 1, (.con (.int .i64 0))), (1, 1, (.tmp 15)), (2, 1, (.tmp 17))]) (oCall (.tmp 19) (.con (.func 32 [] [])) [(.tmp 13), (.tmp 18)] (oVal (.tmp 20) (kBuild [(.int .i64 0), (.int .i64 0), .nilslice] [(0, 1, (.tmp 12)), (1, 1, (.tmp 19))]) (oVal (.tmp 7) (kAlloc [(.int .i64 0), (.int .i64 0), .nilslice] (tag 35)) (oVal .none (kStore 3 (.tmp 7) (.tmp 20)) oNil))))))))))))
def K12r2 : OpsF := (oVal (.tmp 21) (kUn (fadA 0) (.tmp 7)) (oVal (.tmp 22) (kLoad none (.tmp 21)) (oVal (.tmp 8) (kMove (.tmp 22)) oNil)))
def K12r3 : OpsF := (oVal (.tmp 23) (kMove (.tmp 0)) (oVal (.tmp 24) (kMove (.tmp 2)) (oVal (.tmp 25) (kInt aAdd (.tmp 24) (.con (.int .i64 1))) (oCall (.tmp 26) (.con (.func 14 [] [])) [(.tmp 23), (.tmp 25)] (oVal (.tmp 9) (kMove (.tmp 26)) oNil)))))
def K12r4s7 : OpsF := (oVal (.tmp 34) (kPick (.tmp 29) (.tmp 33) (.con (.bool false))) oNil)
def K12r4s6 : OpsF := (oIf 29 true (oVal (.tmp 33) (kGtr (.tmp 32) (.con (.int .i64 0))) K12r4s7) (oSkip (.tmp 33) K12r4s7))
def K12r4s5 : OpsF := (oIf 29 true (oVal (.tmp 32) (kUn lenSlA (.tmp 31)) K12r4s6) (oSkip (.tmp 32) K12r4s6))
def K12r4s4 : OpsF := (oIf 29 true (oVal (.tmp 31) (kLoad none (.tmp 30)) K12r4s5) (oSkip (.tmp 31) K12r4s5))
def K12r4 : OpsF := (oVal (.tmp 27) (kMove (.tmp 9)) (oVal (.tmp 28) (kGtr (.tmp 27) (.con (.int .i64 0))) (oVal (.tmp 29) (kMove (.tmp 28)) (oIf 29 true (oVal (.tmp 30) (kUn (fadA 2) (.tmp 4)) K12r4s4) (oSkip (.tmp 30) K12r4s4)))))
def K12r5 : OpsF := (oVal (.tmp 37) (kMove (.tmp 0)) (oVal (.tmp 38) (kUn (fadA 2) (.tmp 4)) (oVal (.tmp 39) (kLoad none (.tmp 38)) (oVal (.tmp 40) (kUn lenSlA (.tmp 39)) (oCall (.tmp 41) (.con (.func 14 [] [])) [(.tmp 37), (.tmp 40)] (oVal (.tmp 42) (kMove (.tmp 8)) (oVal (.tmp 43) (kMove (.tmp 0)) (oVal (.tmp 44) (kMove (.tmp 0)) (oCall (.tmp 45) (.con (.func 14 [] [])) [(.tmp 44), (.con (.int .i64 3))] (oVal (.tmp 46) (kBuildSlice [(.int .i64 0), (.int .i64 0)] 2 [(0, 1, (.con (.int .i64 0))), (1, 1, (.tmp 45))]) (oCall (.tmp 47) (.con (.func 32 [] [])) [(.tmp 43), (.tmp 46)] (oVal (.tmp 48) (kInt aAdd (.tmp 42) (.tmp 47)) (oVal (.tmp 49) (kBuild [(.int .i64 0), (.int .i64 0), (.int .i64 0)] [(0, 1, (.tmp 41)), (1, 1, (.tmp 48))]) (oVal (.tmp 10) (kAlloc [(.int .i64 0), (.int .i64 0), (.int .i64 0)] (tag 91)) (oVal .none (kStore 3 (.tmp 10) (.tmp 49)) oNil)))))))))))))))
def K12r6 : OpsF := (oEnd [] (oVal (.tmp 50) (kUn (fadA 1) (.tmp 10)) (oVal (.tmp 51) (kLoad none (.tmp 50)) (oVal (.tmp 52) (kMove (.tmp 0)) (oCallT (some [50]) (.tmp 53) (.con (.func 31 [] [])) [(.tmp 52), (.con (.int .i64 1)), (.con (.int .i64 8))] (oVal (.tmp 54) (kInt aAdd (.tmp 51) (.tmp 53)) (oVal (.tmp 55) (kUn (fadA 2) (.tmp 10)) (oVal .none (kStore 1 (.tmp 55) (.tmp 54)) oNil))))))))
def K12r7 : OpsF := (oVal (.tmp 56) (kUn (fadA 2) (.tmp 7)) (oVal (.tmp 57) (kLoad none (.tmp 56)) (oVal (.tmp 58) (kLoad (some 3) (.tmp 10)) (oVal (.tmp 59) (kBuildSlice [(.int .i64 0), (.int .i64 0), (.int .i64 0)] 1 [(0, 3, (.tmp 58))]) (oVal (.tmp 60) (kTwo (appendA false 3 24 (tag 91)) (.tmp 57) (.tmp 59)) (oVal (.tmp 61) (kUn (fadA 2) (.tmp 7)) (oVal .none (kStore 1 (.tmp 61) (.tmp 60)) oNil)))))))
def K12r8 : OpsF := (oVal (.tmp 62) (kUn (fadA 2) (.tmp 10)) (oVal (.tmp 63) (kLoad none (.tmp 62)) (oVal (.tmp 8) (kMove (.tmp 63)) oNil)))
def K12r9 : OpsF := (oVal (.tmp 35) (kMove (.tmp 9)) (oVal (.tmp 36) (kInt aSub (.tmp 35) (.con (.int .i64 1))) (oVal (.tmp 9) (kMove (.tmp 36)) oNil)))
def K12l0 : K := (kSeq (kSeq (kRegion K12r4 [34]) (kCond (.tmp 34) kSkip (kExit 0))) (kSeq (kBlock 1 (kSeq (kRegion K12r5 [10]) (kSeq (kRegionD K12r6 []) (kSeq (kRegion K12r7 []) (kRegion K12r8 [8]))))) (kRegion K12r9 [9])))
def K12r10 : OpsF := (oVal (.tmp 64) (kLoad (some 3) (.tmp 7)) (oVal .none (kStore 3 (.tmp 6) (.tmp 64)) oNil))
theorem res12 : Try.f12.results.toList = [.cell 6 35] := by kernel_rfl
def K12 : K := (kSeq (kRegion K12r0 [4, 6]) (kSeq (kRegion K12r1 [7]) (kSeq (kRegion K12r2 [8]) (kSeq (kSeq (kRegion K12r3 [9]) (kBlock 0 (kLoop K12l0))) (kSeq (kRegion K12r10 []) kRet)))))
theorem enter12 (cl : CallF) (a0 a1 a2 : AV) (s : St) : enterA Try.prog X cl 12 [a0, a1, a2] s Try.f12 = finA Try.prog Try.f12 (K12 cl ⟨12, none, Try.f12.ntmps, X 12⟩ (paramsEnv 0 [a0, a1, a2] .nil) [] s) :=
  enterA_eq (b := Try.f12.body.getD .skip) (by kernel_rfl) (by kernel_rfl) (by kernel_rfl) (by kernel_rfl) (by kernel_rfl)
end
end Go.Proofs.Ythambbefgbhnkaa.code
set_option maxRecDepth 100000
namespace Go.Proofs.Ythambbefgbhnkaa.code
open Go.Abs
noncomputable section
def K13r0 : OpsF := (oVal (.tmp 3) (kBox (tag 35) (.tmp 1)) (oVal (.tmp 4) (kMove (.con (.int .i64 0))) oNil))
def K13r1 : OpsF := (oEnd [] (oVal (.tmp 5) (kUn (fadA 0) (.tmp 3)) (oVal (.tmp 6) (kLoad none (.tmp 5)) (oVal (.tmp 7) (kMove (.tmp 0)) (oVal (.tmp 8) (kMove (.tmp 0)) (oVal (.tmp 9) (kBuildSlice [(.int .i64 0), (.int .i64 0), (.int .i64 0)] 3 [(0, 1, (.con (.int .i64 6))), (1, 1, (.con (.int .i64 30))), (2, 1, (.con (.int .i64 60)))]) (oCallT (some [5]) (.tmp 10) (.con (.func 32 [] [])) [(.tmp 8), (.tmp 9)] (oCallT (some [5]) (.tmp 11) (.con (.func 14 [] [])) [(.tmp 7), (.tmp 10)] (oVal (.tmp 12) (kInt aAdd (.tmp 6) (.tmp 11)) (oVal (.tmp 13) (kFold minA (.con (.int .i64 240)) [(.tmp 12)]) (oVal (.tmp 4) (kMove (.tmp 13)) oNil)))))))))))
theorem res13 : Try.f13.results.toList = [.tmp 4] := by kernel_rfl
def K13 : K := (kSeq (kRegion K13r0 [3, 4]) (kSeq (kRegionD K13r1 [4]) kRet))
theorem enter13 (cl : CallF) (a0 a1 : AV) (s : St) : enterA Try.prog X cl 13 [a0, a1] s Try.f13 = finA Try.prog Try.f13 (K13 cl ⟨13, none, Try.f13.ntmps, X 13⟩ (paramsEnv 0 [a0, a1] .nil) [] s) :=
  enterA_eq (b := Try.f13.body.getD .skip) (by kernel_rfl) (by kernel_rfl) (by kernel_rfl) (by kernel_rfl) (by kernel_rfl)
def K38r0 : OpsF := (oVal (.tmp 1) (kBox (tag 31) (.tmp 0)) (oVal (.tmp 2) (kAlloc [(.int .i64 0), (.int .i64 0), .nilslice, .nilslice, .nilslice] (tag 31)) oNil))
def K38r1 : OpsF := (oEnd [(3, 8), (3, 12), (7, 12)] (oVal (.tmp 3) (kBuildSlice [] 0 []) (oVal (.tmp 4) (kUn (fadA 2) (.tmp 1)) (oVal (.tmp 5) (kLoad none (.tmp 4)) (oVal (.tmp 6) (kTwo (appendA false 9 72 (tag 79)) (.tmp 3) (.tmp 5)) (oVal (.tmp 7) (kBuildSlice [] 0 []) (oVal (.tmp 8) (kUn (fadA 3) (.tmp 1)) (oVal (.tmp 9) (kLoad none (.tmp 8)) (oVal (.tmp 10) (kTwo (appendA false 3 24 (tag 87)) (.tmp 7) (.tmp 9)) (oVal (.tmp 11) (kBuildSlice [] 0 []) (oVal (.tmp 12) (kUn (fadA 4) (.tmp 1)) (oVal (.tmp 13) (kLoad none (.tmp 12)) (oVal (.tmp 14) (kTwo (appendA false 2 16 (tag 89)) (.tmp 11) (.tmp 13)) (oVal (.tmp 15) (kUn (fadA 2) (.tmp 1)) (oVal .none (kStore 1 (.tmp 15) (.tmp 6)) (oVal (.tmp 16) (kUn (fadA 3) (.tmp 1)) (oVal .none (kStore 1 (.tmp 16) (.tmp 10)) (oVal (.tmp 17) (kUn (fadA 4) (.tmp 1)) (oVal .none (kStore 1 (.tmp 17) (.tmp 14)) oNil)))))))))))))))))))
def K38r2 : OpsF := (oVal (.tmp 18) (kLoad (some 5) (.tmp 1)) (oVal .none (kStore 5 (.tmp 2) (.tmp 18)) oNil))
theorem res38 : Try.f38.results.toList = [.cell 2 31] := by kernel_rfl
def K38 : K := (kSeq (kRegion K38r0 [1, 2]) (kSeq (kRegionD K38r1 []) (kSeq (kRegion K38r2 []) kRet)))
theorem enter38 (cl : CallF) (a0 : AV) (s : St) : enterA Try.prog X cl 38 [a0] s Try.f38 = finA Try.prog Try.f38 (K38 cl ⟨38, none, Try.f38.ntmps, X 38⟩ (paramsEnv 0 [a0] .nil) [] s) :=
  enterA_eq (b := Try.f38.body.getD .skip) (by kernel_rfl) (by kernel_rfl) (by kernel_rfl) (by kernel_rfl) (by kernel_rfl)
end
end Go.Proofs.Ythambbefgbhnkaa.code
set_option maxRecDepth 100000
namespace Go.Proofs.Ythambbefgbhnkaa.code
open Go.Abs
noncomputable section
def K9r0 : OpsF := (oVal (.tmp 2) (kMove (.con (.bool false))) oNil)
def K9r1 : OpsF := (oVal (.tmp 22) (kMove (.tmp 0)) (oCall (.tmp 23) (.con (.func 10 [] [])) [(.tmp 22)] (oVal (.tmp 3) (kMove (.tmp 23)) oNil)))
def K9r2 : OpsF := (oVal (.tmp 24) (kMove (.tmp 3)) (oCall (.tmp 25) (.con (.func 11 [] [])) [(.tmp 24), (.con (.int .i64 3)), (.con (.int .i64 5))] (oVal (.tmp 4) (kAlloc [(.int .i64 0), (.int .i64 0), .nilslice, .nilslice, .nilslice] (tag 31)) (oVal .none (kStore 5 (.tmp 4) (.tmp 25)) oNil))))
def K9r3 : OpsF := (oVal (.tmp 26) (kMove (.tmp 3)) (oVal (.tmp 27) (kLoad (some 5) (.tmp 4)) (oCall (.tmp 28) (.con (.func 12 [] [])) [(.tmp 26), (.tmp 27), (.con (.int .i64 4))] (oVal (.tmp 5) (kAlloc [(.int .i64 0), (.int .i64 0), .nilslice] (tag 35)) (oVal .none (kStore 3 (.tmp 5) (.tmp 28)) oNil)))))
def K9r4 : OpsF := (oEnd [] (oVal (.tmp 29) (kMove (.tmp 3)) (oVal (.tmp 30) (kLoad (some 3) (.tmp 5)) (oCallT (some [33, 34]) (.tmp 31) (.con (.func 13 [] [])) [(.tmp 29), (.tmp 30)] (oVal (.tmp 32) (kMove (.tmp 3)) (oVal (.tmp 33) (kUn (fadA 2) (.tmp 4)) (oVal (.tmp 34) (kLoad none (.tmp 33)) (oVal (.tmp 35) (kUn lenSlA (.tmp 34)) (oCall (.tmp 36) (.con (.func 14 [] [])) [(.tmp 32), (.tmp 35)] (oVal (.tmp 6) (kMove (.tmp 31)) (oVal (.tmp 7) (kMove (.tmp 36)) oNil)))))))))))
def K9r5 : OpsF := (oVal (.tmp 37) (kLoad (some 5) (.tmp 4)) (oCall (.tmp 38) (.con (.func 38 [] [])) [(.tmp 37)] (oVal (.tmp 8) (kAlloc [(.int .i64 0), (.int .i64 0), .nilslice, .nilslice, .nilslice] (tag 31)) (oVal .none (kStore 5 (.tmp 8) (.tmp 38)) oNil))))
def K9r6 : OpsF := (oVal (.tmp 39) (kMove (.tmp 3)) (oVal (.tmp 40) (kUn (fadA 0) (.tmp 4)) (oVal (.tmp 41) (kLoad (some 2) (.tmp 40)) (oCall (.tmp 42) (.con (.func 39 [] [])) [(.tmp 39), (.tmp 41)] (oVal (.tmp 43) (kUn (fadA 0) (.tmp 8)) (oVal .none (kStore 2 (.tmp 43) (.tmp 42)) oNil))))))
def K9r7 : OpsF := (oVal (.tmp 9) (kMove (.con (.int .i64 0))) oNil)
def K9r8 : OpsF := (oVal (.tmp 44) (kMove (.tmp 9)) (oVal (.tmp 45) (kUn (fadA 2) (.tmp 8)) (oVal (.tmp 46) (kLoad none (.tmp 45)) (oVal (.tmp 47) (kUn lenSlA (.tmp 46)) (oVal (.tmp 48) (kInt aLss (.tmp 44) (.tmp 47)) oNil)))))
def K9r9 : OpsF := (oVal (.tmp 51) (kUn (fadA 2) (.tmp 8)) (oVal (.tmp 52) (kLoad none (.tmp 51)) (oVal (.tmp 53) (kMove (.tmp 9)) (oVal (.tmp 54) (kTwo (ixsA 9) (.tmp 52) (.tmp 53)) (oVal (.tmp 10) (kMove (.tmp 54)) oNil)))))
def K9r10 : OpsF := (oEnd [] (oVal (.tmp 55) (kMove (.tmp 10)) (oVal (.tmp 56) (kMove (.tmp 10)) (oVal (.tmp 57) (kMove (.tmp 10)) (oVal (.tmp 58) (kMove (.tmp 10)) (oVal (.tmp 59) (kMove (.tmp 3)) (oVal (.tmp 60) (kMove (.tmp 10)) (oVal (.tmp 61) (kUn nilA (.tmp 60)) (oVal (.tmp 62) (kUn (fadA 1) (.tmp 61)) (oVal (.tmp 63) (kLoad (some 2) (.tmp 62)) (oCallT (some [68, 74, 80]) (.tmp 64) (.con (.func 39 [] [])) [(.tmp 59), (.tmp 63)] (oVal (.tmp 65) (kMove (.tmp 3)) (oVal (.tmp 66) (kMove (.tmp 10)) (oVal (.tmp 67) (kUn nilA (.tmp 66)) (oVal (.tmp 68) (kUn (fadA 3) (.tmp 67)) (oVal (.tmp 69) (kLoad (some 2) (.tmp 68)) (oCallT (some [74, 80]) (.tmp 70) (.con (.func 39 [] [])) [(.tmp 65), (.tmp 69)] (oVal (.tmp 71) (kMove (.tmp 3)) (oVal (.tmp 72) (kMove (.tmp 10)) (oVal (.tmp 73) (kUn nilA (.tmp 72)) (oVal (.tmp 74) (kUn (fadA 5) (.tmp 73)) (oVal (.tmp 75) (kLoad (some 2) (.tmp 74)) (oCallT (some [80]) (.tmp 76) (.con (.func 39 [] [])) [(.tmp 71), (.tmp 75)] (oVal (.tmp 77) (kMove (.tmp 3)) (oVal (.tmp 78) (kMove (.tmp 10)) (oVal (.tmp 79) (kUn nilA (.tmp 78)) (oVal (.tmp 80) (kUn (fadA 7) (.tmp 79)) (oVal (.tmp 81) (kLoad (some 2) (.tmp 80)) (oCall (.tmp 82) (.con (.func 39 [] [])) [(.tmp 77), (.tmp 81)] (oVal (.tmp 83) (kUn nilA (.tmp 55)) (oVal (.tmp 84) (kUn (fadA 1) (.tmp 83)) (oVal .none (kStore 2 (.tmp 84) (.tmp 64)) (oVal (.tmp 85) (kUn nilA (.tmp 56)) (oVal (.tmp 86) (kUn (fadA 3) (.tmp 85)) (oVal .none (kStore 2 (.tmp 86) (.tmp 70)) (oVal (.tmp 87) (kUn nilA (.tmp 57)) (oVal (.tmp 88) (kUn (fadA 5) (.tmp 87)) (oVal .none (kStore 2 (.tmp 88) (.tmp 76)) (oVal (.tmp 89) (kUn nilA (.tmp 58)) (oVal (.tmp 90) (kUn (fadA 7) (.tmp 89)) (oVal .none (kStore 2 (.tmp 90) (.tmp 82)) oNil)))))))))))))))))))))))))))))))))))))))))
def K9r11 : OpsF := (oVal (.tmp 49) (kMove (.tmp 9)) (oVal (.tmp 50) (kInt aAdd (.tmp 49) (.con (.int .i64 1))) (oVal (.tmp 9) (kMove (.tmp 50)) oNil)))
def K9l0 : K := (kSeq (kSeq (kRegion K9r8 [48]) (kCond (.tmp 48) kSkip (kExit 0))) (kSeq (kBlock 1 (kSeq (kRegion K9r9 [10]) (kRegionD K9r10 []))) (kRegion K9r11 [9])))
def K9r12 : OpsF := (oVal (.tmp 92) (kLoad (some 5) (.tmp 4)) (oVal (.tmp 93) (kLoad (some 3) (.tmp 5)) (oVal (.tmp 94) (kMove (.tmp 6)) (oCall (.tmp 95) (.con (.func 15 [] [])) [(.tmp 92), (.tmp 93), (.tmp 94)] (oVal (.tmp 91) (kMove (.tmp 95)) (oVal (.tmp 96) (kUn (extA 0) (.tmp 91)) (oVal (.tmp 97) (kUn (extA 1) (.tmp 91)) (oVal (.tmp 11) (kAlloc [(.int .i64 0), (.int .i64 0)] (tag 26)) (oVal .none (kStore 2 (.tmp 11) (.tmp 96)) (oVal (.tmp 12) (kMove (.tmp 97)) oNil))))))))))
def K9r13 : OpsF := (oVal (.tmp 99) (kLoad (some 5) (.tmp 8)) (oVal (.tmp 100) (kLoad (some 3) (.tmp 5)) (oVal (.tmp 101) (kMove (.tmp 6)) (oCall (.tmp 102) (.con (.func 15 [] [])) [(.tmp 99), (.tmp 100), (.tmp 101)] (oVal (.tmp 98) (kMove (.tmp 102)) (oVal (.tmp 103) (kUn (extA 0) (.tmp 98)) (oVal (.tmp 104) (kUn (extA 1) (.tmp 98)) (oVal (.tmp 13) (kAlloc [(.int .i64 0), (.int .i64 0)] (tag 26)) (oVal .none (kStore 2 (.tmp 13) (.tmp 103)) (oVal (.tmp 14) (kMove (.tmp 104)) oNil))))))))))
def K9r14 : OpsF := (oVal (.tmp 106) (kLoad (some 5) (.tmp 4)) (oVal (.tmp 107) (kLoad (some 3) (.tmp 5)) (oVal (.tmp 108) (kMove (.tmp 6)) (oCall (.tmp 109) (.con (.func 16 [] [])) [(.tmp 106), (.tmp 107), (.tmp 108)] (oVal (.tmp 105) (kMove (.tmp 109)) (oVal (.tmp 110) (kUn (extA 0) (.tmp 105)) (oVal (.tmp 111) (kUn (extA 1) (.tmp 105)) (oVal (.tmp 15) (kMove (.tmp 110)) (oVal (.tmp 16) (kMove (.tmp 111)) oNil)))))))))
def K9r15 : OpsF := (oVal (.tmp 113) (kLoad (some 5) (.tmp 8)) (oVal (.tmp 114) (kLoad (some 3) (.tmp 5)) (oVal (.tmp 115) (kMove (.tmp 6)) (oCall (.tmp 116) (.con (.func 16 [] [])) [(.tmp 113), (.tmp 114), (.tmp 115)] (oVal (.tmp 112) (kMove (.tmp 116)) (oVal (.tmp 117) (kUn (extA 0) (.tmp 112)) (oVal (.tmp 118) (kUn (extA 1) (.tmp 112)) (oVal (.tmp 17) (kMove (.tmp 117)) (oVal (.tmp 18) (kMove (.tmp 118)) oNil)))))))))
def K9r16s28 : OpsF := (oVal (.tmp 147) (kPick (.tmp 139) (.con (.bool true)) (.tmp 146)) oNil)
def K9r16s27 : OpsF := (oIf 139 false (oVal (.tmp 146) (kPick (.tmp 142) (.tmp 145) (.con (.bool false))) K9r16s28) (oSkip (.tmp 146) K9r16s28))
def K9r16s26 : OpsF := (oIf 142 true (oVal (.tmp 145) (kInt aNeq (.tmp 143) (.tmp 144)) K9r16s27) (oSkip (.tmp 145) K9r16s27))
def K9r16s25 : OpsF := (oIf 142 true (oVal (.tmp 144) (kMove (.tmp 17)) K9r16s26) (oSkip (.tmp 144) K9r16s26))
def K9r16s24 : OpsF := (oIf 142 true (oVal (.tmp 143) (kMove (.tmp 15)) K9r16s25) (oSkip (.tmp 143) K9r16s25))
def K9r16s23 : OpsF := (oIf 139 false (oVal (.tmp 142) (kMove (.tmp 141)) K9r16s24) (oSkip (.tmp 142) K9r16s24))
def K9r16s22 : OpsF := (oIf 139 false (oVal (.tmp 141) (kInt aNeq (.tmp 140) (.con (.int .i64 3))) K9r16s23) (oSkip (.tmp 141) K9r16s23))
def K9r16s19 : OpsF := (oVal (.tmp 138) (kPick (.tmp 133) (.con (.bool true)) (.tmp 137)) (oVal (.tmp 139) (kMove (.tmp 138)) (oIf 139 false (oVal (.tmp 140) (kMove (.tmp 15)) K9r16s22) (oSkip (.tmp 140) K9r16s22))))
def K9r16s18 : OpsF := (oIf 133 false (oVal (.tmp 137) (kUn notA (.tmp 136)) K9r16s19) (oSkip (.tmp 137) K9r16s19))
def K9r16s17 : OpsF := (oIf 133 false (oCall (.tmp 136) (.con (.func 40 [] [])) [(.tmp 134), (.tmp 135)] K9r16s18) (oSkip (.tmp 136) K9r16s18))
def K9r16s16 : OpsF := (oIf 133 false (oVal (.tmp 135) (kLoad (some 2) (.tmp 11)) K9r16s17) (oSkip (.tmp 135) K9r16s17))
def K9r16s13 : OpsF := (oVal (.tmp 132) (kPick (.tmp 129) (.con (.bool true)) (.tmp 131)) (oVal (.tmp 133) (kMove (.tmp 132)) (oIf 133 false (oVal (.tmp 134) (kLoad (some 2) (.tmp 13)) K9r16s16) (oSkip (.tmp 134) K9r16s16))))
def K9r16s12 : OpsF := (oIf 129 false (oVal (.tmp 131) (kInt aNeq (.tmp 130) (.con (.int .i64 0))) K9r16s13) (oSkip (.tmp 131) K9r16s13))
def K9r16s9 : OpsF := (oVal (.tmp 128) (kPick (.tmp 125) (.con (.bool true)) (.tmp 127)) (oVal (.tmp 129) (kMove (.tmp 128)) (oIf 129 false (oVal (.tmp 130) (kMove (.tmp 18)) K9r16s12) (oSkip (.tmp 130) K9r16s12))))
def K9r16s8 : OpsF := (oIf 125 false (oVal (.tmp 127) (kInt aNeq (.tmp 126) (.con (.int .i64 0))) K9r16s9) (oSkip (.tmp 127) K9r16s9))
def K9r16s5 : OpsF := (oVal (.tmp 124) (kPick (.tmp 121) (.con (.bool true)) (.tmp 123)) (oVal (.tmp 125) (kMove (.tmp 124)) (oIf 125 false (oVal (.tmp 126) (kMove (.tmp 16)) K9r16s8) (oSkip (.tmp 126) K9r16s8))))
def K9r16s4 : OpsF := (oIf 121 false (oVal (.tmp 123) (kInt aNeq (.tmp 122) (.con (.int .i64 0))) K9r16s5) (oSkip (.tmp 123) K9r16s5))
def K9r16 : OpsF := (oVal (.tmp 119) (kMove (.tmp 12)) (oVal (.tmp 120) (kInt aNeq (.tmp 119) (.con (.int .i64 0))) (oVal (.tmp 121) (kMove (.tmp 120)) (oIf 121 false (oVal (.tmp 122) (kMove (.tmp 14)) K9r16s4) (oSkip (.tmp 122) K9r16s4)))))
def K9r17 : OpsF := (oVal (.tmp 2) (kMove (.con (.bool false))) oNil)
def K9r18 : OpsF := (oVal (.tmp 148) (kUn (fadA 2) (.tmp 4)) (oVal (.tmp 149) (kLoad none (.tmp 148)) (oVal (.tmp 150) (kUn lenSlA (.tmp 149)) (oVal (.tmp 151) (kInt aEql (.tmp 150) (.con (.int .i64 0))) oNil))))
def K9r19 : OpsF := (oCall (.tmp 152) (.con (.func 23 [] [])) [] (oVal (.tmp 2) (kMove (.tmp 152)) oNil))
def K9r20 : OpsF := (oVal (.tmp 153) (kMove (.tmp 6)) (oVal (.tmp 154) (kFold minA (.tmp 153) [(.con (.int .i64 239))]) (oVal (.tmp 19) (kMove (.tmp 154)) oNil)))
def K9r21 : OpsF := (oVal (.tmp 156) (kLoad (some 5) (.tmp 4)) (oVal (.tmp 157) (kMove (.tmp 7)) (oVal (.tmp 158) (kMove (.tmp 19)) (oCall (.tmp 159) (.con (.func 20 [] [])) [(.tmp 156), (.tmp 157), (.tmp 158)] (oVal (.tmp 155) (kMove (.tmp 159)) (oVal (.tmp 160) (kUn (extA 0) (.tmp 155)) (oVal (.tmp 161) (kUn (extA 1) (.tmp 155)) (oVal (.tmp 20) (kAlloc [(.int .i64 0), (.int .i64 0)] (tag 26)) (oVal .none (kStore 2 (.tmp 20) (.tmp 160)) (oVal (.tmp 12) (kMove (.tmp 161)) oNil))))))))))
def K9r22 : OpsF := (oVal (.tmp 163) (kLoad (some 5) (.tmp 8)) (oVal (.tmp 164) (kMove (.tmp 7)) (oVal (.tmp 165) (kMove (.tmp 19)) (oCall (.tmp 166) (.con (.func 20 [] [])) [(.tmp 163), (.tmp 164), (.tmp 165)] (oVal (.tmp 162) (kMove (.tmp 166)) (oVal (.tmp 167) (kUn (extA 0) (.tmp 162)) (oVal (.tmp 168) (kUn (extA 1) (.tmp 162)) (oVal (.tmp 21) (kAlloc [(.int .i64 0), (.int .i64 0)] (tag 26)) (oVal .none (kStore 2 (.tmp 21) (.tmp 167)) (oVal (.tmp 14) (kMove (.tmp 168)) oNil))))))))))
def K9r23 : OpsF := (oVal (.tmp 170) (kLoad (some 5) (.tmp 4)) (oVal (.tmp 171) (kMove (.tmp 7)) (oVal (.tmp 172) (kMove (.tmp 19)) (oCall (.tmp 173) (.con (.func 21 [] [])) [(.tmp 170), (.tmp 171), (.tmp 172)] (oVal (.tmp 169) (kMove (.tmp 173)) (oVal (.tmp 174) (kUn (extA 0) (.tmp 169)) (oVal (.tmp 175) (kUn (extA 1) (.tmp 169)) (oVal (.tmp 15) (kMove (.tmp 174)) (oVal (.tmp 16) (kMove (.tmp 175)) oNil)))))))))
def K9r24 : OpsF := (oVal (.tmp 177) (kLoad (some 5) (.tmp 8)) (oVal (.tmp 178) (kMove (.tmp 7)) (oVal (.tmp 179) (kMove (.tmp 19)) (oCall (.tmp 180) (.con (.func 21 [] [])) [(.tmp 177), (.tmp 178), (.tmp 179)] (oVal (.tmp 176) (kMove (.tmp 180)) (oVal (.tmp 181) (kUn (extA 0) (.tmp 176)) (oVal (.tmp 182) (kUn (extA 1) (.tmp 176)) (oVal (.tmp 17) (kMove (.tmp 181)) (oVal (.tmp 18) (kMove (.tmp 182)) oNil)))))))))
def K9r25s30 : OpsF := (oVal (.tmp 213) (kPick (.tmp 211) (.tmp 212) (.con (.bool false))) (oVal (.tmp 2) (kMove (.tmp 213)) oNil))
def K9r25s27 : OpsF := (oVal (.tmp 210) (kPick (.tmp 202) (.tmp 209) (.con (.bool false))) (oVal (.tmp 211) (kMove (.tmp 210)) (oIf 211 true (oCall (.tmp 212) (.con (.func 23 [] [])) [] K9r25s30) (oSkip (.tmp 212) K9r25s30))))
def K9r25s26 : OpsF := (oIf 202 true (oVal (.tmp 209) (kPick (.tmp 205) (.con (.bool true)) (.tmp 208)) K9r25s27) (oSkip (.tmp 209) K9r25s27))
def K9r25s25 : OpsF := (oIf 205 false (oVal (.tmp 208) (kInt aEql (.tmp 206) (.tmp 207)) K9r25s26) (oSkip (.tmp 208) K9r25s26))
def K9r25s24 : OpsF := (oIf 205 false (oVal (.tmp 207) (kMove (.tmp 17)) K9r25s25) (oSkip (.tmp 207) K9r25s25))
def K9r25s23 : OpsF := (oIf 205 false (oVal (.tmp 206) (kMove (.tmp 15)) K9r25s24) (oSkip (.tmp 206) K9r25s24))
def K9r25s22 : OpsF := (oIf 202 true (oVal (.tmp 205) (kMove (.tmp 204)) K9r25s23) (oSkip (.tmp 205) K9r25s23))
def K9r25s21 : OpsF := (oIf 202 true (oVal (.tmp 204) (kInt aEql (.tmp 203) (.con (.int .i64 3))) K9r25s22) (oSkip (.tmp 204) K9r25s22))
def K9r25s18 : OpsF := (oVal (.tmp 201) (kPick (.tmp 197) (.tmp 200) (.con (.bool false))) (oVal (.tmp 202) (kMove (.tmp 201)) (oIf 202 true (oVal (.tmp 203) (kMove (.tmp 15)) K9r25s21) (oSkip (.tmp 203) K9r25s21))))
def K9r25s17 : OpsF := (oIf 197 true (oCall (.tmp 200) (.con (.func 40 [] [])) [(.tmp 198), (.tmp 199)] K9r25s18) (oSkip (.tmp 200) K9r25s18))
def K9r25s16 : OpsF := (oIf 197 true (oVal (.tmp 199) (kLoad (some 2) (.tmp 20)) K9r25s17) (oSkip (.tmp 199) K9r25s17))
def K9r25s13 : OpsF := (oVal (.tmp 196) (kPick (.tmp 193) (.tmp 195) (.con (.bool false))) (oVal (.tmp 197) (kMove (.tmp 196)) (oIf 197 true (oVal (.tmp 198) (kLoad (some 2) (.tmp 21)) K9r25s16) (oSkip (.tmp 198) K9r25s16))))
def K9r25s12 : OpsF := (oIf 193 true (oVal (.tmp 195) (kInt aEql (.tmp 194) (.con (.int .i64 0))) K9r25s13) (oSkip (.tmp 195) K9r25s13))
def K9r25s9 : OpsF := (oVal (.tmp 192) (kPick (.tmp 189) (.tmp 191) (.con (.bool false))) (oVal (.tmp 193) (kMove (.tmp 192)) (oIf 193 true (oVal (.tmp 194) (kMove (.tmp 18)) K9r25s12) (oSkip (.tmp 194) K9r25s12))))
def K9r25s8 : OpsF := (oIf 189 true (oVal (.tmp 191) (kInt aEql (.tmp 190) (.con (.int .i64 0))) K9r25s9) (oSkip (.tmp 191) K9r25s9))
def K9r25s5 : OpsF := (oVal (.tmp 188) (kPick (.tmp 185) (.tmp 187) (.con (.bool false))) (oVal (.tmp 189) (kMove (.tmp 188)) (oIf 189 true (oVal (.tmp 190) (kMove (.tmp 16)) K9r25s8) (oSkip (.tmp 190) K9r25s8))))
def K9r25s4 : OpsF := (oIf 185 true (oVal (.tmp 187) (kInt aEql (.tmp 186) (.con (.int .i64 0))) K9r25s5) (oSkip (.tmp 187) K9r25s5))
def K9r25 : OpsF := (oVal (.tmp 183) (kMove (.tmp 12)) (oVal (.tmp 184) (kInt aEql (.tmp 183) (.con (.int .i64 0))) (oVal (.tmp 185) (kMove (.tmp 184)) (oIf 185 true (oVal (.tmp 186) (kMove (.tmp 14)) K9r25s4) (oSkip (.tmp 186) K9r25s4)))))
theorem res9 : Try.f9.results.toList = [.tmp 2] := by kernel_rfl
def K9 : K := (kSeq (kRegion K9r0 [2]) (kSeq (kRegion K9r1 [3]) (kSeq (kRegion K9r2 [4]) (kSeq (kRegion K9r3 [5]) (kSeq (kRegionD K9r4 [6, 7]) (kSeq (kRegion K9r5 [8]) (kSeq (kRegion K9r6 []) (kSeq (kSeq (kRegion K9r7 [9]) (kBlock 0 (kLoop K9l0))) (kSeq (kRegion K9r12 [11, 12]) (kSeq (kRegion K9r13 [13, 14]) (kSeq (kRegion K9r14 [15, 16]) (kSeq (kRegion K9r15 [17, 18]) (kSeq (kSeq (kRegion K9r16 [147]) (kCond (.tmp 147) (kSeq (kRegion K9r17 [2]) kRet) kSkip)) (kSeq (kSeq (kRegion K9r18 [151]) (kCond (.tmp 151) (kSeq (kRegion K9r19 [2]) kRet) kSkip)) (kSeq (kRegion K9r20 [19]) (kSeq (kRegion K9r21 [20, 12]) (kSeq (kRegion K9r22 [21, 14]) (kSeq (kRegion K9r23 [15, 16]) (kSeq (kRegion K9r24 [17, 18]) (kSeq (kRegion K9r25 [2]) kRet))))))))))))))))))))
theorem enter9 (cl : CallF) (a0 : AV) (s : St) : enterA Try.prog X cl 9 [a0] s Try.f9 = finA Try.prog Try.f9 (K9 cl ⟨9, none, Try.f9.ntmps, X 9⟩ (paramsEnv 0 [a0] .nil) [] s) :=
  enterA_eq (b := Try.f9.body.getD .skip) (by kernel_rfl) (by kernel_rfl) (by kernel_rfl) (by kernel_rfl) (by kernel_rfl)
def K40r0 : OpsF := (oVal (.tmp 2) (kBox (tag 26) (.tmp 0)) (oVal (.tmp 3) (kBox (tag 26) (.tmp 1)) (oVal (.tmp 4) (kMove (.con (.bool false))) oNil)))
def K40r1s11 : OpsF := (oVal (.tmp 16) (kPick (.tmp 10) (.tmp 15) (.con (.bool false))) (oVal (.tmp 4) (kMove (.tmp 16)) oNil))
def K40r1s10 : OpsF := (oIf 10 true (oVal (.tmp 15) (kInt aLeq (.tmp 12) (.tmp 14)) K40r1s11) (oSkip (.tmp 15) K40r1s11))
def K40r1s9 : OpsF := (oIf 10 true (oVal (.tmp 14) (kLoad none (.tmp 13)) K40r1s10) (oSkip (.tmp 14) K40r1s10))
def K40r1s8 : OpsF := (oIf 10 true (oVal (.tmp 13) (kUn (fadA 1) (.tmp 3)) K40r1s9) (oSkip (.tmp 13) K40r1s9))
def K40r1s7 : OpsF := (oIf 10 true (oVal (.tmp 12) (kLoad none (.tmp 11)) K40r1s8) (oSkip (.tmp 12) K40r1s8))
def K40r1 : OpsF := (oVal (.tmp 5) (kUn (fadA 0) (.tmp 3)) (oVal (.tmp 6) (kLoad none (.tmp 5)) (oVal (.tmp 7) (kUn (fadA 0) (.tmp 2)) (oVal (.tmp 8) (kLoad none (.tmp 7)) (oVal (.tmp 9) (kInt aLeq (.tmp 6) (.tmp 8)) (oVal (.tmp 10) (kMove (.tmp 9)) (oIf 10 true (oVal (.tmp 11) (kUn (fadA 1) (.tmp 2)) K40r1s7) (oSkip (.tmp 11) K40r1s7))))))))
theorem res40 : Try.f40.results.toList = [.tmp 4] := by kernel_rfl
def K40 : K := (kSeq (kRegion K40r0 [2, 3, 4]) (kSeq (kRegion K40r1 [4]) kRet))
theorem enter40 (cl : CallF) (a0 a1 : AV) (s : St) : enterA Try.prog X cl 40 [a0, a1] s Try.f40 = finA Try.prog Try.f40 (K40 cl ⟨40, none, Try.f40.ntmps, X 40⟩ (paramsEnv 0 [a0, a1] .nil) [] s) :=
  enterA_eq (b := Try.f40.body.getD .skip) (by kernel_rfl) (by kernel_rfl) (by kernel_rfl) (by kernel_rfl) (by kernel_rfl)
end
end Go.Proofs.Ythambbefgbhnkaa.code
