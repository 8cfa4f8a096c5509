/- The code of functions as the interpreter has it, region by region. -/
import Derived.Test.YtaddkbhpocbimaaAbsTab
import Derived.Test.YtaddkbhpocbimaaAbsWalk
import Derived.KernelRfl
set_option maxRecDepth 100000
namespace Go.Proofs.Ytaddkbhpocbimaa.code
open Go.Abs
noncomputable section
def K47r0 : OpsF := (oVal (.tmp 2) (kMove (.con (.int Go.IntKind.i64 0))) oNil)
def K47r1 : OpsF := (oVal (.tmp 3) (kMove (.con (.int Go.IntKind.i64 0))) oNil)
def K47r2 : OpsF := (oVal (.tmp 6) (kMove (.tmp 0)) (oVal (.tmp 7) (kUn lenSlA (.tmp 6)) (oVal (.tmp 8) (kMove (.con (.int Go.IntKind.i64 0))) oNil)))
def K47r3 : OpsF := (oVal (.tmp 9) (kInt aLss (.tmp 8) (.tmp 7)) oNil)
def K47r4 : OpsF := (oVal (.tmp 10) (kTwo (ixsA 1) (.tmp 6) (.tmp 8)) (oVal (.tmp 11) (kLoad none (.tmp 10)) (oVal (.tmp 5) (kMove (.tmp 11)) oNil)))
def K47r5 : OpsF := (oVal (.tmp 12) (kMove (.tmp 5)) (oVal (.tmp 13) (kMove (.tmp 3)) (oVal (.tmp 14) (kInt aNeq (.tmp 12) (.tmp 13)) oNil)))
def K47r6 : OpsF := (oVal (.tmp 15) (kMove (.tmp 5)) (oVal (.tmp 2) (kMove (.tmp 15)) oNil))
def K47r7 : OpsF := (oVal (.tmp 16) (kInt aAdd (.tmp 8) (.con (.int Go.IntKind.i64 1))) (oVal (.tmp 8) (kMove (.tmp 16)) oNil))
def K47l0 : K := (kSeq (kRegion K47r3 [9]) (kSeq (kCond (.tmp 9) kSkip (kExit 0)) (kSeq (kBlock 1 (kSeq (kRegion K47r4 [5]) (kSeq (kRegion K47r5 [14]) (kCond (.tmp 14) (kSeq (kRegion K47r6 [2]) kRet) kSkip)))) (kRegion K47r7 [8]))))
def K47r8 : OpsF := (oVal (.tmp 17) (kMove (.tmp 3)) (oVal (.tmp 2) (kMove (.tmp 17)) oNil))
theorem res47 : Try.f47.results.toList = [.tmp 2] := by kernel_rfl
def K47 : K := (kSeq (kRegion K47r0 [2]) (kSeq (kRegion K47r1 [3]) (kSeq (kSeq (kRegion K47r2 [6, 7, 8]) (kBlock 0 (kLoop K47l0))) (kSeq (kRegion K47r8 [2]) kRet))))
theorem code47 : codeK Try.prog (X 47) Try.f47.ntmps (Try.f47.body.getD .skip) = some K47 := by kernel_rfl
theorem body47 : Try.f47.body = some (Try.f47.body.getD .skip) := by kernel_rfl
theorem name47 : (Try.f47.name == "runtime.NumGoroutine") = false := by kernel_rfl
theorem enter47 (cl : CallF) (a0 : AV) (s : St) : enterA Try.prog X cl 47 [a0] s Try.f47 = finA Try.prog Try.f47 (K47 cl ⟨47, none, Try.f47.ntmps, X 47⟩ (paramsEnv 0 [a0] .nil) [] s) :=
  enterA_eq body47 name47 (by kernel_rfl) (by kernel_rfl) code47
def K68r0 : OpsF := (oVal (.tmp 6) (kMove (.con (.int Go.IntKind.i64 0))) oNil)
def K68r1 : OpsF := (oVal (.tmp 8) (kMove (.tmp 0)) (oVal (.tmp 9) (kMove (.tmp 1)) (oVal (.tmp 10) (kInt aLss (.tmp 8) (.tmp 9)) (oVal (.tmp 7) (kMove (.tmp 10)) oNil))))
def K68r2 : OpsF := (oVal (.tmp 6) (kMove (.con (.int Go.IntKind.i64 7))) oNil)
def K68r3 : OpsF := (oVal (.tmp 12) (kMove (.tmp 0)) (oVal (.tmp 13) (kMove (.tmp 2)) (oVal (.tmp 14) (kGtr (.tmp 12) (.tmp 13)) (oVal (.tmp 11) (kMove (.tmp 14)) oNil))))
def K68r4 : OpsF := (oVal (.tmp 6) (kMove (.con (.int Go.IntKind.i64 6))) oNil)
def K68r5 : OpsF := (oVal (.tmp 6) (kMove (.con (.int Go.IntKind.i64 0))) oNil)
theorem res68 : Try.f68.results.toList = [.tmp 6] := by kernel_rfl
def K68 : K := (kSeq (kRegion K68r0 [6]) (kSeq (kBlock 0 (kSeq (kRegion K68r1 [7]) (kCond (.tmp 7) (kSeq (kRegion K68r2 [6]) kRet) (kSeq (kRegion K68r3 [11]) (kCond (.tmp 11) (kSeq (kRegion K68r4 [6]) kRet) kSkip))))) (kSeq (kRegion K68r5 [6]) kRet)))
theorem code68 : codeK Try.prog (X 68) Try.f68.ntmps (Try.f68.body.getD .skip) = some K68 := by kernel_rfl
theorem body68 : Try.f68.body = some (Try.f68.body.getD .skip) := by kernel_rfl
theorem name68 : (Try.f68.name == "runtime.NumGoroutine") = false := by kernel_rfl
theorem enter68 (cl : CallF) (a0 a1 a2 : AV) (s : St) : enterA Try.prog X cl 68 [a0, a1, a2] s Try.f68 = finA Try.prog Try.f68 (K68 cl ⟨68, none, Try.f68.ntmps, X 68⟩ (paramsEnv 0 [a0, a1, a2] .nil) [] s) :=
  enterA_eq body68 name68 (by kernel_rfl) (by kernel_rfl) code68
def K89r0 : OpsF := (oVal (.tmp 4) (kMove (.con (.int Go.IntKind.i64 0))) oNil)
def K89r1s6 : OpsF := (oVal (.tmp 11) (kPick (.tmp 7) (.con (.bool true)) (.tmp 10)) oNil)
def K89r1s5 : OpsF := (oIf 7 false (oVal (.tmp 10) (kInt aGeq (.tmp 8) (.tmp 9)) K89r1s6) (oSkip (.tmp 10) K89r1s6))
def K89r1s4 : OpsF := (oIf 7 false (oVal (.tmp 9) (kMove (.tmp 1)) K89r1s5) (oSkip (.tmp 9) K89r1s5))
def K89r1 : OpsF := (oVal (.tmp 5) (kMove (.tmp 0)) (oVal (.tmp 6) (kInt aLss (.tmp 5) (.con (.int Go.IntKind.i64 0))) (oVal (.tmp 7) (kMove (.tmp 6)) (oIf 7 false (oVal (.tmp 8) (kMove (.tmp 0)) K89r1s4) (oSkip (.tmp 8) K89r1s4)))))
def K89r2 : OpsF := (oVal (.tmp 4) (kMove (.con (.int Go.IntKind.i64 3))) oNil)
def K89r3 : OpsF := (oVal (.tmp 4) (kMove (.con (.int Go.IntKind.i64 0))) oNil)
theorem res89 : Try.f89.results.toList = [.tmp 4] := by kernel_rfl
def K89 : K := (kSeq (kRegion K89r0 [4]) (kSeq (kSeq (kRegion K89r1 [11]) (kCond (.tmp 11) (kSeq (kRegion K89r2 [4]) kRet) kSkip)) (kSeq (kRegion K89r3 [4]) kRet)))
theorem code89 : codeK Try.prog (X 89) Try.f89.ntmps (Try.f89.body.getD .skip) = some K89 := by kernel_rfl
theorem body89 : Try.f89.body = some (Try.f89.body.getD .skip) := by kernel_rfl
theorem name89 : (Try.f89.name == "runtime.NumGoroutine") = false := by kernel_rfl
theorem enter89 (cl : CallF) (a0 a1 : AV) (s : St) : enterA Try.prog X cl 89 [a0, a1] s Try.f89 = finA Try.prog Try.f89 (K89 cl ⟨89, none, Try.f89.ntmps, X 89⟩ (paramsEnv 0 [a0, a1] .nil) [] s) :=
  enterA_eq body89 name89 (by kernel_rfl) (by kernel_rfl) code89
def K104r0 : OpsF := (oVal (.tmp 3) (kBox (tag 26) (.tmp 0)) (oVal (.tmp 6) (kMove (.con (.int Go.IntKind.i64 0))) oNil))
def K104r1 : OpsF := (oEnd [] (oVal (.tmp 8) (kUn (fadA 0) (.tmp 3)) (oVal (.tmp 9) (kLoad none (.tmp 8)) (oVal (.tmp 10) (kMove (.tmp 1)) (oVal (.tmp 11) (kMove (.tmp 2)) (oCallT (some [13]) (.tmp 12) (.con (.func 49 [] [])) [(.tmp 9), (.tmp 10), (.tmp 11)] (oVal (.tmp 13) (kUn (fadA 1) (.tmp 3)) (oVal (.tmp 14) (kLoad none (.tmp 13)) (oVal (.tmp 15) (kMove (.tmp 1)) (oVal (.tmp 16) (kMove (.tmp 2)) (oCall (.tmp 17) (.con (.func 49 [] [])) [(.tmp 14), (.tmp 15), (.tmp 16)] (oVal (.tmp 18) (kBuildSlice [(.int Go.IntKind.i64 0), (.int Go.IntKind.i64 0)] 2 [(0, 1, (.tmp 12)), (1, 1, (.tmp 17))]) (oCall (.tmp 19) (.con (.func 47 [] [])) [(.tmp 18)] (oVal (.tmp 7) (kMove (.tmp 19)) oNil))))))))))))))
def K104r2 : OpsF := (oVal (.tmp 20) (kMove (.tmp 7)) (oVal (.tmp 21) (kInt aNeq (.tmp 20) (.con (.int Go.IntKind.i64 0))) oNil))
def K104r3 : OpsF := (oVal (.tmp 22) (kMove (.tmp 7)) (oVal (.tmp 6) (kMove (.tmp 22)) oNil))
def K104r4 : OpsF := (oVal (.tmp 23) (kUn (fadA 0) (.tmp 3)) (oVal (.tmp 24) (kLoad none (.tmp 23)) (oVal (.tmp 25) (kUn (fadA 1) (.tmp 3)) (oVal (.tmp 26) (kLoad none (.tmp 25)) (oVal (.tmp 27) (kGtr (.tmp 24) (.tmp 26)) oNil)))))
def K104r5 : OpsF := (oVal (.tmp 6) (kMove (.con (.int Go.IntKind.i64 5))) oNil)
def K104r6 : OpsF := (oVal (.tmp 6) (kMove (.con (.int Go.IntKind.i64 0))) oNil)
theorem res104 : Try.f104.results.toList = [.tmp 6] := by kernel_rfl
def K104 : K := (kSeq (kRegion K104r0 [3, 6]) (kSeq (kSeq (kRegionD K104r1 [7]) (kSeq (kRegion K104r2 [21]) (kCond (.tmp 21) (kSeq (kRegion K104r3 [6]) kRet) kSkip))) (kSeq (kSeq (kRegion K104r4 [27]) (kCond (.tmp 27) (kSeq (kRegion K104r5 [6]) kRet) kSkip)) (kSeq (kRegion K104r6 [6]) kRet))))
theorem code104 : codeK Try.prog (X 104) Try.f104.ntmps (Try.f104.body.getD .skip) = some K104 := by kernel_rfl
theorem body104 : Try.f104.body = some (Try.f104.body.getD .skip) := by kernel_rfl
theorem name104 : (Try.f104.name == "runtime.NumGoroutine") = false := by kernel_rfl
theorem enter104 (cl : CallF) (a0 a1 a2 : AV) (s : St) : enterA Try.prog X cl 104 [a0, a1, a2] s Try.f104 = finA Try.prog Try.f104 (K104 cl ⟨104, none, Try.f104.ntmps, X 104⟩ (paramsEnv 0 [a0, a1, a2] .nil) [] s) :=
  enterA_eq body104 name104 (by kernel_rfl) (by kernel_rfl) code104
def K50r0 : OpsF := (oVal (.tmp 4) (kMove (.con (.int Go.IntKind.i64 0))) oNil)
def K50r1 : OpsF := (oVal (.tmp 5) (kMove (.tmp 0)) oNil)
def K50r2 : OpsF := (oVal (.tmp 4) (kMove (.con (.int Go.IntKind.i64 0))) oNil)
def K50r3 : OpsF := (oVal (.tmp 6) (kMove (.tmp 1)) (oVal (.tmp 4) (kMove (.tmp 6)) oNil))
theorem res50 : Try.f50.results.toList = [.tmp 4] := by kernel_rfl
def K50 : K := (kSeq (kRegion K50r0 [4]) (kSeq (kSeq (kRegion K50r1 [5]) (kCond (.tmp 5) (kSeq (kRegion K50r2 [4]) kRet) kSkip)) (kSeq (kRegion K50r3 [4]) kRet)))
theorem code50 : codeK Try.prog (X 50) Try.f50.ntmps (Try.f50.body.getD .skip) = some K50 := by kernel_rfl
theorem body50 : Try.f50.body = some (Try.f50.body.getD .skip) := by kernel_rfl
theorem name50 : (Try.f50.name == "runtime.NumGoroutine") = false := by kernel_rfl
theorem enter50 (cl : CallF) (a0 a1 : AV) (s : St) : enterA Try.prog X cl 50 [a0, a1] s Try.f50 = finA Try.prog Try.f50 (K50 cl ⟨50, none, Try.f50.ntmps, X 50⟩ (paramsEnv 0 [a0, a1] .nil) [] s) :=
  enterA_eq body50 name50 (by kernel_rfl) (by kernel_rfl) code50
def K49r0 : OpsF := (oVal (.tmp 6) (kMove (.con (.int Go.IntKind.i64 0))) oNil)
def K49r1s7 : OpsF := (oVal (.tmp 14) (kPick (.tmp 10) (.con (.bool true)) (.tmp 13)) oNil)
def K49r1s6 : OpsF := (oIf 10 false (oVal (.tmp 13) (kGtr (.tmp 11) (.tmp 12)) K49r1s7) (oSkip (.tmp 13) K49r1s7))
def K49r1s5 : OpsF := (oIf 10 false (oVal (.tmp 12) (kMove (.tmp 2)) K49r1s6) (oSkip (.tmp 12) K49r1s6))
def K49r1 : OpsF := (oVal (.tmp 7) (kMove (.tmp 0)) (oVal (.tmp 8) (kMove (.tmp 1)) (oVal (.tmp 9) (kInt aLss (.tmp 7) (.tmp 8)) (oVal (.tmp 10) (kMove (.tmp 9)) (oIf 10 false (oVal (.tmp 11) (kMove (.tmp 0)) K49r1s5) (oSkip (.tmp 11) K49r1s5))))))
def K49r2 : OpsF := (oVal (.tmp 6) (kMove (.con (.int Go.IntKind.i64 1))) oNil)
def K49r3 : OpsF := (oVal (.tmp 6) (kMove (.con (.int Go.IntKind.i64 0))) oNil)
theorem res49 : Try.f49.results.toList = [.tmp 6] := by kernel_rfl
def K49 : K := (kSeq (kRegion K49r0 [6]) (kSeq (kSeq (kRegion K49r1 [14]) (kCond (.tmp 14) (kSeq (kRegion K49r2 [6]) kRet) kSkip)) (kSeq (kRegion K49r3 [6]) kRet)))
theorem code49 : codeK Try.prog (X 49) Try.f49.ntmps (Try.f49.body.getD .skip) = some K49 := by kernel_rfl
theorem body49 : Try.f49.body = some (Try.f49.body.getD .skip) := by kernel_rfl
theorem name49 : (Try.f49.name == "runtime.NumGoroutine") = false := by kernel_rfl
theorem enter49 (cl : CallF) (a0 a1 a2 : AV) (s : St) : enterA Try.prog X cl 49 [a0, a1, a2] s Try.f49 = finA Try.prog Try.f49 (K49 cl ⟨49, none, Try.f49.ntmps, X 49⟩ (paramsEnv 0 [a0, a1, a2] .nil) [] s) :=
  enterA_eq body49 name49 (by kernel_rfl) (by kernel_rfl) code49
def K56r0 : OpsF := (oVal (.tmp 1) (kBox (tag 31) (.tmp 0)) (oVal (.tmp 2) (kMove (.con (.int Go.IntKind.i64 0))) oNil))
def K56r1 : OpsF := (oEnd [] (oVal (.tmp 3) (kUn (fadA 0) (.tmp 1)) (oVal (.tmp 4) (kLoad (some 2) (.tmp 3)) (oCallT (some [6, 1, 11]) (.tmp 5) (.con (.func 85 [] [])) [(.tmp 4)] (oVal (.tmp 6) (kUn (fadA 2) (.tmp 1)) (oVal (.tmp 7) (kLoad none (.tmp 6)) (oCallT (some [1, 11]) (.tmp 8) (.con (.func 86 [] [])) [(.tmp 7)] (oVal (.tmp 9) (kLoad (some 5) (.tmp 1)) (oCallT (some [11]) (.tmp 10) (.con (.func 87 [] [])) [(.tmp 9)] (oVal (.tmp 11) (kUn (fadA 4) (.tmp 1)) (oVal (.tmp 12) (kLoad none (.tmp 11)) (oCall (.tmp 13) (.con (.func 88 [] [])) [(.tmp 12)] (oVal (.tmp 14) (kBuildSlice [(.int Go.IntKind.i64 0), (.int Go.IntKind.i64 0), (.int Go.IntKind.i64 0), (.int Go.IntKind.i64 0)] 4 [(0, 1, (.tmp 5)), (1, 1, (.tmp 8)), (2, 1, (.tmp 10)), (3, 1, (.tmp 13))]) (oCall (.tmp 15) (.con (.func 47 [] [])) [(.tmp 14)] (oVal (.tmp 2) (kMove (.tmp 15)) oNil)))))))))))))))
theorem res56 : Try.f56.results.toList = [.tmp 2] := by kernel_rfl
def K56 : K := (kSeq (kRegion K56r0 [1, 2]) (kSeq (kRegionD K56r1 [2]) kRet))
theorem code56 : codeK Try.prog (X 56) Try.f56.ntmps (Try.f56.body.getD .skip) = some K56 := by kernel_rfl
theorem body56 : Try.f56.body = some (Try.f56.body.getD .skip) := by kernel_rfl
theorem name56 : (Try.f56.name == "runtime.NumGoroutine") = false := by kernel_rfl
theorem enter56 (cl : CallF) (a0 : AV) (s : St) : enterA Try.prog X cl 56 [a0] s Try.f56 = finA Try.prog Try.f56 (K56 cl ⟨56, none, Try.f56.ntmps, X 56⟩ (paramsEnv 0 [a0] .nil) [] s) :=
  enterA_eq body56 name56 (by kernel_rfl) (by kernel_rfl) code56
def K48r0 : OpsF := (oVal (.tmp 2) (kBox (tag 31) (.tmp 0)) (oVal (.tmp 3) (kBox (tag 35) (.tmp 1)) (oVal (.tmp 4) (kMove (.con (.int Go.IntKind.i64 0))) oNil)))
def K48r1 : OpsF := (oEnd [] (oVal (.tmp 5) (kLoad (some 5) (.tmp 2)) (oCallT (some [2, 3]) (.tmp 6) (.con (.func 56 [] [])) [(.tmp 5)] (oVal (.tmp 7) (kLoad (some 5) (.tmp 2)) (oVal (.tmp 8) (kLoad (some 3) (.tmp 3)) (oCall (.tmp 9) (.con (.func 78 [] [])) [(.tmp 7), (.tmp 8)] (oVal (.tmp 10) (kBuildSlice [(.int Go.IntKind.i64 0), (.int Go.IntKind.i64 0)] 2 [(0, 1, (.tmp 6)), (1, 1, (.tmp 9))]) (oCall (.tmp 11) (.con (.func 47 [] [])) [(.tmp 10)] (oVal (.tmp 4) (kMove (.tmp 11)) oNil)))))))))
theorem res48 : Try.f48.results.toList = [.tmp 4] := by kernel_rfl
def K48 : K := (kSeq (kRegion K48r0 [2, 3, 4]) (kSeq (kRegionD K48r1 [4]) kRet))
theorem code48 : codeK Try.prog (X 48) Try.f48.ntmps (Try.f48.body.getD .skip) = some K48 := by kernel_rfl
theorem body48 : Try.f48.body = some (Try.f48.body.getD .skip) := by kernel_rfl
theorem name48 : (Try.f48.name == "runtime.NumGoroutine") = false := by kernel_rfl
theorem enter48 (cl : CallF) (a0 a1 : AV) (s : St) : enterA Try.prog X cl 48 [a0, a1] s Try.f48 = finA Try.prog Try.f48 (K48 cl ⟨48, none, Try.f48.ntmps, X 48⟩ (paramsEnv 0 [a0, a1] .nil) [] s) :=
  enterA_eq body48 name48 (by kernel_rfl) (by kernel_rfl) code48
def K57r0 : OpsF := (oVal (.tmp 2) (kBox (tag 31) (.tmp 0)) (oVal (.tmp 4) (kMove (.con (.int Go.IntKind.i64 0))) oNil))
def K57r1 : OpsF := (oVal (.tmp 5) (kMove (.tmp 1)) (oVal (.tmp 6) (kUn (fadA 2) (.tmp 2)) (oVal (.tmp 7) (kLoad none (.tmp 6)) (oVal (.tmp 8) (kUn lenSlA (.tmp 7)) (oCall (.tmp 9) (.con (.func 89 [] [])) [(.tmp 5), (.tmp 8)] (oVal (.tmp 4) (kMove (.tmp 9)) oNil))))))
theorem res57 : Try.f57.results.toList = [.tmp 4] := by kernel_rfl
def K57 : K := (kSeq (kRegion K57r0 [2, 4]) (kSeq (kRegion K57r1 [4]) kRet))
theorem code57 : codeK Try.prog (X 57) Try.f57.ntmps (Try.f57.body.getD .skip) = some K57 := by kernel_rfl
theorem body57 : Try.f57.body = some (Try.f57.body.getD .skip) := by kernel_rfl
theorem name57 : (Try.f57.name == "runtime.NumGoroutine") = false := by kernel_rfl
theorem enter57 (cl : CallF) (a0 a1 : AV) (s : St) : enterA Try.prog X cl 57 [a0, a1] s Try.f57 = finA Try.prog Try.f57 (K57 cl ⟨57, none, Try.f57.ntmps, X 57⟩ (paramsEnv 0 [a0, a1] .nil) [] s) :=
  enterA_eq body57 name57 (by kernel_rfl) (by kernel_rfl) code57
def K86r0 : OpsF := (oVal (.tmp 2) (kMove (.con (.int Go.IntKind.i64 0))) oNil)
def K86r1 : OpsF := (oVal (.tmp 7) (kMove (.tmp 0)) (oVal (.tmp 8) (kUn lenSlA (.tmp 7)) (oCall (.tmp 9) (.con (.func 68 [] [])) [(.tmp 8), (.con (.int Go.IntKind.i64 0)), (.con (.int Go.IntKind.i64 6))] (oVal (.tmp 3) (kMove (.tmp 9)) oNil))))
def K86r2 : OpsF := (oVal (.tmp 10) (kMove (.tmp 3)) (oVal (.tmp 11) (kInt aNeq (.tmp 10) (.con (.int Go.IntKind.i64 0))) oNil))
def K86r3 : OpsF := (oVal (.tmp 12) (kMove (.tmp 3)) (oVal (.tmp 2) (kMove (.tmp 12)) oNil))
def K86r4 : OpsF := (oVal (.tmp 13) (kMove (.tmp 0)) (oVal (.tmp 14) (kUn lenSlA (.tmp 13)) (oVal (.tmp 15) (kMove (.con (.int Go.IntKind.i64 0))) oNil)))
def K86r5 : OpsF := (oVal (.tmp 16) (kInt aLss (.tmp 15) (.tmp 14)) oNil)
def K86r6 : OpsF := (oVal (.tmp 17) (kTwo (ixsA 9) (.tmp 13) (.tmp 15)) (oVal (.tmp 18) (kLoad (some 9) (.tmp 17)) (oVal (.tmp 5) (kAlloc [(.int Go.IntKind.i64 0), (.int Go.IntKind.i64 0), (.int Go.IntKind.i64 0), (.int Go.IntKind.i64 0), (.int Go.IntKind.i64 0), (.int Go.IntKind.i64 0), (.int Go.IntKind.i64 0), (.int Go.IntKind.i64 0), (.int Go.IntKind.i64 0)] (tag 79)) (oVal .none (kStore 9 (.tmp 5) (.tmp 18)) oNil))))
def K86r7 : OpsF := (oEnd [] (oVal (.tmp 19) (kUn (fadA 0) (.tmp 5)) (oVal (.tmp 20) (kLoad none (.tmp 19)) (oCallT (some [22, 24, 27, 30, 33, 37, 40]) (.tmp 21) (.con (.func 49 [] [])) [(.tmp 20), (.con (.int Go.IntKind.i64 0)), (.con (.int Go.IntKind.i64 100000))] (oVal (.tmp 22) (kUn (fadA 1) (.tmp 5)) (oVal (.tmp 23) (kLoad (some 2) (.tmp 22)) (oVal (.tmp 24) (kUn (fadA 0) (.tmp 5)) (oVal (.tmp 25) (kLoad none (.tmp 24)) (oCallT (some [27, 30, 33, 37, 40]) (.tmp 26) (.con (.func 104 [] [])) [(.tmp 23), (.con (.int Go.IntKind.i64 0)), (.tmp 25)] (oVal (.tmp 27) (kUn (fadA 3) (.tmp 5)) (oVal (.tmp 28) (kLoad (some 2) (.tmp 27)) (oCallT (some [30, 33, 37, 40]) (.tmp 29) (.con (.func 104 [] [])) [(.tmp 28), (.con (.int Go.IntKind.i64 0)), (.con (.int Go.IntKind.i64 100000))] (oVal (.tmp 30) (kUn (fadA 5) (.tmp 5)) (oVal (.tmp 31) (kLoad (some 2) (.tmp 30)) (oCallT (some [33, 37, 40]) (.tmp 32) (.con (.func 85 [] [])) [(.tmp 31)] (oVal (.tmp 33) (kUn (fadA 7) (.tmp 5)) (oVal (.tmp 34) (kLoad (some 2) (.tmp 33)) (oCallT (some [37, 40]) (.tmp 35) (.con (.func 85 [] [])) [(.tmp 34)] (oVal (.tmp 36) (kUn (fadA 5) (.tmp 5)) (oVal (.tmp 37) (kUn (fadA 1) (.tmp 36)) (oVal (.tmp 38) (kLoad none (.tmp 37)) (oVal (.tmp 39) (kUn (fadA 7) (.tmp 5)) (oVal (.tmp 40) (kUn (fadA 0) (.tmp 39)) (oVal (.tmp 41) (kLoad none (.tmp 40)) (oVal (.tmp 42) (kInt aLeq (.tmp 38) (.tmp 41)) (oCall (.tmp 43) (.con (.func 50 [] [])) [(.tmp 42), (.con (.int Go.IntKind.i64 9))] (oVal (.tmp 44) (kBuildSlice [(.int Go.IntKind.i64 0), (.int Go.IntKind.i64 0), (.int Go.IntKind.i64 0), (.int Go.IntKind.i64 0), (.int Go.IntKind.i64 0), (.int Go.IntKind.i64 0)] 6 [(0, 1, (.tmp 21)), (1, 1, (.tmp 26)), (2, 1, (.tmp 29)), (3, 1, (.tmp 32)), (4, 1, (.tmp 35)), (5, 1, (.tmp 43))]) (oCall (.tmp 45) (.con (.func 47 [] [])) [(.tmp 44)] (oVal (.tmp 6) (kMove (.tmp 45)) oNil)))))))))))))))))))))))))))))
def K86r8 : OpsF := (oVal (.tmp 46) (kMove (.tmp 6)) (oVal (.tmp 47) (kInt aNeq (.tmp 46) (.con (.int Go.IntKind.i64 0))) oNil))
def K86r9 : OpsF := (oVal (.tmp 48) (kMove (.tmp 6)) (oVal (.tmp 2) (kMove (.tmp 48)) oNil))
def K86r10 : OpsF := (oVal (.tmp 49) (kInt aAdd (.tmp 15) (.con (.int Go.IntKind.i64 1))) (oVal (.tmp 15) (kMove (.tmp 49)) oNil))
def K86l0 : K := (kSeq (kRegion K86r5 [16]) (kSeq (kCond (.tmp 16) kSkip (kExit 0)) (kSeq (kBlock 1 (kSeq (kRegion K86r6 [5]) (kSeq (kRegionD K86r7 [6]) (kSeq (kRegion K86r8 [47]) (kCond (.tmp 47) (kSeq (kRegion K86r9 [2]) kRet) kSkip))))) (kRegion K86r10 [15]))))
def K86r11 : OpsF := (oVal (.tmp 2) (kMove (.con (.int Go.IntKind.i64 0))) oNil)
theorem res86 : Try.f86.results.toList = [.tmp 2] := by kernel_rfl
def K86 : K := (kSeq (kRegion K86r0 [2]) (kSeq (kSeq (kRegion K86r1 [3]) (kSeq (kRegion K86r2 [11]) (kCond (.tmp 11) (kSeq (kRegion K86r3 [2]) kRet) kSkip))) (kSeq (kSeq (kRegion K86r4 [13, 14, 15]) (kBlock 0 (kLoop K86l0))) (kSeq (kRegion K86r11 [2]) kRet))))
theorem code86 : codeK Try.prog (X 86) Try.f86.ntmps (Try.f86.body.getD .skip) = some K86 := by kernel_rfl
theorem body86 : Try.f86.body = some (Try.f86.body.getD .skip) := by kernel_rfl
theorem name86 : (Try.f86.name == "runtime.NumGoroutine") = false := by kernel_rfl
theorem enter86 (cl : CallF) (a0 : AV) (s : St) : enterA Try.prog X cl 86 [a0] s Try.f86 = finA Try.prog Try.f86 (K86 cl ⟨86, none, Try.f86.ntmps, X 86⟩ (paramsEnv 0 [a0] .nil) [] s) :=
  enterA_eq body86 name86 (by kernel_rfl) (by kernel_rfl) code86
def K87r0 : OpsF := (oVal (.tmp 1) (kBox (tag 31) (.tmp 0)) (oVal (.tmp 2) (kMove (.con (.int Go.IntKind.i64 0))) oNil))
def K87r1 : OpsF := (oVal (.tmp 8) (kUn (fadA 3) (.tmp 1)) (oVal (.tmp 9) (kLoad none (.tmp 8)) (oVal (.tmp 10) (kUn lenSlA (.tmp 9)) (oCall (.tmp 11) (.con (.func 68 [] [])) [(.tmp 10), (.con (.int Go.IntKind.i64 0)), (.con (.int Go.IntKind.i64 20))] (oVal (.tmp 3) (kMove (.tmp 11)) oNil)))))
def K87r2 : OpsF := (oVal (.tmp 12) (kMove (.tmp 3)) (oVal (.tmp 13) (kInt aNeq (.tmp 12) (.con (.int Go.IntKind.i64 0))) oNil))
def K87r3 : OpsF := (oVal (.tmp 14) (kMove (.tmp 3)) (oVal (.tmp 2) (kMove (.tmp 14)) oNil))
def K87r4 : OpsF := (oVal (.tmp 4) (kMove (.con (.int Go.IntKind.i64 0))) oNil)
def K87r5 : OpsF := (oVal (.tmp 15) (kUn (fadA 3) (.tmp 1)) (oVal (.tmp 16) (kLoad none (.tmp 15)) (oVal (.tmp 17) (kUn lenSlA (.tmp 16)) (oVal (.tmp 18) (kMove (.con (.int Go.IntKind.i64 0))) oNil))))
def K87r6 : OpsF := (oVal (.tmp 19) (kInt aLss (.tmp 18) (.tmp 17)) oNil)
def K87r7 : OpsF := (oVal (.tmp 20) (kTwo (ixsA 3) (.tmp 16) (.tmp 18)) (oVal (.tmp 21) (kLoad (some 3) (.tmp 20)) (oVal (.tmp 6) (kAlloc [(.int Go.IntKind.i64 0), (.int Go.IntKind.i64 0), (.int Go.IntKind.i64 0)] (tag 99)) (oVal .none (kStore 3 (.tmp 6) (.tmp 21)) oNil))))
def K87r8 : OpsF := (oEnd [] (oVal (.tmp 22) (kLoad (some 5) (.tmp 1)) (oVal (.tmp 23) (kUn (fadA 0) (.tmp 6)) (oVal (.tmp 24) (kLoad none (.tmp 23)) (oCallT (some [26, 29, 32]) (.tmp 25) (.con (.func 57 [] [])) [(.tmp 22), (.tmp 24)] (oVal (.tmp 26) (kUn (fadA 1) (.tmp 6)) (oVal (.tmp 27) (kLoad none (.tmp 26)) (oCallT (some [29, 32]) (.tmp 28) (.con (.func 58 [] [])) [(.tmp 27)] (oVal (.tmp 29) (kUn (fadA 2) (.tmp 6)) (oVal (.tmp 30) (kLoad none (.tmp 29)) (oCallT (some [32]) (.tmp 31) (.con (.func 49 [] [])) [(.tmp 30), (.con (.int Go.IntKind.i64 0)), (.con (.int Go.IntKind.i64 100000))] (oVal (.tmp 32) (kUn (fadA 1) (.tmp 6)) (oVal (.tmp 33) (kLoad none (.tmp 32)) (oVal (.tmp 34) (kMove (.tmp 4)) (oVal (.tmp 35) (kInt aGeq (.tmp 33) (.tmp 34)) (oCall (.tmp 36) (.con (.func 50 [] [])) [(.tmp 35), (.con (.int Go.IntKind.i64 5))] (oVal (.tmp 37) (kBuildSlice [(.int Go.IntKind.i64 0), (.int Go.IntKind.i64 0), (.int Go.IntKind.i64 0), (.int Go.IntKind.i64 0)] 4 [(0, 1, (.tmp 25)), (1, 1, (.tmp 28)), (2, 1, (.tmp 31)), (3, 1, (.tmp 36))]) (oCall (.tmp 38) (.con (.func 47 [] [])) [(.tmp 37)] (oVal (.tmp 7) (kMove (.tmp 38)) oNil)))))))))))))))))))
def K87r9 : OpsF := (oVal (.tmp 39) (kMove (.tmp 7)) (oVal (.tmp 40) (kInt aNeq (.tmp 39) (.con (.int Go.IntKind.i64 0))) oNil))
def K87r10 : OpsF := (oVal (.tmp 41) (kMove (.tmp 7)) (oVal (.tmp 2) (kMove (.tmp 41)) oNil))
def K87r11 : OpsF := (oVal (.tmp 42) (kUn (fadA 1) (.tmp 6)) (oVal (.tmp 43) (kLoad none (.tmp 42)) (oVal (.tmp 4) (kMove (.tmp 43)) oNil)))
def K87r12 : OpsF := (oVal (.tmp 44) (kInt aAdd (.tmp 18) (.con (.int Go.IntKind.i64 1))) (oVal (.tmp 18) (kMove (.tmp 44)) oNil))
def K87l0 : K := (kSeq (kRegion K87r6 [19]) (kSeq (kCond (.tmp 19) kSkip (kExit 0)) (kSeq (kBlock 1 (kSeq (kRegion K87r7 [6]) (kSeq (kRegionD K87r8 [7]) (kSeq (kSeq (kRegion K87r9 [40]) (kCond (.tmp 40) (kSeq (kRegion K87r10 [2]) kRet) kSkip)) (kRegion K87r11 [4]))))) (kRegion K87r12 [18]))))
def K87r13 : OpsF := (oVal (.tmp 2) (kMove (.con (.int Go.IntKind.i64 0))) oNil)
theorem res87 : Try.f87.results.toList = [.tmp 2] := by kernel_rfl
def K87 : K := (kSeq (kRegion K87r0 [1, 2]) (kSeq (kSeq (kRegion K87r1 [3]) (kSeq (kRegion K87r2 [13]) (kCond (.tmp 13) (kSeq (kRegion K87r3 [2]) kRet) kSkip))) (kSeq (kRegion K87r4 [4]) (kSeq (kSeq (kRegion K87r5 [16, 17, 18]) (kBlock 0 (kLoop K87l0))) (kSeq (kRegion K87r13 [2]) kRet)))))
theorem code87 : codeK Try.prog (X 87) Try.f87.ntmps (Try.f87.body.getD .skip) = some K87 := by kernel_rfl
theorem body87 : Try.f87.body = some (Try.f87.body.getD .skip) := by kernel_rfl
theorem name87 : (Try.f87.name == "runtime.NumGoroutine") = false := by kernel_rfl
theorem enter87 (cl : CallF) (a0 : AV) (s : St) : enterA Try.prog X cl 87 [a0] s Try.f87 = finA Try.prog Try.f87 (K87 cl ⟨87, none, Try.f87.ntmps, X 87⟩ (paramsEnv 0 [a0] .nil) [] s) :=
  enterA_eq body87 name87 (by kernel_rfl) (by kernel_rfl) code87
def K58r0 : OpsF := (oVal (.tmp 2) (kMove (.con (.int Go.IntKind.i64 0))) oNil)
def K58r1 : OpsF := (oVal (.tmp 3) (kMove (.tmp 0)) (oCall (.tmp 4) (.con (.func 49 [] [])) [(.tmp 3), (.con (.int Go.IntKind.i64 0)), (.con (.int Go.IntKind.i64 239))] (oVal (.tmp 2) (kMove (.tmp 4)) oNil)))
theorem res58 : Try.f58.results.toList = [.tmp 2] := by kernel_rfl
def K58 : K := (kSeq (kRegion K58r0 [2]) (kSeq (kRegion K58r1 [2]) kRet))
theorem code58 : codeK Try.prog (X 58) Try.f58.ntmps (Try.f58.body.getD .skip) = some K58 := by kernel_rfl
theorem body58 : Try.f58.body = some (Try.f58.body.getD .skip) := by kernel_rfl
theorem name58 : (Try.f58.name == "runtime.NumGoroutine") = false := by kernel_rfl
theorem enter58 (cl : CallF) (a0 : AV) (s : St) : enterA Try.prog X cl 58 [a0] s Try.f58 = finA Try.prog Try.f58 (K58 cl ⟨58, none, Try.f58.ntmps, X 58⟩ (paramsEnv 0 [a0] .nil) [] s) :=
  enterA_eq body58 name58 (by kernel_rfl) (by kernel_rfl) code58
def K78r0 : OpsF := (oVal (.tmp 2) (kBox (tag 31) (.tmp 0)) (oVal (.tmp 3) (kBox (tag 35) (.tmp 1)) (oVal (.tmp 4) (kMove (.con (.int Go.IntKind.i64 0))) oNil)))
def K78r1 : OpsF := (oEnd [] (oVal (.tmp 10) (kUn (fadA 0) (.tmp 3)) (oVal (.tmp 11) (kLoad none (.tmp 10)) (oCallT (some [13, 16, 17]) (.tmp 12) (.con (.func 58 [] [])) [(.tmp 11)] (oVal (.tmp 13) (kUn (fadA 1) (.tmp 3)) (oVal (.tmp 14) (kLoad none (.tmp 13)) (oCallT (some [16, 17]) (.tmp 15) (.con (.func 49 [] [])) [(.tmp 14), (.con (.int Go.IntKind.i64 0)), (.con (.int Go.IntKind.i64 100000))] (oVal (.tmp 16) (kUn (fadA 2) (.tmp 3)) (oVal (.tmp 17) (kLoad none (.tmp 16)) (oVal (.tmp 18) (kUn lenSlA (.tmp 17)) (oCall (.tmp 19) (.con (.func 68 [] [])) [(.tmp 18), (.con (.int Go.IntKind.i64 0)), (.con (.int Go.IntKind.i64 8))] (oVal (.tmp 20) (kBuildSlice [(.int Go.IntKind.i64 0), (.int Go.IntKind.i64 0), (.int Go.IntKind.i64 0)] 3 [(0, 1, (.tmp 12)), (1, 1, (.tmp 15)), (2, 1, (.tmp 19))]) (oCall (.tmp 21) (.con (.func 47 [] [])) [(.tmp 20)] (oVal (.tmp 5) (kMove (.tmp 21)) oNil))))))))))))))
def K78r2 : OpsF := (oVal (.tmp 22) (kMove (.tmp 5)) (oVal (.tmp 23) (kInt aNeq (.tmp 22) (.con (.int Go.IntKind.i64 0))) oNil))
def K78r3 : OpsF := (oVal (.tmp 24) (kMove (.tmp 5)) (oVal (.tmp 4) (kMove (.tmp 24)) oNil))
def K78r4 : OpsF := (oVal (.tmp 25) (kUn (fadA 0) (.tmp 3)) (oVal (.tmp 26) (kLoad none (.tmp 25)) (oVal (.tmp 6) (kMove (.tmp 26)) oNil)))
def K78r5 : OpsF := (oVal (.tmp 27) (kUn (fadA 2) (.tmp 3)) (oVal (.tmp 28) (kLoad none (.tmp 27)) (oVal (.tmp 29) (kUn lenSlA (.tmp 28)) (oVal (.tmp 30) (kMove (.con (.int Go.IntKind.i64 0))) oNil))))
def K78r6 : OpsF := (oVal (.tmp 31) (kInt aLss (.tmp 30) (.tmp 29)) oNil)
def K78r7 : OpsF := (oVal (.tmp 32) (kTwo (ixsA 3) (.tmp 28) (.tmp 30)) (oVal (.tmp 33) (kLoad (some 3) (.tmp 32)) (oVal (.tmp 8) (kAlloc [(.int Go.IntKind.i64 0), (.int Go.IntKind.i64 0), (.int Go.IntKind.i64 0)] (tag 103)) (oVal .none (kStore 3 (.tmp 8) (.tmp 33)) oNil))))
def K78r8s20 : OpsF := (oVal (.tmp 54) (kPick (.tmp 49) (.tmp 53) (.con (.bool false))) (oCall (.tmp 55) (.con (.func 50 [] [])) [(.tmp 54), (.con (.int Go.IntKind.i64 5))] (oVal (.tmp 56) (kBuildSlice [(.int Go.IntKind.i64 0), (.int Go.IntKind.i64 0), (.int Go.IntKind.i64 0), (.int Go.IntKind.i64 0)] 4 [(0, 1, (.tmp 37)), (1, 1, (.tmp 40)), (2, 1, (.tmp 43)), (3, 1, (.tmp 55))]) (oCall (.tmp 57) (.con (.func 47 [] [])) [(.tmp 56)] (oVal (.tmp 9) (kMove (.tmp 57)) oNil)))))
def K78r8s19 : OpsF := (oIf 49 true (oVal (.tmp 53) (kInt aGeq (.tmp 51) (.tmp 52)) K78r8s20) (oSkip (.tmp 53) K78r8s20))
def K78r8s18 : OpsF := (oIf 49 true (oVal (.tmp 52) (kMove (.tmp 6)) K78r8s19) (oSkip (.tmp 52) K78r8s19))
def K78r8s17 : OpsF := (oIf 49 true (oVal (.tmp 51) (kLoad none (.tmp 50)) K78r8s18) (oSkip (.tmp 51) K78r8s18))
def K78r8 : OpsF := (oEnd [] (oVal (.tmp 34) (kLoad (some 5) (.tmp 2)) (oVal (.tmp 35) (kUn (fadA 0) (.tmp 8)) (oVal (.tmp 36) (kLoad none (.tmp 35)) (oCallT (some [38, 41, 44, 46]) (.tmp 37) (.con (.func 57 [] [])) [(.tmp 34), (.tmp 36)] (oVal (.tmp 38) (kUn (fadA 1) (.tmp 8)) (oVal (.tmp 39) (kLoad none (.tmp 38)) (oCallT (some [41, 44, 46]) (.tmp 40) (.con (.func 49 [] [])) [(.tmp 39), (.con (.int Go.IntKind.i64 0)), (.con (.int Go.IntKind.i64 240))] (oVal (.tmp 41) (kUn (fadA 2) (.tmp 8)) (oVal (.tmp 42) (kLoad none (.tmp 41)) (oCallT (some [44, 46]) (.tmp 43) (.con (.func 49 [] [])) [(.tmp 42), (.con (.int Go.IntKind.i64 0)), (.con (.int Go.IntKind.i64 240))] (oVal (.tmp 44) (kUn (fadA 1) (.tmp 8)) (oVal (.tmp 45) (kLoad none (.tmp 44)) (oVal (.tmp 46) (kUn (fadA 2) (.tmp 8)) (oVal (.tmp 47) (kLoad none (.tmp 46)) (oVal (.tmp 48) (kInt aLss (.tmp 45) (.tmp 47)) (oVal (.tmp 49) (kMove (.tmp 48)) (oIf 49 true (oVal (.tmp 50) (kUn (fadA 1) (.tmp 8)) K78r8s17) (oSkip (.tmp 50) K78r8s17)))))))))))))))))))
def K78r9 : OpsF := (oVal (.tmp 58) (kMove (.tmp 9)) (oVal (.tmp 59) (kInt aNeq (.tmp 58) (.con (.int Go.IntKind.i64 0))) oNil))
def K78r10 : OpsF := (oVal (.tmp 60) (kMove (.tmp 9)) (oVal (.tmp 4) (kMove (.tmp 60)) oNil))
def K78r11 : OpsF := (oVal (.tmp 61) (kUn (fadA 2) (.tmp 8)) (oVal (.tmp 62) (kLoad none (.tmp 61)) (oVal (.tmp 6) (kMove (.tmp 62)) oNil)))
def K78r12 : OpsF := (oVal (.tmp 63) (kInt aAdd (.tmp 30) (.con (.int Go.IntKind.i64 1))) (oVal (.tmp 30) (kMove (.tmp 63)) oNil))
def K78l0 : K := (kSeq (kRegion K78r6 [31]) (kSeq (kCond (.tmp 31) kSkip (kExit 0)) (kSeq (kBlock 1 (kSeq (kRegion K78r7 [8]) (kSeq (kRegionD K78r8 [9]) (kSeq (kSeq (kRegion K78r9 [59]) (kCond (.tmp 59) (kSeq (kRegion K78r10 [4]) kRet) kSkip)) (kRegion K78r11 [6]))))) (kRegion K78r12 [30]))))
def K78r13 : OpsF := (oVal (.tmp 4) (kMove (.con (.int Go.IntKind.i64 0))) oNil)
theorem res78 : Try.f78.results.toList = [.tmp 4] := by kernel_rfl
def K78 : K := (kSeq (kRegion K78r0 [2, 3, 4]) (kSeq (kRegionD K78r1 [5]) (kSeq (kSeq (kRegion K78r2 [23]) (kCond (.tmp 23) (kSeq (kRegion K78r3 [4]) kRet) kSkip)) (kSeq (kRegion K78r4 [6]) (kSeq (kSeq (kRegion K78r5 [28, 29, 30]) (kBlock 0 (kLoop K78l0))) (kSeq (kRegion K78r13 [4]) kRet))))))
theorem code78 : codeK Try.prog (X 78) Try.f78.ntmps (Try.f78.body.getD .skip) = some K78 := by kernel_rfl
theorem body78 : Try.f78.body = some (Try.f78.body.getD .skip) := by kernel_rfl
theorem name78 : (Try.f78.name == "runtime.NumGoroutine") = false := by kernel_rfl
theorem enter78 (cl : CallF) (a0 a1 : AV) (s : St) : enterA Try.prog X cl 78 [a0, a1] s Try.f78 = finA Try.prog Try.f78 (K78 cl ⟨78, none, Try.f78.ntmps, X 78⟩ (paramsEnv 0 [a0, a1] .nil) [] s) :=
  enterA_eq body78 name78 (by kernel_rfl) (by kernel_rfl) code78
def K88r0 : OpsF := (oVal (.tmp 2) (kMove (.con (.int Go.IntKind.i64 0))) oNil)
def K88r1 : OpsF := (oVal (.tmp 8) (kMove (.tmp 0)) (oVal (.tmp 9) (kUn lenSlA (.tmp 8)) (oCall (.tmp 10) (.con (.func 68 [] [])) [(.tmp 9), (.con (.int Go.IntKind.i64 1)), (.con (.int Go.IntKind.i64 6))] (oVal (.tmp 3) (kMove (.tmp 10)) oNil))))
def K88r2 : OpsF := (oVal (.tmp 11) (kMove (.tmp 3)) (oVal (.tmp 12) (kInt aNeq (.tmp 11) (.con (.int Go.IntKind.i64 0))) oNil))
def K88r3 : OpsF := (oVal (.tmp 13) (kMove (.tmp 3)) (oVal (.tmp 2) (kMove (.tmp 13)) oNil))
def K88r4 : OpsF := (oVal (.tmp 14) (kBuild [(.int Go.IntKind.i64 0), (.int Go.IntKind.i64 0)] [(0, 1, (.con (.int Go.IntKind.i64 (-301))))]) (oVal (.tmp 4) (kAlloc [(.int Go.IntKind.i64 0), (.int Go.IntKind.i64 0)] (tag 101)) (oVal .none (kStore 2 (.tmp 4) (.tmp 14)) oNil)))
def K88r5 : OpsF := (oVal (.tmp 15) (kMove (.tmp 0)) (oVal (.tmp 16) (kUn lenSlA (.tmp 15)) (oVal (.tmp 17) (kMove (.con (.int Go.IntKind.i64 0))) oNil)))
def K88r6 : OpsF := (oVal (.tmp 18) (kInt aLss (.tmp 17) (.tmp 16)) oNil)
def K88r7 : OpsF := (oVal (.tmp 19) (kTwo (ixsA 2) (.tmp 15) (.tmp 17)) (oVal (.tmp 20) (kLoad (some 2) (.tmp 19)) (oVal (.tmp 6) (kAlloc [(.int Go.IntKind.i64 0), (.int Go.IntKind.i64 0)] (tag 101)) (oVal .none (kStore 2 (.tmp 6) (.tmp 20)) oNil))))
def K88r8s17 : OpsF := (oVal (.tmp 38) (kPick (.tmp 32) (.tmp 37) (.con (.bool false))) (oCall (.tmp 39) (.con (.func 50 [] [])) [(.tmp 38), (.con (.int Go.IntKind.i64 5))] (oVal (.tmp 40) (kBuildSlice [(.int Go.IntKind.i64 0), (.int Go.IntKind.i64 0), (.int Go.IntKind.i64 0)] 3 [(0, 1, (.tmp 23)), (1, 1, (.tmp 26)), (2, 1, (.tmp 39))]) (oCall (.tmp 41) (.con (.func 47 [] [])) [(.tmp 40)] (oVal (.tmp 7) (kMove (.tmp 41)) oNil)))))
def K88r8s16 : OpsF := (oIf 32 true (oVal (.tmp 37) (kInt aGeq (.tmp 34) (.tmp 36)) K88r8s17) (oSkip (.tmp 37) K88r8s17))
def K88r8s15 : OpsF := (oIf 32 true (oVal (.tmp 36) (kLoad none (.tmp 35)) K88r8s16) (oSkip (.tmp 36) K88r8s16))
def K88r8s14 : OpsF := (oIf 32 true (oVal (.tmp 35) (kUn (fadA 1) (.tmp 4)) K88r8s15) (oSkip (.tmp 35) K88r8s15))
def K88r8s13 : OpsF := (oIf 32 true (oVal (.tmp 34) (kLoad none (.tmp 33)) K88r8s14) (oSkip (.tmp 34) K88r8s14))
def K88r8 : OpsF := (oEnd [] (oVal (.tmp 21) (kUn (fadA 0) (.tmp 6)) (oVal (.tmp 22) (kLoad none (.tmp 21)) (oCallT (some [24, 27, 29]) (.tmp 23) (.con (.func 49 [] [])) [(.tmp 22), (.con (.int Go.IntKind.i64 (-300))), (.con (.int Go.IntKind.i64 400))] (oVal (.tmp 24) (kUn (fadA 1) (.tmp 6)) (oVal (.tmp 25) (kLoad none (.tmp 24)) (oCallT (some [27, 29]) (.tmp 26) (.con (.func 49 [] [])) [(.tmp 25), (.con (.int Go.IntKind.i64 0)), (.con (.int Go.IntKind.i64 1000))] (oVal (.tmp 27) (kUn (fadA 0) (.tmp 6)) (oVal (.tmp 28) (kLoad none (.tmp 27)) (oVal (.tmp 29) (kUn (fadA 0) (.tmp 4)) (oVal (.tmp 30) (kLoad none (.tmp 29)) (oVal (.tmp 31) (kGtr (.tmp 28) (.tmp 30)) (oVal (.tmp 32) (kMove (.tmp 31)) (oIf 32 true (oVal (.tmp 33) (kUn (fadA 1) (.tmp 6)) K88r8s13) (oSkip (.tmp 33) K88r8s13)))))))))))))))
def K88r9 : OpsF := (oVal (.tmp 42) (kMove (.tmp 7)) (oVal (.tmp 43) (kInt aNeq (.tmp 42) (.con (.int Go.IntKind.i64 0))) oNil))
def K88r10 : OpsF := (oVal (.tmp 44) (kMove (.tmp 7)) (oVal (.tmp 2) (kMove (.tmp 44)) oNil))
def K88r11 : OpsF := (oVal (.tmp 45) (kLoad (some 2) (.tmp 6)) (oVal .none (kStore 2 (.tmp 4) (.tmp 45)) oNil))
def K88r12 : OpsF := (oVal (.tmp 46) (kInt aAdd (.tmp 17) (.con (.int Go.IntKind.i64 1))) (oVal (.tmp 17) (kMove (.tmp 46)) oNil))
def K88l0 : K := (kSeq (kRegion K88r6 [18]) (kSeq (kCond (.tmp 18) kSkip (kExit 0)) (kSeq (kBlock 1 (kSeq (kRegion K88r7 [6]) (kSeq (kRegionD K88r8 [7]) (kSeq (kSeq (kRegion K88r9 [43]) (kCond (.tmp 43) (kSeq (kRegion K88r10 [2]) kRet) kSkip)) (kRegion K88r11 []))))) (kRegion K88r12 [17]))))
def K88r13 : OpsF := (oVal (.tmp 2) (kMove (.con (.int Go.IntKind.i64 0))) oNil)
theorem res88 : Try.f88.results.toList = [.tmp 2] := by kernel_rfl
def K88 : K := (kSeq (kRegion K88r0 [2]) (kSeq (kSeq (kRegion K88r1 [3]) (kSeq (kRegion K88r2 [12]) (kCond (.tmp 12) (kSeq (kRegion K88r3 [2]) kRet) kSkip))) (kSeq (kRegion K88r4 [4]) (kSeq (kSeq (kRegion K88r5 [15, 16, 17]) (kBlock 0 (kLoop K88l0))) (kSeq (kRegion K88r13 [2]) kRet)))))
theorem code88 : codeK Try.prog (X 88) Try.f88.ntmps (Try.f88.body.getD .skip) = some K88 := by kernel_rfl
theorem body88 : Try.f88.body = some (Try.f88.body.getD .skip) := by kernel_rfl
theorem name88 : (Try.f88.name == "runtime.NumGoroutine") = false := by kernel_rfl
theorem enter88 (cl : CallF) (a0 : AV) (s : St) : enterA Try.prog X cl 88 [a0] s Try.f88 = finA Try.prog Try.f88 (K88 cl ⟨88, none, Try.f88.ntmps, X 88⟩ (paramsEnv 0 [a0] .nil) [] s) :=
  enterA_eq body88 name88 (by kernel_rfl) (by kernel_rfl) code88
def K85r0 : OpsF := (oVal (.tmp 1) (kBox (tag 26) (.tmp 0)) (oVal (.tmp 2) (kMove (.con (.int Go.IntKind.i64 0))) oNil))
def K85r1 : OpsF := (oVal (.tmp 3) (kLoad (some 2) (.tmp 1)) (oCall (.tmp 4) (.con (.func 104 [] [])) [(.tmp 3), (.con (.int Go.IntKind.i64 (-300))), (.con (.int Go.IntKind.i64 400))] (oVal (.tmp 2) (kMove (.tmp 4)) oNil)))
theorem res85 : Try.f85.results.toList = [.tmp 2] := by kernel_rfl
def K85 : K := (kSeq (kRegion K85r0 [1, 2]) (kSeq (kRegion K85r1 [2]) kRet))
theorem code85 : codeK Try.prog (X 85) Try.f85.ntmps (Try.f85.body.getD .skip) = some K85 := by kernel_rfl
theorem body85 : Try.f85.body = some (Try.f85.body.getD .skip) := by kernel_rfl
theorem name85 : (Try.f85.name == "runtime.NumGoroutine") = false := by kernel_rfl
theorem enter85 (cl : CallF) (a0 : AV) (s : St) : enterA Try.prog X cl 85 [a0] s Try.f85 = finA Try.prog Try.f85 (K85 cl ⟨85, none, Try.f85.ntmps, X 85⟩ (paramsEnv 0 [a0] .nil) [] s) :=
  enterA_eq body85 name85 (by kernel_rfl) (by kernel_rfl) code85
end
end Go.Proofs.Ytaddkbhpocbimaa.code
set_option maxRecDepth 100000
namespace Go.Proofs.Ytaddkbhpocbimaa.code
open Go.Abs
noncomputable section
def K21r0 : OpsF := (oVal (.tmp 3) (kBox (tag 31) (.tmp 0)) (oVal (.tmp 6) (kAlloc [(.int Go.IntKind.i64 0), (.int Go.IntKind.i64 0)] (tag 26)) (oVal (.tmp 7) (kMove (.con (.int Go.IntKind.i64 0))) oNil)))
def K21r1 : OpsF := (oEnd [] (oVal (.tmp 13) (kLoad (some 5) (.tmp 3)) (oCallT (some [3]) (.tmp 14) (.con (.func 56 [] [])) [(.tmp 13)] (oVal (.tmp 15) (kLoad (some 5) (.tmp 3)) (oVal (.tmp 16) (kMove (.tmp 1)) (oCall (.tmp 17) (.con (.func 57 [] [])) [(.tmp 15), (.tmp 16)] (oVal (.tmp 18) (kMove (.tmp 2)) (oCall (.tmp 19) (.con (.func 58 [] [])) [(.tmp 18)] (oVal (.tmp 20) (kBuildSlice [(.int Go.IntKind.i64 0), (.int Go.IntKind.i64 0), (.int Go.IntKind.i64 0)] 3 [(0, 1, (.tmp 14)), (1, 1, (.tmp 17)), (2, 1, (.tmp 19))]) (oCall (.tmp 21) (.con (.func 47 [] [])) [(.tmp 20)] (oVal (.tmp 8) (kMove (.tmp 21)) oNil)))))))))))
def K21r2 : OpsF := (oVal (.tmp 22) (kMove (.tmp 8)) (oVal (.tmp 23) (kInt aNeq (.tmp 22) (.con (.int Go.IntKind.i64 0))) oNil))
def K21r3 : OpsF := (oVal (.tmp 24) (kBuild [(.int Go.IntKind.i64 0), (.int Go.IntKind.i64 0)] []) (oVal (.tmp 25) (kMove (.tmp 8)) (oVal .none (kStore 2 (.tmp 6) (.tmp 24)) (oVal (.tmp 7) (kMove (.tmp 25)) oNil))))
def K21r4 : OpsF := (oVal (.tmp 26) (kLoad (some 5) (.tmp 3)) (oVal (.tmp 27) (kMove (.tmp 1)) (oCall (.tmp 28) (.con (.func 59 [] [])) [(.tmp 26), (.tmp 27)] (oVal (.tmp 9) (kAlloc [(.int Go.IntKind.i64 0), (.int Go.IntKind.i64 0), (.int Go.IntKind.i64 0), (.int Go.IntKind.i64 0), (.int Go.IntKind.i64 0), (.int Go.IntKind.i64 0), (.int Go.IntKind.i64 0), (.int Go.IntKind.i64 0), (.int Go.IntKind.i64 0), (.int Go.IntKind.i64 0), (.int Go.IntKind.i64 0), (.int Go.IntKind.i64 0), .nilslice] (tag 122)) (oVal .none (kStore 13 (.tmp 9) (.tmp 28)) oNil)))))
def K21r5 : OpsF := (oVal (.tmp 10) (kAlloc [(.int Go.IntKind.i64 0), (.int Go.IntKind.i64 0)] (tag 120)) oNil)
def K21r6 : OpsF := (oVal (.tmp 29) (kMove (.tmp 2)) (oVal (.tmp 30) (kInt aAdd (.tmp 29) (.con (.int Go.IntKind.i64 1))) (oCall (.tmp 31) (.con (.func 60 [] [])) [(.tmp 9), (.tmp 30)] oNil)))
def K21r7 : OpsF := (oVal (.tmp 35) (kLoad (some 2) (.tmp 10)) (oCall (.tmp 36) (.con (.func 61 [] [])) [(.tmp 35)] (oVal .none (kStore 2 (.tmp 6) (.tmp 36)) (oVal (.tmp 7) (kMove (.con (.int Go.IntKind.i64 0))) oNil))))
theorem res21 : Try.f21.results.toList = [.cell 6 26, .tmp 7] := by kernel_rfl
def K21 : K := (kSeq (kRegion K21r0 [3, 6, 7]) (kSeq (kRegionD K21r1 [8]) (kSeq (kSeq (kRegion K21r2 [23]) (kCond (.tmp 23) (kSeq (kRegion K21r3 [7]) kRet) kSkip)) (kSeq (kRegion K21r4 [9]) (kSeq (kRegion K21r5 [10]) (kSeq (kSeq (kRegion K21r6 [31]) (kBlock 0 (kRange (.tmp 31) [32, 33] (rangeAt Try.f21 0).1 (rangeAt Try.f21 0).2))) (kSeq (kRegion K21r7 [7]) kRet)))))))
theorem code21 : codeK Try.prog (X 21) Try.f21.ntmps (Try.f21.body.getD .skip) = some K21 := by kernel_rfl
theorem body21 : Try.f21.body = some (Try.f21.body.getD .skip) := by kernel_rfl
theorem name21 : (Try.f21.name == "runtime.NumGoroutine") = false := by kernel_rfl
theorem enter21 (cl : CallF) (a0 a1 a2 : AV) (s : St) : enterA Try.prog X cl 21 [a0, a1, a2] s Try.f21 = finA Try.prog Try.f21 (K21 cl ⟨21, none, Try.f21.ntmps, X 21⟩ (paramsEnv 0 [a0, a1, a2] .nil) [] s) :=
  enterA_eq body21 name21 (by kernel_rfl) (by kernel_rfl) code21
def K21a0r0 : OpsF := (oVal (.tmp 12) (kAlloc [(.int Go.IntKind.i64 0), (.int Go.IntKind.i64 0)] (tag 120)) (oVal .none (kStore 2 (.tmp 12) (.tmp 33)) oNil))
def K21a0 : K := (kRegion K21a0r0 [12])
theorem code21a0 : codeK Try.prog (X 21) Try.f21.ntmps (rangeAt Try.f21 0).1 = some K21a0 := by kernel_rfl
def K21b0r0 : OpsF := (oVal (.tmp 34) (kLoad (some 2) (.tmp 12)) (oVal .none (kStore 2 (.tmp 10) (.tmp 34)) oNil))
def K21b0 : K := (kBlock 1 (kRegion K21b0r0 []))
theorem code21b0 : codeK Try.prog (X 21) Try.f21.ntmps (rangeAt Try.f21 0).2 = some K21b0 := by kernel_rfl
def K22r0 : OpsF := (oVal (.tmp 3) (kBox (tag 31) (.tmp 0)) (oVal (.tmp 6) (kMove (.con (.int Go.IntKind.i64 0))) (oVal (.tmp 7) (kMove (.con (.int Go.IntKind.i64 0))) oNil)))
def K22r1 : OpsF := (oVal (.tmp 11) (kLoad (some 5) (.tmp 3)) (oVal (.tmp 12) (kMove (.tmp 1)) (oVal (.tmp 13) (kMove (.tmp 2)) (oCall (.tmp 14) (.con (.func 21 [] [])) [(.tmp 11), (.tmp 12), (.tmp 13)] (oVal (.tmp 10) (kMove (.tmp 14)) (oVal (.tmp 15) (kUn (extA 0) (.tmp 10)) (oVal (.tmp 16) (kUn (extA 1) (.tmp 10)) (oVal (.tmp 8) (kAlloc [(.int Go.IntKind.i64 0), (.int Go.IntKind.i64 0)] (tag 26)) (oVal .none (kStore 2 (.tmp 8) (.tmp 15)) (oVal (.tmp 9) (kMove (.tmp 16)) oNil))))))))))
def K22r2 : OpsF := (oVal (.tmp 17) (kMove (.tmp 9)) (oVal (.tmp 18) (kInt aNeq (.tmp 17) (.con (.int Go.IntKind.i64 0))) oNil))
def K22r3 : OpsF := (oVal (.tmp 19) (kMove (.tmp 9)) (oVal (.tmp 6) (kMove (.con (.int Go.IntKind.i64 0))) (oVal (.tmp 7) (kMove (.tmp 19)) oNil)))
def K22r4 : OpsF := (oVal (.tmp 20) (kUn (fadA 1) (.tmp 8)) (oVal (.tmp 21) (kLoad none (.tmp 20)) (oVal (.tmp 22) (kGtr (.tmp 21) (.con (.int Go.IntKind.i64 0))) (oVal (.tmp 23) (kUn (fadA 0) (.tmp 8)) (oVal (.tmp 24) (kLoad none (.tmp 23)) (oVal (.tmp 25) (kGtr (.tmp 24) (.con (.int Go.IntKind.i64 0))) (oCall (.tmp 26) (.con (.func 53 [] [])) [(.tmp 22), (.tmp 25)] (oVal (.tmp 6) (kMove (.tmp 26)) (oVal (.tmp 7) (kMove (.con (.int Go.IntKind.i64 0))) oNil)))))))))
theorem res22 : Try.f22.results.toList = [.tmp 6, .tmp 7] := by kernel_rfl
def K22 : K := (kSeq (kRegion K22r0 [3, 6, 7]) (kSeq (kRegion K22r1 [8, 9]) (kSeq (kSeq (kRegion K22r2 [18]) (kCond (.tmp 18) (kSeq (kRegion K22r3 [6, 7]) kRet) kSkip)) (kSeq (kRegion K22r4 [6, 7]) kRet))))
theorem code22 : codeK Try.prog (X 22) Try.f22.ntmps (Try.f22.body.getD .skip) = some K22 := by kernel_rfl
theorem body22 : Try.f22.body = some (Try.f22.body.getD .skip) := by kernel_rfl
theorem name22 : (Try.f22.name == "runtime.NumGoroutine") = false := by kernel_rfl
theorem enter22 (cl : CallF) (a0 a1 a2 : AV) (s : St) : enterA Try.prog X cl 22 [a0, a1, a2] s Try.f22 = finA Try.prog Try.f22 (K22 cl ⟨22, none, Try.f22.ntmps, X 22⟩ (paramsEnv 0 [a0, a1, a2] .nil) [] s) :=
  enterA_eq body22 name22 (by kernel_rfl) (by kernel_rfl) code22
def K59r0 : OpsF := (oVal (.tmp 2) (kBox (tag 31) (.tmp 0)) (oVal (.tmp 3) (kBox (tag 3) (.tmp 1)) (oVal (.tmp 4) (kAlloc [(.int Go.IntKind.i64 0), (.int Go.IntKind.i64 0), (.int Go.IntKind.i64 0), (.int Go.IntKind.i64 0), (.int Go.IntKind.i64 0), (.int Go.IntKind.i64 0), (.int Go.IntKind.i64 0), (.int Go.IntKind.i64 0), (.int Go.IntKind.i64 0), (.int Go.IntKind.i64 0), (.int Go.IntKind.i64 0), (.int Go.IntKind.i64 0), .nilslice] (tag 122)) oNil)))
def K59r1 : OpsF := (oVal (.tmp 6) (kFunc 90 [] [(.tmp 3)]) (oVal (.tmp 5) (kMove (.tmp 6)) oNil))
def K59r2 : OpsF := (oEnd [] (oVal (.tmp 7) (kUn (fadA 2) (.tmp 2)) (oVal (.tmp 8) (kLoad none (.tmp 7)) (oVal (.tmp 9) (kLoad none (.tmp 3)) (oVal (.tmp 10) (kTwo (ixsA 9) (.tmp 8) (.tmp 9)) (oVal (.tmp 11) (kLoad (some 9) (.tmp 10)) (oVal (.tmp 12) (kUn (fadA 2) (.tmp 2)) (oVal (.tmp 13) (kLoad none (.tmp 12)) (oVal (.tmp 14) (kLoad none (.tmp 3)) (oVal (.tmp 15) (kTwo (ixsA 9) (.tmp 13) (.tmp 14)) (oVal (.tmp 16) (kUn (fadA 1) (.tmp 15)) (oVal (.tmp 17) (kLoad (some 2) (.tmp 16)) (oCallT (some [7, 3, 10, 19]) (.tmp 18) (.con (.func 91 [] [])) [(.tmp 17)] (oVal (.tmp 19) (kUn (fadA 3) (.tmp 2)) (oVal (.tmp 20) (kLoad none (.tmp 19)) (oCallT (some [7, 3, 10]) (.tmp 21) (.con (.func 93 [] [])) [(.tmp 20)] (oVal (.tmp 22) (kMove (.tmp 5)) (oCallT (some [7, 3, 10]) (.tmp 23) (.con (.func 92 [] [])) [(.tmp 21), (.tmp 22)] (oVal (.tmp 24) (kBuild [(.int Go.IntKind.i64 0), (.int Go.IntKind.i64 0), (.int Go.IntKind.i64 0), (.int Go.IntKind.i64 0), (.int Go.IntKind.i64 0), (.int Go.IntKind.i64 0), (.int Go.IntKind.i64 0), (.int Go.IntKind.i64 0), (.int Go.IntKind.i64 0), (.int Go.IntKind.i64 0), (.int Go.IntKind.i64 0), (.int Go.IntKind.i64 0), .nilslice] [(0, 9, (.tmp 11)), (10, 2, (.tmp 18)), (12, 1, (.tmp 23))]) (oVal .none (kStore 13 (.tmp 4) (.tmp 24)) oNil))))))))))))))))))))
theorem res59 : Try.f59.results.toList = [.cell 4 122] := by kernel_rfl
def K59 : K := (kSeq (kRegion K59r0 [2, 3, 4]) (kSeq (kRegion K59r1 [5]) (kSeq (kRegionD K59r2 []) kRet)))
theorem code59 : codeK Try.prog (X 59) Try.f59.ntmps (Try.f59.body.getD .skip) = some K59 := by kernel_rfl
theorem body59 : Try.f59.body = some (Try.f59.body.getD .skip) := by kernel_rfl
theorem name59 : (Try.f59.name == "runtime.NumGoroutine") = false := by kernel_rfl
theorem enter59 (cl : CallF) (a0 a1 : AV) (s : St) : enterA Try.prog X cl 59 [a0, a1] s Try.f59 = finA Try.prog Try.f59 (K59 cl ⟨59, none, Try.f59.ntmps, X 59⟩ (paramsEnv 0 [a0, a1] .nil) [] s) :=
  enterA_eq body59 name59 (by kernel_rfl) (by kernel_rfl) code59
def K60r0 : OpsF := (oVal (.tmp 2) (kBox (tag 166) (.tmp 0)) (oVal (.tmp 3) (kBox (tag 3) (.tmp 1)) (oVal (.tmp 4) (kMove (.con .nilfunc)) oNil)))
def K60r1 : OpsF := (oVal (.tmp 5) (kFunc 94 [] [(.tmp 2), (.tmp 3)]) (oVal (.tmp 4) (kMove (.tmp 5)) oNil))
theorem res60 : Try.f60.results.toList = [.tmp 4] := by kernel_rfl
def K60 : K := (kSeq (kRegion K60r0 [2, 3, 4]) (kSeq (kRegion K60r1 [4]) kRet))
theorem code60 : codeK Try.prog (X 60) Try.f60.ntmps (Try.f60.body.getD .skip) = some K60 := by kernel_rfl
theorem body60 : Try.f60.body = some (Try.f60.body.getD .skip) := by kernel_rfl
theorem name60 : (Try.f60.name == "runtime.NumGoroutine") = false := by kernel_rfl
theorem enter60 (cl : CallF) (a0 a1 : AV) (s : St) : enterA Try.prog X cl 60 [a0, a1] s Try.f60 = finA Try.prog Try.f60 (K60 cl ⟨60, none, Try.f60.ntmps, X 60⟩ (paramsEnv 0 [a0, a1] .nil) [] s) :=
  enterA_eq body60 name60 (by kernel_rfl) (by kernel_rfl) code60
def K61r0 : OpsF := (oVal (.tmp 1) (kBox (tag 120) (.tmp 0)) (oVal (.tmp 2) (kAlloc [(.int Go.IntKind.i64 0), (.int Go.IntKind.i64 0)] (tag 26)) oNil))
def K61r1 : OpsF := (oVal (.tmp 3) (kTwo (ixaA 2 1) (.tmp 1) (.con (.int Go.IntKind.i64 0))) (oVal (.tmp 4) (kLoad none (.tmp 3)) (oVal (.tmp 5) (kTwo (ixaA 2 1) (.tmp 1) (.con (.int Go.IntKind.i64 1))) (oVal (.tmp 6) (kLoad none (.tmp 5)) (oVal (.tmp 7) (kBuild [(.int Go.IntKind.i64 0), (.int Go.IntKind.i64 0)] [(0, 1, (.tmp 4)), (1, 1, (.tmp 6))]) (oVal .none (kStore 2 (.tmp 2) (.tmp 7)) oNil))))))
theorem res61 : Try.f61.results.toList = [.cell 2 26] := by kernel_rfl
def K61 : K := (kSeq (kRegion K61r0 [1, 2]) (kSeq (kRegion K61r1 []) kRet))
theorem code61 : codeK Try.prog (X 61) Try.f61.ntmps (Try.f61.body.getD .skip) = some K61 := by kernel_rfl
theorem body61 : Try.f61.body = some (Try.f61.body.getD .skip) := by kernel_rfl
theorem name61 : (Try.f61.name == "runtime.NumGoroutine") = false := by kernel_rfl
theorem enter61 (cl : CallF) (a0 : AV) (s : St) : enterA Try.prog X cl 61 [a0] s Try.f61 = finA Try.prog Try.f61 (K61 cl ⟨61, none, Try.f61.ntmps, X 61⟩ (paramsEnv 0 [a0] .nil) [] s) :=
  enterA_eq body61 name61 (by kernel_rfl) (by kernel_rfl) code61
def K53r0 : OpsF := (oVal (.tmp 4) (kMove (.con (.int Go.IntKind.i64 0))) oNil)
def K53r1 : OpsF := (oVal (.tmp 6) (kMove (.tmp 1)) (oVal (.tmp 5) (kMove (.tmp 6)) oNil))
def K53r2 : OpsF := (oVal (.tmp 4) (kMove (.con (.int Go.IntKind.i64 1))) oNil)
def K53r3 : OpsF := (oVal (.tmp 8) (kMove (.tmp 0)) (oVal (.tmp 7) (kMove (.tmp 8)) oNil))
def K53r4 : OpsF := (oVal (.tmp 4) (kMove (.con (.int Go.IntKind.i64 3))) oNil)
def K53r5 : OpsF := (oVal (.tmp 4) (kMove (.con (.int Go.IntKind.i64 2))) oNil)
theorem res53 : Try.f53.results.toList = [.tmp 4] := by kernel_rfl
def K53 : K := (kSeq (kRegion K53r0 [4]) (kSeq (kBlock 0 (kSeq (kRegion K53r1 [5]) (kCond (.tmp 5) (kSeq (kRegion K53r2 [4]) kRet) (kSeq (kRegion K53r3 [7]) (kCond (.tmp 7) (kSeq (kRegion K53r4 [4]) kRet) kSkip))))) (kSeq (kRegion K53r5 [4]) kRet)))
theorem code53 : codeK Try.prog (X 53) Try.f53.ntmps (Try.f53.body.getD .skip) = some K53 := by kernel_rfl
theorem body53 : Try.f53.body = some (Try.f53.body.getD .skip) := by kernel_rfl
theorem name53 : (Try.f53.name == "runtime.NumGoroutine") = false := by kernel_rfl
theorem enter53 (cl : CallF) (a0 a1 : AV) (s : St) : enterA Try.prog X cl 53 [a0, a1] s Try.f53 = finA Try.prog Try.f53 (K53 cl ⟨53, none, Try.f53.ntmps, X 53⟩ (paramsEnv 0 [a0, a1] .nil) [] s) :=
  enterA_eq body53 name53 (by kernel_rfl) (by kernel_rfl) code53
def K90r0 : OpsF := (oVal (.tmp 2) (kBox (tag 99) (.tmp 0)) (oVal (.tmp 3) (kMove (.con (.bool false))) oNil))
def K90r1 : OpsF := (oVal (.tmp 4) (kUn (fadA 0) (.tmp 2)) (oVal (.tmp 5) (kLoad none (.tmp 4)) (oVal (.tmp 6) (kLoad none (.tmp 1)) (oVal (.tmp 7) (kInt aNeq (.tmp 5) (.tmp 6)) (oVal (.tmp 3) (kMove (.tmp 7)) oNil)))))
theorem res90 : Try.f90.results.toList = [.tmp 3] := by kernel_rfl
def K90 : K := (kSeq (kRegion K90r0 [2, 3]) (kSeq (kRegion K90r1 [3]) kRet))
theorem code90 : codeK Try.prog (X 90) Try.f90.ntmps (Try.f90.body.getD .skip) = some K90 := by kernel_rfl
theorem body90 : Try.f90.body = some (Try.f90.body.getD .skip) := by kernel_rfl
theorem name90 : (Try.f90.name == "runtime.NumGoroutine") = false := by kernel_rfl
theorem enter90 (cl : CallF) (a0 a1 : AV) (s : St) : enterA Try.prog X cl 90 [a0, a1] s Try.f90 = finA Try.prog Try.f90 (K90 cl ⟨90, none, Try.f90.ntmps, X 90⟩ (paramsEnv 0 [a0, a1] .nil) [] s) :=
  enterA_eq body90 name90 (by kernel_rfl) (by kernel_rfl) code90
def K91r0 : OpsF := (oVal (.tmp 1) (kBox (tag 26) (.tmp 0)) (oVal (.tmp 2) (kAlloc [(.int Go.IntKind.i64 0), (.int Go.IntKind.i64 0)] (tag 120)) oNil))
def K91r1 : OpsF := (oVal (.tmp 3) (kUn (fadA 0) (.tmp 1)) (oVal (.tmp 4) (kLoad none (.tmp 3)) (oVal (.tmp 5) (kUn (fadA 1) (.tmp 1)) (oVal (.tmp 6) (kLoad none (.tmp 5)) (oVal (.tmp 7) (kBuild [(.int Go.IntKind.i64 0), (.int Go.IntKind.i64 0)] [(0, 1, (.tmp 4)), (1, 1, (.tmp 6))]) (oVal .none (kStore 2 (.tmp 2) (.tmp 7)) oNil))))))
theorem res91 : Try.f91.results.toList = [.cell 2 120] := by kernel_rfl
def K91 : K := (kSeq (kRegion K91r0 [1, 2]) (kSeq (kRegion K91r1 []) kRet))
theorem code91 : codeK Try.prog (X 91) Try.f91.ntmps (Try.f91.body.getD .skip) = some K91 := by kernel_rfl
theorem body91 : Try.f91.body = some (Try.f91.body.getD .skip) := by kernel_rfl
theorem name91 : (Try.f91.name == "runtime.NumGoroutine") = false := by kernel_rfl
theorem enter91 (cl : CallF) (a0 : AV) (s : St) : enterA Try.prog X cl 91 [a0] s Try.f91 = finA Try.prog Try.f91 (K91 cl ⟨91, none, Try.f91.ntmps, X 91⟩ (paramsEnv 0 [a0] .nil) [] s) :=
  enterA_eq body91 name91 (by kernel_rfl) (by kernel_rfl) code91
def K92r0 : OpsF := (oVal (.tmp 4) (kMove (.con .nilslice)) oNil)
def K92r1 : OpsF := (oVal (.tmp 8) (kMove (.tmp 0)) (oVal (.tmp 9) (kMove (.tmp 1)) (oCall (.tmp 10) (.con (.func 105 [] [])) [(.tmp 8), (.tmp 9)] (oVal (.tmp 5) (kMove (.tmp 10)) oNil))))
def K92r2 : OpsF := (oVal (.tmp 11) (kMove (.tmp 5)) (oVal (.tmp 12) (kInt aEql (.tmp 11) (.con (.int Go.IntKind.i64 (-1)))) oNil))
def K92r3 : OpsF := (oVal (.tmp 13) (kMove (.tmp 0)) (oVal (.tmp 4) (kMove (.tmp 13)) oNil))
def K92r4 : OpsF := (oVal (.tmp 14) (kMove (.tmp 5)) (oVal (.tmp 15) (kInt aAdd (.tmp 14) (.con (.int Go.IntKind.i64 1))) (oVal (.tmp 6) (kMove (.tmp 15)) oNil)))
def K92r5 : OpsF := (oVal (.tmp 16) (kMove (.tmp 6)) (oVal (.tmp 17) (kMove (.tmp 0)) (oVal (.tmp 18) (kUn lenSlA (.tmp 17)) (oVal (.tmp 19) (kInt aLss (.tmp 16) (.tmp 18)) oNil))))
def K92r6 : OpsF := (oVal (.tmp 22) (kMove (.tmp 0)) (oVal (.tmp 23) (kMove (.tmp 6)) (oVal (.tmp 24) (kTwo (ixsA 3) (.tmp 22) (.tmp 23)) (oVal (.tmp 25) (kLoad (some 3) (.tmp 24)) (oVal (.tmp 7) (kAlloc [(.int Go.IntKind.i64 0), (.int Go.IntKind.i64 0), (.int Go.IntKind.i64 0)] (tag 99)) (oVal .none (kStore 3 (.tmp 7) (.tmp 25)) oNil))))))
def K92r7 : OpsF := (oVal (.tmp 26) (kMove (.tmp 1)) (oVal (.tmp 27) (kLoad (some 3) (.tmp 7)) (oCall (.tmp 28) (.tmp 26) [(.tmp 27)] (oVal (.tmp 29) (kUn notA (.tmp 28)) oNil))))
def K92r8 : OpsF := (oVal (.tmp 30) (kMove (.tmp 0)) (oVal (.tmp 31) (kMove (.tmp 5)) (oVal (.tmp 32) (kLoad (some 3) (.tmp 7)) (oVal (.tmp 33) (kTwo (ixsA 3) (.tmp 30) (.tmp 31)) (oVal .none (kStore 3 (.tmp 33) (.tmp 32)) oNil)))))
def K92r9 : OpsF := (oVal (.tmp 34) (kMove (.tmp 5)) (oVal (.tmp 35) (kInt aAdd (.tmp 34) (.con (.int Go.IntKind.i64 1))) (oVal (.tmp 5) (kMove (.tmp 35)) oNil)))
def K92r10 : OpsF := (oVal (.tmp 20) (kMove (.tmp 6)) (oVal (.tmp 21) (kInt aAdd (.tmp 20) (.con (.int Go.IntKind.i64 1))) (oVal (.tmp 6) (kMove (.tmp 21)) oNil)))
def K92l0 : K := (kSeq (kSeq (kRegion K92r5 [19]) (kCond (.tmp 19) kSkip (kExit 0))) (kSeq (kBlock 1 (kSeq (kRegion K92r6 [7]) (kSeq (kRegion K92r7 [29]) (kCond (.tmp 29) (kSeq (kRegion K92r8 []) (kRegion K92r9 [5])) kSkip)))) (kRegion K92r10 [6])))
def K92r11 : OpsF := (oVal (.tmp 36) (kMove (.tmp 0)) (oVal (.tmp 37) (kMove (.tmp 5)) (oVal (.tmp 38) (kSlice (sliceVal 3) (.tmp 36) (some (.tmp 37)) none) (oVal .none (kUn (clearA [(.int Go.IntKind.i64 0), (.int Go.IntKind.i64 0), (.int Go.IntKind.i64 0)]) (.tmp 38)) oNil))))
def K92r12 : OpsF := (oVal (.tmp 39) (kMove (.tmp 0)) (oVal (.tmp 40) (kMove (.tmp 5)) (oVal (.tmp 41) (kSlice (sliceVal 3) (.tmp 39) none (some (.tmp 40))) (oVal (.tmp 4) (kMove (.tmp 41)) oNil))))
theorem res92 : Try.f92.results.toList = [.tmp 4] := by kernel_rfl
def K92 : K := (kSeq (kRegion K92r0 [4]) (kSeq (kRegion K92r1 [5]) (kSeq (kSeq (kRegion K92r2 [12]) (kCond (.tmp 12) (kSeq (kRegion K92r3 [4]) kRet) kSkip)) (kSeq (kSeq (kRegion K92r4 [6]) (kBlock 0 (kLoop K92l0))) (kSeq (kRegion K92r11 []) (kSeq (kRegion K92r12 [4]) kRet))))))
theorem code92 : codeK Try.prog (X 92) Try.f92.ntmps (Try.f92.body.getD .skip) = some K92 := by kernel_rfl
theorem body92 : Try.f92.body = some (Try.f92.body.getD .skip) := by kernel_rfl
theorem name92 : (Try.f92.name == "runtime.NumGoroutine") = false := by kernel_rfl
theorem enter92 (cl : CallF) (a0 a1 : AV) (s : St) : enterA Try.prog X cl 92 [a0, a1] s Try.f92 = finA Try.prog Try.f92 (K92 cl ⟨92, none, Try.f92.ntmps, X 92⟩ (paramsEnv 0 [a0, a1] .nil) [] s) :=
  enterA_eq body92 name92 (by kernel_rfl) (by kernel_rfl) code92
def K93r0 : OpsF := (oVal (.tmp 2) (kMove (.con .nilslice)) oNil)
def K93r1 : OpsF := (oVal (.tmp 3) (kMove (.tmp 0)) (oVal (.tmp 4) (kEql .nilS false (.tmp 3) (.con .nilslice)) oNil))
def K93r2 : OpsF := (oVal (.tmp 2) (kMove (.con .nilslice)) oNil)
def K93r3 : OpsF := (oVal (.tmp 5) (kBuildSlice [] 0 []) (oVal (.tmp 6) (kMove (.tmp 0)) (oVal (.tmp 7) (kTwo (appendA false 3 24 (tag 99)) (.tmp 5) (.tmp 6)) (oVal (.tmp 2) (kMove (.tmp 7)) oNil))))
theorem res93 : Try.f93.results.toList = [.tmp 2] := by kernel_rfl
def K93 : K := (kSeq (kRegion K93r0 [2]) (kSeq (kSeq (kRegion K93r1 [4]) (kCond (.tmp 4) (kSeq (kRegion K93r2 [2]) kRet) kSkip)) (kSeq (kRegion K93r3 [2]) kRet)))
theorem code93 : codeK Try.prog (X 93) Try.f93.ntmps (Try.f93.body.getD .skip) = some K93 := by kernel_rfl
theorem body93 : Try.f93.body = some (Try.f93.body.getD .skip) := by kernel_rfl
theorem name93 : (Try.f93.name == "runtime.NumGoroutine") = false := by kernel_rfl
theorem enter93 (cl : CallF) (a0 : AV) (s : St) : enterA Try.prog X cl 93 [a0] s Try.f93 = finA Try.prog Try.f93 (K93 cl ⟨93, none, Try.f93.ntmps, X 93⟩ (paramsEnv 0 [a0] .nil) [] s) :=
  enterA_eq body93 name93 (by kernel_rfl) (by kernel_rfl) code93
def K94r0 : OpsF := (oEnd [] (oVal (.tmp 4) (kLoad none (.tmp 1)) (oVal (.tmp 5) (kUn nilA (.tmp 4)) (oVal (.tmp 6) (kUn (fadA 9) (.tmp 5)) (oVal (.tmp 7) (kLoad none (.tmp 6)) (oVal (.tmp 8) (kLoad none (.tmp 2)) (oVal (.tmp 9) (kInt aLss (.tmp 7) (.tmp 8)) oNil)))))))
def K94r1 : OpsF := (oVal (.tmp 10) (kLoad none (.tmp 1)) (oCall (.tmp 11) (.con (.func 95 [] [])) [(.tmp 10)] oNil))
def K94r2 : OpsF := (oEnd [] (oVal (.tmp 12) (kMove (.tmp 0)) (oVal (.tmp 13) (kLoad none (.tmp 1)) (oVal (.tmp 14) (kUn nilA (.tmp 13)) (oVal (.tmp 15) (kUn (fadA 9) (.tmp 14)) (oVal (.tmp 16) (kLoad none (.tmp 15)) (oVal (.tmp 17) (kLoad none (.tmp 1)) (oVal (.tmp 18) (kUn nilA (.tmp 17)) (oVal (.tmp 19) (kUn (fadA 10) (.tmp 18)) (oVal (.tmp 20) (kLoad (some 2) (.tmp 19)) (oCall (.tmp 21) (.tmp 12) [(.tmp 16), (.tmp 20)] (oVal (.tmp 22) (kUn notA (.tmp 21)) oNil))))))))))))
def K94r3 : OpsF := (oVal (.tmp 23) (kLoad none (.tmp 1)) (oCall (.tmp 24) (.con (.func 96 [] [])) [(.tmp 23)] oNil))
def K94r4 : OpsF := (oVal (.tmp 25) (kLoad none (.tmp 1)) (oVal (.tmp 26) (kUn nilA (.tmp 25)) (oVal (.tmp 27) (kUn (fadA 9) (.tmp 26)) (oVal (.tmp 28) (kLoad none (.tmp 27)) (oVal (.tmp 29) (kInt aAdd (.tmp 28) (.con (.int Go.IntKind.i64 1))) (oVal (.tmp 30) (kUn nilA (.tmp 25)) (oVal (.tmp 31) (kUn (fadA 9) (.tmp 30)) (oVal .none (kStore 1 (.tmp 31) (.tmp 29)) oNil))))))))
def K94l0 : K := (kSeq (kSeq (kRegionD K94r0 [9]) (kCond (.tmp 9) kSkip (kExit 0))) (kBlock 1 (kSeq (kRegion K94r1 []) (kSeq (kSeq (kRegionD K94r2 [22]) (kCond (.tmp 22) kRet kSkip)) (kSeq (kRegion K94r3 []) (kRegion K94r4 []))))))
theorem res94 : Try.f94.results.toList = [] := by kernel_rfl
def K94 : K := (kBlock 0 (kLoop K94l0))
theorem code94 : codeK Try.prog (X 94) Try.f94.ntmps (Try.f94.body.getD .skip) = some K94 := by kernel_rfl
theorem body94 : Try.f94.body = some (Try.f94.body.getD .skip) := by kernel_rfl
theorem name94 : (Try.f94.name == "runtime.NumGoroutine") = false := by kernel_rfl
theorem enter94 (cl : CallF) (a0 a1 a2 : AV) (s : St) : enterA Try.prog X cl 94 [a0, a1, a2] s Try.f94 = finA Try.prog Try.f94 (K94 cl ⟨94, none, Try.f94.ntmps, X 94⟩ (paramsEnv 0 [a0, a1, a2] .nil) [] s) :=
  enterA_eq body94 name94 (by kernel_rfl) (by kernel_rfl) code94
def K95r0s19 : OpsF := (oVal (.tmp 21) (kPick (.tmp 8) (.tmp 20) (.con (.bool false))) oNil)
def K95r0s18 : OpsF := (oIf 8 true (oVal (.tmp 20) (kInt aEql (.tmp 15) (.tmp 19)) K95r0s19) (oSkip (.tmp 20) K95r0s19))
def K95r0s17 : OpsF := (oIf 8 true (oVal (.tmp 19) (kLoad none (.tmp 18)) K95r0s18) (oSkip (.tmp 19) K95r0s18))
def K95r0s16 : OpsF := (oIf 8 true (oVal (.tmp 18) (kUn (fadA 9) (.tmp 17)) K95r0s17) (oSkip (.tmp 18) K95r0s17))
def K95r0s15 : OpsF := (oIf 8 true (oVal (.tmp 17) (kUn nilA (.tmp 16)) K95r0s16) (oSkip (.tmp 17) K95r0s16))
def K95r0s14 : OpsF := (oIf 8 true (oVal (.tmp 16) (kMove (.tmp 0)) K95r0s15) (oSkip (.tmp 16) K95r0s15))
def K95r0s13 : OpsF := (oIf 8 true (oVal (.tmp 15) (kLoad none (.tmp 14)) K95r0s14) (oSkip (.tmp 15) K95r0s14))
def K95r0s12 : OpsF := (oIf 8 true (oVal (.tmp 14) (kUn (fadA 1) (.tmp 13)) K95r0s13) (oSkip (.tmp 14) K95r0s13))
def K95r0s11 : OpsF := (oIf 8 true (oVal (.tmp 13) (kTwo (ixsA 3) (.tmp 12) (.con (.int Go.IntKind.i64 0))) K95r0s12) (oSkip (.tmp 13) K95r0s12))
def K95r0s10 : OpsF := (oIf 8 true (oVal (.tmp 12) (kLoad none (.tmp 11)) K95r0s11) (oSkip (.tmp 12) K95r0s11))
def K95r0s9 : OpsF := (oIf 8 true (oVal (.tmp 11) (kUn (fadA 12) (.tmp 10)) K95r0s10) (oSkip (.tmp 11) K95r0s10))
def K95r0s8 : OpsF := (oIf 8 true (oVal (.tmp 10) (kUn nilA (.tmp 9)) K95r0s9) (oSkip (.tmp 10) K95r0s9))
def K95r0 : OpsF := (oEnd [] (oVal (.tmp 2) (kMove (.tmp 0)) (oVal (.tmp 3) (kUn nilA (.tmp 2)) (oVal (.tmp 4) (kUn (fadA 12) (.tmp 3)) (oVal (.tmp 5) (kLoad none (.tmp 4)) (oVal (.tmp 6) (kUn lenSlA (.tmp 5)) (oVal (.tmp 7) (kGtr (.tmp 6) (.con (.int Go.IntKind.i64 0))) (oVal (.tmp 8) (kMove (.tmp 7)) (oIf 8 true (oVal (.tmp 9) (kMove (.tmp 0)) K95r0s8) (oSkip (.tmp 9) K95r0s8))))))))))
def K95r1 : OpsF := (oVal (.tmp 22) (kMove (.tmp 0)) (oVal (.tmp 23) (kMove (.tmp 0)) (oVal (.tmp 24) (kUn nilA (.tmp 23)) (oVal (.tmp 25) (kUn (fadA 12) (.tmp 24)) (oVal (.tmp 26) (kLoad none (.tmp 25)) (oVal (.tmp 27) (kTwo (ixsA 3) (.tmp 26) (.con (.int Go.IntKind.i64 0))) (oVal (.tmp 28) (kUn (fadA 2) (.tmp 27)) (oVal (.tmp 29) (kLoad none (.tmp 28)) (oCall (.tmp 30) (.con (.func 106 [] [])) [(.tmp 22), (.tmp 29)] oNil)))))))))
def K95r2 : OpsF := (oVal (.tmp 31) (kMove (.tmp 0)) (oVal (.tmp 32) (kMove (.tmp 0)) (oVal (.tmp 33) (kUn nilA (.tmp 32)) (oVal (.tmp 34) (kUn (fadA 12) (.tmp 33)) (oVal (.tmp 35) (kLoad none (.tmp 34)) (oVal (.tmp 36) (kSlice (sliceVal 3) (.tmp 35) (some (.con (.int Go.IntKind.i64 1))) none) (oVal (.tmp 37) (kUn nilA (.tmp 31)) (oVal (.tmp 38) (kUn (fadA 12) (.tmp 37)) (oVal .none (kStore 1 (.tmp 38) (.tmp 36)) oNil)))))))))
def K95l0 : K := (kSeq (kSeq (kRegionD K95r0 [21]) (kCond (.tmp 21) kSkip (kExit 0))) (kBlock 1 (kSeq (kRegion K95r1 []) (kRegion K95r2 []))))
theorem res95 : Try.f95.results.toList = [] := by kernel_rfl
def K95 : K := (kBlock 0 (kLoop K95l0))
theorem code95 : codeK Try.prog (X 95) Try.f95.ntmps (Try.f95.body.getD .skip) = some K95 := by kernel_rfl
theorem body95 : Try.f95.body = some (Try.f95.body.getD .skip) := by kernel_rfl
theorem name95 : (Try.f95.name == "runtime.NumGoroutine") = false := by kernel_rfl
theorem enter95 (cl : CallF) (a0 : AV) (s : St) : enterA Try.prog X cl 95 [a0] s Try.f95 = finA Try.prog Try.f95 (K95 cl ⟨95, none, Try.f95.ntmps, X 95⟩ (paramsEnv 0 [a0] .nil) [] s) :=
  enterA_eq body95 name95 (by kernel_rfl) (by kernel_rfl) code95
def K96r0 : OpsF := (oEnd [] (oVal (.tmp 2) (kMove (.tmp 0)) (oVal (.tmp 3) (kMove (.tmp 0)) (oVal (.tmp 4) (kUn nilA (.tmp 3)) (oVal (.tmp 5) (kUn (fadA 10) (.tmp 4)) (oVal (.tmp 6) (kTwo (ixaA 2 1) (.tmp 5) (.con (.int Go.IntKind.i64 0))) (oVal (.tmp 7) (kLoad none (.tmp 6)) (oVal (.tmp 8) (kMove (.tmp 0)) (oVal (.tmp 9) (kUn nilA (.tmp 8)) (oVal (.tmp 10) (kUn (fadA 0) (.tmp 9)) (oVal (.tmp 11) (kUn (fadA 3) (.tmp 10)) (oVal (.tmp 12) (kUn (fadA 1) (.tmp 11)) (oVal (.tmp 13) (kLoad none (.tmp 12)) (oVal (.tmp 14) (kInt aSub (.tmp 7) (.tmp 13)) (oVal (.tmp 15) (kFold maxA (.con (.int Go.IntKind.i64 0)) [(.tmp 14)]) (oVal (.tmp 16) (kUn nilA (.tmp 2)) (oVal (.tmp 17) (kUn (fadA 10) (.tmp 16)) (oVal (.tmp 18) (kTwo (ixaA 2 1) (.tmp 17) (.con (.int Go.IntKind.i64 0))) (oVal .none (kStore 1 (.tmp 18) (.tmp 15)) oNil)))))))))))))))))))
def K96r1 : OpsF := (oEnd [] (oVal (.tmp 19) (kMove (.tmp 0)) (oVal (.tmp 20) (kMove (.tmp 0)) (oVal (.tmp 21) (kUn nilA (.tmp 20)) (oVal (.tmp 22) (kUn (fadA 10) (.tmp 21)) (oVal (.tmp 23) (kTwo (ixaA 2 1) (.tmp 22) (.con (.int Go.IntKind.i64 1))) (oVal (.tmp 24) (kLoad none (.tmp 23)) (oVal (.tmp 25) (kMove (.tmp 0)) (oVal (.tmp 26) (kUn nilA (.tmp 25)) (oVal (.tmp 27) (kUn (fadA 0) (.tmp 26)) (oVal (.tmp 28) (kUn (fadA 3) (.tmp 27)) (oVal (.tmp 29) (kUn (fadA 0) (.tmp 28)) (oVal (.tmp 30) (kLoad none (.tmp 29)) (oVal (.tmp 31) (kInt aSub (.tmp 24) (.tmp 30)) (oVal (.tmp 32) (kFold maxA (.con (.int Go.IntKind.i64 0)) [(.tmp 31)]) (oVal (.tmp 33) (kUn nilA (.tmp 19)) (oVal (.tmp 34) (kUn (fadA 10) (.tmp 33)) (oVal (.tmp 35) (kTwo (ixaA 2 1) (.tmp 34) (.con (.int Go.IntKind.i64 1))) (oVal .none (kStore 1 (.tmp 35) (.tmp 32)) oNil)))))))))))))))))))
theorem res96 : Try.f96.results.toList = [] := by kernel_rfl
def K96 : K := (kSeq (kRegionD K96r0 []) (kRegionD K96r1 []))
theorem code96 : codeK Try.prog (X 96) Try.f96.ntmps (Try.f96.body.getD .skip) = some K96 := by kernel_rfl
theorem body96 : Try.f96.body = some (Try.f96.body.getD .skip) := by kernel_rfl
theorem name96 : (Try.f96.name == "runtime.NumGoroutine") = false := by kernel_rfl
theorem enter96 (cl : CallF) (a0 : AV) (s : St) : enterA Try.prog X cl 96 [a0] s Try.f96 = finA Try.prog Try.f96 (K96 cl ⟨96, none, Try.f96.ntmps, X 96⟩ (paramsEnv 0 [a0] .nil) [] s) :=
  enterA_eq body96 name96 (by kernel_rfl) (by kernel_rfl) code96
def K105r0 : OpsF := (oVal (.tmp 4) (kMove (.con (.int Go.IntKind.i64 0))) oNil)
def K105r1 : OpsF := (oVal (.tmp 6) (kMove (.tmp 0)) (oVal (.tmp 7) (kUn lenSlA (.tmp 6)) (oVal (.tmp 8) (kMove (.con (.int Go.IntKind.i64 0))) oNil)))
def K105r2 : OpsF := (oVal (.tmp 9) (kInt aLss (.tmp 8) (.tmp 7)) oNil)
def K105r3 : OpsF := (oVal (.tmp 10) (kMove (.tmp 8)) (oVal (.tmp 5) (kMove (.tmp 10)) oNil))
def K105r4 : OpsF := (oVal (.tmp 11) (kMove (.tmp 1)) (oVal (.tmp 12) (kMove (.tmp 0)) (oVal (.tmp 13) (kMove (.tmp 5)) (oVal (.tmp 14) (kTwo (ixsA 3) (.tmp 12) (.tmp 13)) (oVal (.tmp 15) (kLoad (some 3) (.tmp 14)) (oCall (.tmp 16) (.tmp 11) [(.tmp 15)] oNil))))))
def K105r5 : OpsF := (oVal (.tmp 17) (kMove (.tmp 5)) (oVal (.tmp 4) (kMove (.tmp 17)) oNil))
def K105r6 : OpsF := (oVal (.tmp 18) (kInt aAdd (.tmp 8) (.con (.int Go.IntKind.i64 1))) (oVal (.tmp 8) (kMove (.tmp 18)) oNil))
def K105l0 : K := (kSeq (kRegion K105r2 [9]) (kSeq (kCond (.tmp 9) kSkip (kExit 0)) (kSeq (kBlock 1 (kSeq (kRegion K105r3 [5]) (kSeq (kRegion K105r4 [16]) (kCond (.tmp 16) (kSeq (kRegion K105r5 [4]) kRet) kSkip)))) (kRegion K105r6 [8]))))
def K105r7 : OpsF := (oVal (.tmp 4) (kMove (.con (.int Go.IntKind.i64 (-1)))) oNil)
theorem res105 : Try.f105.results.toList = [.tmp 4] := by kernel_rfl
def K105 : K := (kSeq (kRegion K105r0 [4]) (kSeq (kSeq (kRegion K105r1 [7, 8]) (kBlock 0 (kLoop K105l0))) (kSeq (kRegion K105r7 [4]) kRet)))
theorem code105 : codeK Try.prog (X 105) Try.f105.ntmps (Try.f105.body.getD .skip) = some K105 := by kernel_rfl
theorem body105 : Try.f105.body = some (Try.f105.body.getD .skip) := by kernel_rfl
theorem name105 : (Try.f105.name == "runtime.NumGoroutine") = false := by kernel_rfl
theorem enter105 (cl : CallF) (a0 a1 : AV) (s : St) : enterA Try.prog X cl 105 [a0, a1] s Try.f105 = finA Try.prog Try.f105 (K105 cl ⟨105, none, Try.f105.ntmps, X 105⟩ (paramsEnv 0 [a0, a1] .nil) [] s) :=
  enterA_eq body105 name105 (by kernel_rfl) (by kernel_rfl) code105
def K106r0 : OpsF := (oVal (.tmp 5) (kMove (.con (.int Go.IntKind.i64 0))) oNil)
def K106r1 : OpsF := (oVal (.tmp 6) (kInt aLss (.tmp 5) (.con (.int Go.IntKind.i64 2))) oNil)
def K106r2 : OpsF := (oVal (.tmp 7) (kMove (.tmp 5)) (oVal (.tmp 4) (kMove (.tmp 7)) oNil))
def K106r3 : OpsF := (oEnd [] (oVal (.tmp 8) (kMove (.tmp 0)) (oVal (.tmp 9) (kMove (.tmp 4)) (oVal (.tmp 10) (kMove (.tmp 0)) (oVal (.tmp 11) (kMove (.tmp 4)) (oVal (.tmp 12) (kUn nilA (.tmp 10)) (oVal (.tmp 13) (kUn (fadA 10) (.tmp 12)) (oVal (.tmp 14) (kTwo (ixaA 2 1) (.tmp 13) (.tmp 11)) (oVal (.tmp 15) (kLoad none (.tmp 14)) (oVal (.tmp 16) (kMove (.tmp 1)) (oVal (.tmp 17) (kInt aAdd (.tmp 15) (.tmp 16)) (oVal (.tmp 18) (kMove (.tmp 0)) (oVal (.tmp 19) (kUn nilA (.tmp 18)) (oVal (.tmp 20) (kUn (fadA 0) (.tmp 19)) (oVal (.tmp 21) (kUn (fadA 0) (.tmp 20)) (oVal (.tmp 22) (kLoad none (.tmp 21)) (oVal (.tmp 23) (kFold minA (.tmp 17) [(.tmp 22)]) (oVal (.tmp 24) (kUn nilA (.tmp 8)) (oVal (.tmp 25) (kUn (fadA 10) (.tmp 24)) (oVal (.tmp 26) (kTwo (ixaA 2 1) (.tmp 25) (.tmp 9)) (oVal .none (kStore 1 (.tmp 26) (.tmp 23)) oNil)))))))))))))))))))))
def K106r4 : OpsF := (oVal (.tmp 27) (kInt aAdd (.tmp 5) (.con (.int Go.IntKind.i64 1))) (oVal (.tmp 5) (kMove (.tmp 27)) oNil))
def K106l0 : K := (kSeq (kRegion K106r1 [6]) (kSeq (kCond (.tmp 6) kSkip (kExit 0)) (kSeq (kBlock 1 (kSeq (kRegion K106r2 [4]) (kRegionD K106r3 []))) (kRegion K106r4 [5]))))
theorem res106 : Try.f106.results.toList = [] := by kernel_rfl
def K106 : K := (kSeq (kRegion K106r0 [5]) (kBlock 0 (kLoop K106l0)))
theorem code106 : codeK Try.prog (X 106) Try.f106.ntmps (Try.f106.body.getD .skip) = some K106 := by kernel_rfl
theorem body106 : Try.f106.body = some (Try.f106.body.getD .skip) := by kernel_rfl
theorem name106 : (Try.f106.name == "runtime.NumGoroutine") = false := by kernel_rfl
theorem enter106 (cl : CallF) (a0 a1 : AV) (s : St) : enterA Try.prog X cl 106 [a0, a1] s Try.f106 = finA Try.prog Try.f106 (K106 cl ⟨106, none, Try.f106.ntmps, X 106⟩ (paramsEnv 0 [a0, a1] .nil) [] s) :=
  enterA_eq body106 name106 (by kernel_rfl) (by kernel_rfl) code106
end
end Go.Proofs.Ytaddkbhpocbimaa.code
set_option maxRecDepth 100000
namespace Go.Proofs.Ytaddkbhpocbimaa.code
open Go.Abs
noncomputable section
def K51r0 : OpsF := (oVal (.tmp 1) (kBox (tag 31) (.tmp 0)) (oVal (.tmp 2) (kAlloc [(.int Go.IntKind.i64 0), (.int Go.IntKind.i64 0), .nilslice, .nilslice, .nilslice, .nilslice] (tag 111)) oNil))
def K51r1 : OpsF := (oVal (.tmp 6) (kLoad (some 5) (.tmp 1)) (oVal (.tmp 7) (kBuild [(.int Go.IntKind.i64 0), (.int Go.IntKind.i64 0), .nilslice, .nilslice, .nilslice, .nilslice] [(0, 5, (.tmp 6))]) (oVal (.tmp 3) (kAlloc [(.int Go.IntKind.i64 0), (.int Go.IntKind.i64 0), .nilslice, .nilslice, .nilslice, .nilslice] (tag 111)) (oVal .none (kStore 6 (.tmp 3) (.tmp 7)) oNil))))
def K51r2 : OpsF := (oVal (.tmp 8) (kUn (fadA 2) (.tmp 1)) (oVal (.tmp 9) (kLoad none (.tmp 8)) (oVal (.tmp 10) (kUn lenSlA (.tmp 9)) (oVal (.tmp 11) (kMove (.con (.int Go.IntKind.i64 0))) oNil))))
def K51r3 : OpsF := (oVal (.tmp 12) (kInt aLss (.tmp 11) (.tmp 10)) oNil)
def K51r4 : OpsF := (oVal (.tmp 13) (kMove (.tmp 11)) (oVal (.tmp 4) (kMove (.tmp 13)) oNil))
def K51r5 : OpsF := (oVal (.tmp 14) (kLoad (some 5) (.tmp 1)) (oVal (.tmp 15) (kMove (.tmp 4)) (oCall (.tmp 16) (.con (.func 59 [] [])) [(.tmp 14), (.tmp 15)] (oVal (.tmp 5) (kAlloc [(.int Go.IntKind.i64 0), (.int Go.IntKind.i64 0), (.int Go.IntKind.i64 0), (.int Go.IntKind.i64 0), (.int Go.IntKind.i64 0), (.int Go.IntKind.i64 0), (.int Go.IntKind.i64 0), (.int Go.IntKind.i64 0), (.int Go.IntKind.i64 0), (.int Go.IntKind.i64 0), (.int Go.IntKind.i64 0), (.int Go.IntKind.i64 0), .nilslice] (tag 122)) (oVal .none (kStore 13 (.tmp 5) (.tmp 16)) oNil)))))
def K51r6 : OpsF := (oEnd [] (oVal (.tmp 17) (kUn (fadA 5) (.tmp 3)) (oVal (.tmp 18) (kLoad none (.tmp 17)) (oCallT (some [17]) (.tmp 19) (.con (.func 60 [] [])) [(.tmp 5), (.con (.int Go.IntKind.i64 240))] (oVal (.tmp 20) (kFunc 80 [(.tmp 5)] []) (oCallT (some [17]) (.tmp 21) (.con (.func 79 [] [])) [(.tmp 19), (.tmp 20)] (oVal (.tmp 22) (kBuildSlice [.nilslice] 1 [(0, 1, (.tmp 21))]) (oVal (.tmp 23) (kTwo (appendA false 1 24 (tag 150)) (.tmp 18) (.tmp 22)) (oVal (.tmp 24) (kUn (fadA 5) (.tmp 3)) (oVal .none (kStore 1 (.tmp 24) (.tmp 23)) oNil))))))))))
def K51r7 : OpsF := (oVal (.tmp 25) (kInt aAdd (.tmp 11) (.con (.int Go.IntKind.i64 1))) (oVal (.tmp 11) (kMove (.tmp 25)) oNil))
def K51l0 : K := (kSeq (kRegion K51r3 [12]) (kSeq (kCond (.tmp 12) kSkip (kExit 0)) (kSeq (kBlock 1 (kSeq (kRegion K51r4 [4]) (kSeq (kRegion K51r5 [5]) (kRegionD K51r6 [])))) (kRegion K51r7 [11]))))
def K51r8 : OpsF := (oVal (.tmp 26) (kLoad (some 6) (.tmp 3)) (oVal .none (kStore 6 (.tmp 2) (.tmp 26)) oNil))
theorem res51 : Try.f51.results.toList = [.cell 2 111] := by kernel_rfl
def K51 : K := (kSeq (kRegion K51r0 [1, 2]) (kSeq (kRegion K51r1 [3]) (kSeq (kSeq (kRegion K51r2 [10, 11]) (kBlock 0 (kLoop K51l0))) (kSeq (kRegion K51r8 []) kRet))))
theorem code51 : codeK Try.prog (X 51) Try.f51.ntmps (Try.f51.body.getD .skip) = some K51 := by kernel_rfl
theorem body51 : Try.f51.body = some (Try.f51.body.getD .skip) := by kernel_rfl
theorem name51 : (Try.f51.name == "runtime.NumGoroutine") = false := by kernel_rfl
theorem enter51 (cl : CallF) (a0 : AV) (s : St) : enterA Try.prog X cl 51 [a0] s Try.f51 = finA Try.prog Try.f51 (K51 cl ⟨51, none, Try.f51.ntmps, X 51⟩ (paramsEnv 0 [a0] .nil) [] s) :=
  enterA_eq body51 name51 (by kernel_rfl) (by kernel_rfl) code51
def K52r0 : OpsF := (oVal (.tmp 3) (kBox (tag 111) (.tmp 0)) (oVal (.tmp 4) (kBox (tag 35) (.tmp 1)) (oVal (.tmp 6) (kAlloc [(.int Go.IntKind.i64 0), (.int Go.IntKind.i64 0)] (tag 26)) oNil)))
def K52r1 : OpsF := (oEnd [] (oVal (.tmp 7) (kLoad (some 6) (.tmp 3)) (oVal (.tmp 8) (kLoad (some 3) (.tmp 4)) (oVal (.tmp 9) (kMove (.tmp 2)) (oCallT (some [3]) (.tmp 10) (.con (.func 82 [] [])) [(.tmp 7), (.tmp 8), (.tmp 9)] (oVal (.tmp 11) (kLoad (some 6) (.tmp 3)) (oVal (.tmp 12) (kFunc 83 [(.tmp 11)] []) (oCall (.tmp 13) (.con (.func 81 [] [])) [(.tmp 10), (.tmp 12)] (oVal .none (kStore 2 (.tmp 6) (.tmp 13)) oNil)))))))))
theorem res52 : Try.f52.results.toList = [.cell 6 26] := by kernel_rfl
def K52 : K := (kSeq (kRegion K52r0 [3, 4, 6]) (kSeq (kRegionD K52r1 []) kRet))
theorem code52 : codeK Try.prog (X 52) Try.f52.ntmps (Try.f52.body.getD .skip) = some K52 := by kernel_rfl
theorem body52 : Try.f52.body = some (Try.f52.body.getD .skip) := by kernel_rfl
theorem name52 : (Try.f52.name == "runtime.NumGoroutine") = false := by kernel_rfl
theorem enter52 (cl : CallF) (a0 a1 a2 : AV) (s : St) : enterA Try.prog X cl 52 [a0, a1, a2] s Try.f52 = finA Try.prog Try.f52 (K52 cl ⟨52, none, Try.f52.ntmps, X 52⟩ (paramsEnv 0 [a0, a1, a2] .nil) [] s) :=
  enterA_eq body52 name52 (by kernel_rfl) (by kernel_rfl) code52
def K16r0 : OpsF := (oVal (.tmp 3) (kBox (tag 31) (.tmp 0)) (oVal (.tmp 4) (kBox (tag 35) (.tmp 1)) (oVal (.tmp 6) (kAlloc [(.int Go.IntKind.i64 0), (.int Go.IntKind.i64 0)] (tag 26)) (oVal (.tmp 7) (kMove (.con (.int Go.IntKind.i64 0))) oNil))))
def K16r1 : OpsF := (oEnd [] (oVal (.tmp 9) (kLoad (some 5) (.tmp 3)) (oVal (.tmp 10) (kLoad (some 3) (.tmp 4)) (oCallT (some [15]) (.tmp 11) (.con (.func 48 [] [])) [(.tmp 9), (.tmp 10)] (oVal (.tmp 12) (kMove (.tmp 2)) (oCallT (some [15]) (.tmp 13) (.con (.func 49 [] [])) [(.tmp 12), (.con (.int Go.IntKind.i64 0)), (.con (.int Go.IntKind.i64 240))] (oVal (.tmp 14) (kMove (.tmp 2)) (oVal (.tmp 15) (kUn (fadA 0) (.tmp 4)) (oVal (.tmp 16) (kLoad none (.tmp 15)) (oVal (.tmp 17) (kInt aGeq (.tmp 14) (.tmp 16)) (oCall (.tmp 18) (.con (.func 50 [] [])) [(.tmp 17), (.con (.int Go.IntKind.i64 12))] (oVal (.tmp 19) (kBuildSlice [(.int Go.IntKind.i64 0), (.int Go.IntKind.i64 0), (.int Go.IntKind.i64 0)] 3 [(0, 1, (.tmp 11)), (1, 1, (.tmp 13)), (2, 1, (.tmp 18))]) (oCall (.tmp 20) (.con (.func 47 [] [])) [(.tmp 19)] (oVal (.tmp 8) (kMove (.tmp 20)) oNil))))))))))))))
def K16r2 : OpsF := (oVal (.tmp 21) (kMove (.tmp 8)) (oVal (.tmp 22) (kInt aNeq (.tmp 21) (.con (.int Go.IntKind.i64 0))) oNil))
def K16r3 : OpsF := (oVal (.tmp 23) (kBuild [(.int Go.IntKind.i64 0), (.int Go.IntKind.i64 0)] []) (oVal (.tmp 24) (kMove (.tmp 8)) (oVal .none (kStore 2 (.tmp 6) (.tmp 23)) (oVal (.tmp 7) (kMove (.tmp 24)) oNil))))
def K16r4 : OpsF := (oEnd [] (oVal (.tmp 25) (kLoad (some 5) (.tmp 3)) (oCallT (some [4]) (.tmp 26) (.con (.func 51 [] [])) [(.tmp 25)] (oVal (.tmp 27) (kLoad (some 3) (.tmp 4)) (oVal (.tmp 28) (kMove (.tmp 2)) (oCall (.tmp 29) (.con (.func 52 [] [])) [(.tmp 26), (.tmp 27), (.tmp 28)] (oVal .none (kStore 2 (.tmp 6) (.tmp 29)) (oVal (.tmp 7) (kMove (.con (.int Go.IntKind.i64 0))) oNil))))))))
theorem res16 : Try.f16.results.toList = [.cell 6 26, .tmp 7] := by kernel_rfl
def K16 : K := (kSeq (kRegion K16r0 [3, 4, 6, 7]) (kSeq (kRegionD K16r1 [8]) (kSeq (kSeq (kRegion K16r2 [22]) (kCond (.tmp 22) (kSeq (kRegion K16r3 [7]) kRet) kSkip)) (kSeq (kRegionD K16r4 [7]) kRet))))
theorem code16 : codeK Try.prog (X 16) Try.f16.ntmps (Try.f16.body.getD .skip) = some K16 := by kernel_rfl
theorem body16 : Try.f16.body = some (Try.f16.body.getD .skip) := by kernel_rfl
theorem name16 : (Try.f16.name == "runtime.NumGoroutine") = false := by kernel_rfl
theorem enter16 (cl : CallF) (a0 a1 a2 : AV) (s : St) : enterA Try.prog X cl 16 [a0, a1, a2] s Try.f16 = finA Try.prog Try.f16 (K16 cl ⟨16, none, Try.f16.ntmps, X 16⟩ (paramsEnv 0 [a0, a1, a2] .nil) [] s) :=
  enterA_eq body16 name16 (by kernel_rfl) (by kernel_rfl) code16
def K17r0 : OpsF := (oVal (.tmp 3) (kBox (tag 31) (.tmp 0)) (oVal (.tmp 4) (kBox (tag 35) (.tmp 1)) (oVal (.tmp 6) (kMove (.con (.int Go.IntKind.i64 0))) (oVal (.tmp 7) (kMove (.con (.int Go.IntKind.i64 0))) oNil))))
def K17r1 : OpsF := (oVal (.tmp 11) (kLoad (some 5) (.tmp 3)) (oVal (.tmp 12) (kLoad (some 3) (.tmp 4)) (oVal (.tmp 13) (kMove (.tmp 2)) (oCall (.tmp 14) (.con (.func 16 [] [])) [(.tmp 11), (.tmp 12), (.tmp 13)] (oVal (.tmp 10) (kMove (.tmp 14)) (oVal (.tmp 15) (kUn (extA 0) (.tmp 10)) (oVal (.tmp 16) (kUn (extA 1) (.tmp 10)) (oVal (.tmp 8) (kAlloc [(.int Go.IntKind.i64 0), (.int Go.IntKind.i64 0)] (tag 26)) (oVal .none (kStore 2 (.tmp 8) (.tmp 15)) (oVal (.tmp 9) (kMove (.tmp 16)) oNil))))))))))
def K17r2 : OpsF := (oVal (.tmp 17) (kMove (.tmp 9)) (oVal (.tmp 18) (kInt aNeq (.tmp 17) (.con (.int Go.IntKind.i64 0))) oNil))
def K17r3 : OpsF := (oVal (.tmp 19) (kMove (.tmp 9)) (oVal (.tmp 6) (kMove (.con (.int Go.IntKind.i64 0))) (oVal (.tmp 7) (kMove (.tmp 19)) oNil)))
def K17r4 : OpsF := (oVal (.tmp 20) (kUn (fadA 0) (.tmp 8)) (oVal (.tmp 21) (kLoad none (.tmp 20)) (oVal (.tmp 22) (kUn (fadA 1) (.tmp 4)) (oVal (.tmp 23) (kLoad none (.tmp 22)) (oVal (.tmp 24) (kInt aLeq (.tmp 21) (.tmp 23)) (oVal (.tmp 25) (kUn (fadA 1) (.tmp 8)) (oVal (.tmp 26) (kLoad none (.tmp 25)) (oVal (.tmp 27) (kUn (fadA 1) (.tmp 4)) (oVal (.tmp 28) (kLoad none (.tmp 27)) (oVal (.tmp 29) (kInt aLeq (.tmp 26) (.tmp 28)) (oCall (.tmp 30) (.con (.func 53 [] [])) [(.tmp 24), (.tmp 29)] (oVal (.tmp 6) (kMove (.tmp 30)) (oVal (.tmp 7) (kMove (.con (.int Go.IntKind.i64 0))) oNil)))))))))))))
theorem res17 : Try.f17.results.toList = [.tmp 6, .tmp 7] := by kernel_rfl
def K17 : K := (kSeq (kRegion K17r0 [3, 4, 6, 7]) (kSeq (kRegion K17r1 [8, 9]) (kSeq (kSeq (kRegion K17r2 [18]) (kCond (.tmp 18) (kSeq (kRegion K17r3 [6, 7]) kRet) kSkip)) (kSeq (kRegion K17r4 [6, 7]) kRet))))
theorem code17 : codeK Try.prog (X 17) Try.f17.ntmps (Try.f17.body.getD .skip) = some K17 := by kernel_rfl
theorem body17 : Try.f17.body = some (Try.f17.body.getD .skip) := by kernel_rfl
theorem name17 : (Try.f17.name == "runtime.NumGoroutine") = false := by kernel_rfl
theorem enter17 (cl : CallF) (a0 a1 a2 : AV) (s : St) : enterA Try.prog X cl 17 [a0, a1, a2] s Try.f17 = finA Try.prog Try.f17 (K17 cl ⟨17, none, Try.f17.ntmps, X 17⟩ (paramsEnv 0 [a0, a1, a2] .nil) [] s) :=
  enterA_eq body17 name17 (by kernel_rfl) (by kernel_rfl) code17
def K79r0 : OpsF := (oVal (.tmp 3) (kBox (tag 152) (.tmp 1)) (oVal (.tmp 4) (kMove (.con .nilslice)) oNil))
def K79r1 : OpsF := (oVal (.tmp 5) (kAlloc [.nilslice] (tag 150)) oNil)
def K79r2 : OpsF := (oVal (.tmp 8) (kMove (.tmp 0)) oNil)
def K79r3 : OpsF := (oVal (.tmp 17) (kLoad none (.tmp 5)) (oVal (.tmp 4) (kMove (.tmp 17)) oNil))
theorem res79 : Try.f79.results.toList = [.tmp 4] := by kernel_rfl
def K79 : K := (kSeq (kRegion K79r0 [3, 4]) (kSeq (kRegion K79r1 [5]) (kSeq (kSeq (kRegion K79r2 [8]) (kBlock 0 (kRange (.tmp 8) [9, 10] (rangeAt Try.f79 0).1 (rangeAt Try.f79 0).2))) (kSeq (kRegion K79r3 [4]) kRet))))
theorem code79 : codeK Try.prog (X 79) Try.f79.ntmps (Try.f79.body.getD .skip) = some K79 := by kernel_rfl
theorem body79 : Try.f79.body = some (Try.f79.body.getD .skip) := by kernel_rfl
theorem name79 : (Try.f79.name == "runtime.NumGoroutine") = false := by kernel_rfl
theorem enter79 (cl : CallF) (a0 a1 : AV) (s : St) : enterA Try.prog X cl 79 [a0, a1] s Try.f79 = finA Try.prog Try.f79 (K79 cl ⟨79, none, Try.f79.ntmps, X 79⟩ (paramsEnv 0 [a0, a1] .nil) [] s) :=
  enterA_eq body79 name79 (by kernel_rfl) (by kernel_rfl) code79
def K79a0r0 : OpsF := (oVal (.tmp 7) (kAlloc [(.int Go.IntKind.i64 0), (.int Go.IntKind.i64 0)] (tag 120)) (oVal .none (kStore 2 (.tmp 7) (.tmp 10)) oNil))
def K79a0 : K := (kRegion K79a0r0 [7])
theorem code79a0 : codeK Try.prog (X 79) Try.f79.ntmps (rangeAt Try.f79 0).1 = some K79a0 := by kernel_rfl
def K79b0r0 : OpsF := (oEnd [] (oVal (.tmp 11) (kLoad none (.tmp 5)) (oVal (.tmp 12) (kLoad none (.tmp 3)) (oVal (.tmp 13) (kLoad (some 2) (.tmp 7)) (oCallT (some [5]) (.tmp 14) (.tmp 12) [(.tmp 13)] (oVal (.tmp 15) (kBuildSlice [(.int Go.IntKind.i64 0), (.int Go.IntKind.i64 0)] 1 [(0, 2, (.tmp 14))]) (oVal (.tmp 16) (kTwo (appendA false 2 16 (tag 120)) (.tmp 11) (.tmp 15)) (oVal .none (kStore 1 (.tmp 5) (.tmp 16)) oNil))))))))
def K79b0 : K := (kBlock 1 (kRegionD K79b0r0 []))
theorem code79b0 : codeK Try.prog (X 79) Try.f79.ntmps (rangeAt Try.f79 0).2 = some K79b0 := by kernel_rfl
def K80r0 : OpsF := (oVal (.tmp 3) (kBox (tag 120) (.tmp 1)) (oVal (.tmp 4) (kAlloc [(.int Go.IntKind.i64 0), (.int Go.IntKind.i64 0)] (tag 120)) oNil))
def K80r1 : OpsF := (oVal (.tmp 6) (kMove (.tmp 0)) (oVal (.tmp 7) (kUn nilA (.tmp 6)) (oVal (.tmp 8) (kUn (fadA 0) (.tmp 7)) (oVal (.tmp 9) (kUn (fadA 7) (.tmp 8)) (oVal (.tmp 10) (kLoad (some 2) (.tmp 9)) (oCall (.tmp 11) (.con (.func 91 [] [])) [(.tmp 10)] (oVal (.tmp 5) (kAlloc [(.int Go.IntKind.i64 0), (.int Go.IntKind.i64 0)] (tag 120)) (oVal .none (kStore 2 (.tmp 5) (.tmp 11)) oNil))))))))
def K80r2 : OpsF := (oVal (.tmp 12) (kTwo (ixaA 2 1) (.tmp 3) (.con (.int Go.IntKind.i64 1))) (oVal (.tmp 13) (kLoad none (.tmp 12)) (oVal (.tmp 14) (kGtr (.tmp 13) (.con (.int Go.IntKind.i64 0))) oNil)))
def K80r3 : OpsF := (oVal (.tmp 15) (kMove (.tmp 0)) (oVal (.tmp 16) (kUn nilA (.tmp 15)) (oVal (.tmp 17) (kUn (fadA 0) (.tmp 16)) (oVal (.tmp 18) (kUn (fadA 5) (.tmp 17)) (oVal (.tmp 19) (kUn (fadA 0) (.tmp 18)) (oVal (.tmp 20) (kLoad none (.tmp 19)) (oVal (.tmp 21) (kTwo (ixaA 2 1) (.tmp 5) (.con (.int Go.IntKind.i64 0))) (oVal .none (kStore 1 (.tmp 21) (.tmp 20)) oNil))))))))
def K80r4 : OpsF := (oVal (.tmp 22) (kTwo (ixaA 2 1) (.tmp 3) (.con (.int Go.IntKind.i64 0))) (oVal (.tmp 23) (kLoad none (.tmp 22)) (oVal (.tmp 24) (kGtr (.tmp 23) (.con (.int Go.IntKind.i64 0))) oNil)))
def K80r5 : OpsF := (oVal (.tmp 25) (kMove (.tmp 0)) (oVal (.tmp 26) (kUn nilA (.tmp 25)) (oVal (.tmp 27) (kUn (fadA 0) (.tmp 26)) (oVal (.tmp 28) (kUn (fadA 5) (.tmp 27)) (oVal (.tmp 29) (kUn (fadA 1) (.tmp 28)) (oVal (.tmp 30) (kLoad none (.tmp 29)) (oVal (.tmp 31) (kTwo (ixaA 2 1) (.tmp 5) (.con (.int Go.IntKind.i64 1))) (oVal .none (kStore 1 (.tmp 31) (.tmp 30)) oNil))))))))
def K80r6 : OpsF := (oVal (.tmp 32) (kLoad (some 2) (.tmp 5)) (oVal .none (kStore 2 (.tmp 4) (.tmp 32)) oNil))
theorem res80 : Try.f80.results.toList = [.cell 4 120] := by kernel_rfl
def K80 : K := (kSeq (kRegion K80r0 [3, 4]) (kSeq (kRegion K80r1 [5]) (kSeq (kSeq (kRegion K80r2 [14]) (kCond (.tmp 14) (kRegion K80r3 []) kSkip)) (kSeq (kSeq (kRegion K80r4 [24]) (kCond (.tmp 24) (kRegion K80r5 []) kSkip)) (kSeq (kRegion K80r6 []) kRet)))))
theorem code80 : codeK Try.prog (X 80) Try.f80.ntmps (Try.f80.body.getD .skip) = some K80 := by kernel_rfl
theorem body80 : Try.f80.body = some (Try.f80.body.getD .skip) := by kernel_rfl
theorem name80 : (Try.f80.name == "runtime.NumGoroutine") = false := by kernel_rfl
theorem enter80 (cl : CallF) (a0 a1 : AV) (s : St) : enterA Try.prog X cl 80 [a0, a1] s Try.f80 = finA Try.prog Try.f80 (K80 cl ⟨80, none, Try.f80.ntmps, X 80⟩ (paramsEnv 0 [a0, a1] .nil) [] s) :=
  enterA_eq body80 name80 (by kernel_rfl) (by kernel_rfl) code80
def K81r0 : OpsF := (oVal (.tmp 3) (kBox (tag 152) (.tmp 1)) (oVal (.tmp 4) (kAlloc [(.int Go.IntKind.i64 0), (.int Go.IntKind.i64 0)] (tag 26)) oNil))
def K81r1 : OpsF := (oVal (.tmp 5) (kAlloc [(.int Go.IntKind.i64 0), (.int Go.IntKind.i64 0)] (tag 26)) oNil)
def K81r2 : OpsF := (oVal (.tmp 8) (kMove (.tmp 0)) oNil)
def K81r3 : OpsF := (oVal (.tmp 25) (kLoad (some 2) (.tmp 5)) (oVal .none (kStore 2 (.tmp 4) (.tmp 25)) oNil))
theorem res81 : Try.f81.results.toList = [.cell 4 26] := by kernel_rfl
def K81 : K := (kSeq (kRegion K81r0 [3, 4]) (kSeq (kRegion K81r1 [5]) (kSeq (kSeq (kRegion K81r2 [8]) (kBlock 0 (kRange (.tmp 8) [9] (rangeAt Try.f81 0).1 (rangeAt Try.f81 0).2))) (kSeq (kRegion K81r3 []) kRet))))
theorem code81 : codeK Try.prog (X 81) Try.f81.ntmps (Try.f81.body.getD .skip) = some K81 := by kernel_rfl
theorem body81 : Try.f81.body = some (Try.f81.body.getD .skip) := by kernel_rfl
theorem name81 : (Try.f81.name == "runtime.NumGoroutine") = false := by kernel_rfl
theorem enter81 (cl : CallF) (a0 a1 : AV) (s : St) : enterA Try.prog X cl 81 [a0, a1] s Try.f81 = finA Try.prog Try.f81 (K81 cl ⟨81, none, Try.f81.ntmps, X 81⟩ (paramsEnv 0 [a0, a1] .nil) [] s) :=
  enterA_eq body81 name81 (by kernel_rfl) (by kernel_rfl) code81
def K81a0r0 : OpsF := (oVal (.tmp 6) (kAlloc [(.int Go.IntKind.i64 0), (.int Go.IntKind.i64 0)] (tag 120)) (oVal .none (kStore 2 (.tmp 6) (.tmp 9)) oNil))
def K81a0 : K := (kRegion K81a0r0 [6])
theorem code81a0 : codeK Try.prog (X 81) Try.f81.ntmps (rangeAt Try.f81 0).1 = some K81a0 := by kernel_rfl
def K81b0r0 : OpsF := (oVal (.tmp 10) (kLoad none (.tmp 3)) (oVal (.tmp 11) (kLoad (some 2) (.tmp 6)) (oCall (.tmp 12) (.tmp 10) [(.tmp 11)] (oVal (.tmp 7) (kAlloc [(.int Go.IntKind.i64 0), (.int Go.IntKind.i64 0)] (tag 120)) (oVal .none (kStore 2 (.tmp 7) (.tmp 12)) oNil)))))
def K81b0r1 : OpsF := (oVal (.tmp 13) (kUn (fadA 0) (.tmp 5)) (oVal (.tmp 14) (kLoad none (.tmp 13)) (oVal (.tmp 15) (kTwo (ixaA 2 1) (.tmp 7) (.con (.int Go.IntKind.i64 0))) (oVal (.tmp 16) (kLoad none (.tmp 15)) (oVal (.tmp 17) (kInt aAdd (.tmp 14) (.tmp 16)) (oVal (.tmp 18) (kUn (fadA 0) (.tmp 5)) (oVal .none (kStore 1 (.tmp 18) (.tmp 17)) oNil)))))))
def K81b0r2 : OpsF := (oVal (.tmp 19) (kUn (fadA 1) (.tmp 5)) (oVal (.tmp 20) (kLoad none (.tmp 19)) (oVal (.tmp 21) (kTwo (ixaA 2 1) (.tmp 7) (.con (.int Go.IntKind.i64 1))) (oVal (.tmp 22) (kLoad none (.tmp 21)) (oVal (.tmp 23) (kInt aAdd (.tmp 20) (.tmp 22)) (oVal (.tmp 24) (kUn (fadA 1) (.tmp 5)) (oVal .none (kStore 1 (.tmp 24) (.tmp 23)) oNil)))))))
def K81b0 : K := (kBlock 1 (kSeq (kRegion K81b0r0 [7]) (kSeq (kRegion K81b0r1 []) (kRegion K81b0r2 []))))
theorem code81b0 : codeK Try.prog (X 81) Try.f81.ntmps (rangeAt Try.f81 0).2 = some K81b0 := by kernel_rfl
def K82r0 : OpsF := (oVal (.tmp 3) (kBox (tag 111) (.tmp 0)) (oVal (.tmp 4) (kBox (tag 35) (.tmp 1)) (oVal (.tmp 5) (kBox (tag 3) (.tmp 2)) (oVal (.tmp 6) (kMove (.con .nilfunc)) oNil))))
def K82r1 : OpsF := (oVal (.tmp 7) (kFunc 102 [] [(.tmp 4), (.tmp 5), (.tmp 3)]) (oVal (.tmp 6) (kMove (.tmp 7)) oNil))
theorem res82 : Try.f82.results.toList = [.tmp 6] := by kernel_rfl
def K82 : K := (kSeq (kRegion K82r0 [3, 4, 5, 6]) (kSeq (kRegion K82r1 [6]) kRet))
theorem code82 : codeK Try.prog (X 82) Try.f82.ntmps (Try.f82.body.getD .skip) = some K82 := by kernel_rfl
theorem body82 : Try.f82.body = some (Try.f82.body.getD .skip) := by kernel_rfl
theorem name82 : (Try.f82.name == "runtime.NumGoroutine") = false := by kernel_rfl
theorem enter82 (cl : CallF) (a0 a1 a2 : AV) (s : St) : enterA Try.prog X cl 82 [a0, a1, a2] s Try.f82 = finA Try.prog Try.f82 (K82 cl ⟨82, none, Try.f82.ntmps, X 82⟩ (paramsEnv 0 [a0, a1, a2] .nil) [] s) :=
  enterA_eq body82 name82 (by kernel_rfl) (by kernel_rfl) code82
def K102r0 : OpsF := (oVal (.tmp 6) (kUn (fadA 0) (.tmp 1)) (oVal (.tmp 7) (kLoad none (.tmp 6)) (oVal (.tmp 5) (kMove (.tmp 7)) oNil)))
def K102r1 : OpsF := (oVal (.tmp 8) (kMove (.tmp 5)) (oVal (.tmp 9) (kLoad none (.tmp 2)) (oVal (.tmp 10) (kInt aLss (.tmp 8) (.tmp 9)) oNil)))
def K102r2 : OpsF := (oVal (.tmp 13) (kMove (.tmp 0)) (oVal (.tmp 14) (kLoad (some 6) (.tmp 3)) (oVal (.tmp 15) (kLoad (some 3) (.tmp 1)) (oVal (.tmp 16) (kMove (.tmp 5)) (oCall (.tmp 17) (.con (.func 103 [] [])) [(.tmp 14), (.tmp 15), (.tmp 16)] (oCall (.tmp 18) (.tmp 13) [(.tmp 17)] (oVal (.tmp 19) (kUn notA (.tmp 18)) oNil)))))))
def K102r3 : OpsF := (oVal (.tmp 11) (kMove (.tmp 5)) (oVal (.tmp 12) (kInt aAdd (.tmp 11) (.con (.int Go.IntKind.i64 1))) (oVal (.tmp 5) (kMove (.tmp 12)) oNil)))
def K102l0 : K := (kSeq (kSeq (kRegion K102r1 [10]) (kCond (.tmp 10) kSkip (kExit 0))) (kSeq (kBlock 1 (kSeq (kRegion K102r2 [19]) (kCond (.tmp 19) kRet kSkip))) (kRegion K102r3 [5])))
theorem res102 : Try.f102.results.toList = [] := by kernel_rfl
def K102 : K := (kSeq (kRegion K102r0 [5]) (kBlock 0 (kLoop K102l0)))
theorem code102 : codeK Try.prog (X 102) Try.f102.ntmps (Try.f102.body.getD .skip) = some K102 := by kernel_rfl
theorem body102 : Try.f102.body = some (Try.f102.body.getD .skip) := by kernel_rfl
theorem name102 : (Try.f102.name == "runtime.NumGoroutine") = false := by kernel_rfl
theorem enter102 (cl : CallF) (a0 a1 a2 a3 : AV) (s : St) : enterA Try.prog X cl 102 [a0, a1, a2, a3] s Try.f102 = finA Try.prog Try.f102 (K102 cl ⟨102, none, Try.f102.ntmps, X 102⟩ (paramsEnv 0 [a0, a1, a2, a3] .nil) [] s) :=
  enterA_eq body102 name102 (by kernel_rfl) (by kernel_rfl) code102
def K103r0 : OpsF := (oVal (.tmp 3) (kBox (tag 111) (.tmp 0)) (oVal (.tmp 4) (kBox (tag 35) (.tmp 1)) (oVal (.tmp 6) (kAlloc [(.int Go.IntKind.i64 0), (.int Go.IntKind.i64 0)] (tag 120)) oNil)))
def K103r1 : OpsF := (oVal (.tmp 9) (kUn (fadA 2) (.tmp 4)) (oVal (.tmp 10) (kLoad none (.tmp 9)) (oVal (.tmp 11) (kUn lenSlA (.tmp 10)) (oVal (.tmp 12) (kMove (.con (.int Go.IntKind.i64 0))) oNil))))
def K103r2 : OpsF := (oVal (.tmp 13) (kInt aLss (.tmp 12) (.tmp 11)) oNil)
def K103r3 : OpsF := (oVal (.tmp 14) (kTwo (ixsA 3) (.tmp 10) (.tmp 12)) (oVal (.tmp 15) (kLoad (some 3) (.tmp 14)) (oVal (.tmp 8) (kAlloc [(.int Go.IntKind.i64 0), (.int Go.IntKind.i64 0), (.int Go.IntKind.i64 0)] (tag 103)) (oVal .none (kStore 3 (.tmp 8) (.tmp 15)) oNil))))
def K103r4s9 : OpsF := (oVal (.tmp 25) (kPick (.tmp 20) (.tmp 24) (.con (.bool false))) oNil)
def K103r4s8 : OpsF := (oIf 20 true (oVal (.tmp 24) (kInt aLss (.tmp 21) (.tmp 23)) K103r4s9) (oSkip (.tmp 24) K103r4s9))
def K103r4s7 : OpsF := (oIf 20 true (oVal (.tmp 23) (kLoad none (.tmp 22)) K103r4s8) (oSkip (.tmp 23) K103r4s8))
def K103r4s6 : OpsF := (oIf 20 true (oVal (.tmp 22) (kUn (fadA 2) (.tmp 8)) K103r4s7) (oSkip (.tmp 22) K103r4s7))
def K103r4 : OpsF := (oVal (.tmp 16) (kUn (fadA 1) (.tmp 8)) (oVal (.tmp 17) (kLoad none (.tmp 16)) (oVal (.tmp 18) (kMove (.tmp 2)) (oVal (.tmp 19) (kInt aLeq (.tmp 17) (.tmp 18)) (oVal (.tmp 20) (kMove (.tmp 19)) (oIf 20 true (oVal (.tmp 21) (kMove (.tmp 2)) K103r4s6) (oSkip (.tmp 21) K103r4s6)))))))
def K103r5 : OpsF := (oVal (.tmp 26) (kUn (fadA 5) (.tmp 3)) (oVal (.tmp 27) (kLoad none (.tmp 26)) (oVal (.tmp 28) (kUn (fadA 0) (.tmp 8)) (oVal (.tmp 29) (kLoad none (.tmp 28)) (oVal (.tmp 30) (kTwo (ixsA 1) (.tmp 27) (.tmp 29)) (oVal (.tmp 31) (kLoad none (.tmp 30)) (oVal (.tmp 32) (kMove (.tmp 2)) (oVal (.tmp 33) (kTwo (ixsA 2) (.tmp 31) (.tmp 32)) (oVal (.tmp 34) (kLoad (some 2) (.tmp 33)) (oVal .none (kStore 2 (.tmp 6) (.tmp 34)) oNil))))))))))
def K103r6 : OpsF := (oVal (.tmp 35) (kInt aAdd (.tmp 12) (.con (.int Go.IntKind.i64 1))) (oVal (.tmp 12) (kMove (.tmp 35)) oNil))
def K103l0 : K := (kSeq (kRegion K103r2 [13]) (kSeq (kCond (.tmp 13) kSkip (kExit 0)) (kSeq (kBlock 1 (kSeq (kRegion K103r3 [8]) (kSeq (kRegion K103r4 [25]) (kCond (.tmp 25) (kSeq (kRegion K103r5 []) kRet) kSkip)))) (kRegion K103r6 [12]))))
def K103r7 : OpsF := (oVal (.tmp 36) (kUn (fadA 0) (.tmp 3)) (oVal (.tmp 37) (kUn (fadA 0) (.tmp 36)) (oVal (.tmp 38) (kLoad (some 2) (.tmp 37)) (oCall (.tmp 39) (.con (.func 91 [] [])) [(.tmp 38)] (oVal .none (kStore 2 (.tmp 6) (.tmp 39)) oNil)))))
theorem res103 : Try.f103.results.toList = [.cell 6 120] := by kernel_rfl
def K103 : K := (kSeq (kRegion K103r0 [3, 4, 6]) (kSeq (kSeq (kRegion K103r1 [10, 11, 12]) (kBlock 0 (kLoop K103l0))) (kSeq (kRegion K103r7 []) kRet)))
theorem code103 : codeK Try.prog (X 103) Try.f103.ntmps (Try.f103.body.getD .skip) = some K103 := by kernel_rfl
theorem body103 : Try.f103.body = some (Try.f103.body.getD .skip) := by kernel_rfl
theorem name103 : (Try.f103.name == "runtime.NumGoroutine") = false := by kernel_rfl
theorem enter103 (cl : CallF) (a0 a1 a2 : AV) (s : St) : enterA Try.prog X cl 103 [a0, a1, a2] s Try.f103 = finA Try.prog Try.f103 (K103 cl ⟨103, none, Try.f103.ntmps, X 103⟩ (paramsEnv 0 [a0, a1, a2] .nil) [] s) :=
  enterA_eq body103 name103 (by kernel_rfl) (by kernel_rfl) code103
def K83r0 : OpsF := (oVal (.tmp 2) (kBox (tag 111) (.tmp 0)) (oVal (.tmp 3) (kBox (tag 120) (.tmp 1)) (oVal (.tmp 4) (kAlloc [(.int Go.IntKind.i64 0), (.int Go.IntKind.i64 0)] (tag 120)) oNil)))
def K83r1 : OpsF := (oVal (.tmp 5) (kAlloc [(.int Go.IntKind.i64 0), (.int Go.IntKind.i64 0)] (tag 120)) oNil)
def K83r2 : OpsF := (oVal (.tmp 10) (kLoad (some 2) (.tmp 3)) (oVal (.tmp 11) (kMove (.con (.int Go.IntKind.i64 0))) oNil))
def K83r3 : OpsF := (oVal (.tmp 12) (kInt aLss (.tmp 11) (.con (.int Go.IntKind.i64 2))) oNil)
def K83r4 : OpsF := (oVal (.tmp 13) (kMove (.tmp 11)) (oVal (.tmp 14) (kTwo (indA 2 1 none) (.tmp 10) (.tmp 11)) (oVal (.tmp 6) (kMove (.tmp 13)) (oVal (.tmp 7) (kMove (.tmp 14)) oNil))))
def K83r5 : OpsF := (oVal (.tmp 15) (kUn (fadA 0) (.tmp 2)) (oVal (.tmp 16) (kUn (fadA 4) (.tmp 15)) (oVal (.tmp 17) (kLoad none (.tmp 16)) (oVal (.tmp 18) (kUn lenSlA (.tmp 17)) (oVal (.tmp 19) (kMove (.con (.int Go.IntKind.i64 0))) oNil)))))
def K83r6 : OpsF := (oVal (.tmp 20) (kInt aLss (.tmp 19) (.tmp 18)) oNil)
def K83r7 : OpsF := (oVal (.tmp 21) (kTwo (ixsA 2) (.tmp 17) (.tmp 19)) (oVal (.tmp 22) (kLoad (some 2) (.tmp 21)) (oVal (.tmp 9) (kAlloc [(.int Go.IntKind.i64 0), (.int Go.IntKind.i64 0)] (tag 101)) (oVal .none (kStore 2 (.tmp 9) (.tmp 22)) oNil))))
def K83r8 : OpsF := (oVal (.tmp 23) (kUn (fadA 0) (.tmp 9)) (oVal (.tmp 24) (kLoad none (.tmp 23)) (oVal (.tmp 25) (kMove (.tmp 7)) (oVal (.tmp 26) (kGtr (.tmp 24) (.tmp 25)) oNil))))
def K83r9 : OpsF := (oVal (.tmp 27) (kMove (.tmp 6)) (oVal (.tmp 28) (kUn (fadA 1) (.tmp 9)) (oVal (.tmp 29) (kLoad none (.tmp 28)) (oVal (.tmp 30) (kTwo (ixaA 2 1) (.tmp 5) (.tmp 27)) (oVal .none (kStore 1 (.tmp 30) (.tmp 29)) oNil)))))
def K83r10 : OpsF := (oVal (.tmp 31) (kInt aAdd (.tmp 19) (.con (.int Go.IntKind.i64 1))) (oVal (.tmp 19) (kMove (.tmp 31)) oNil))
def K83l0 : K := (kSeq (kRegion K83r6 [20]) (kSeq (kCond (.tmp 20) kSkip (kExit 2)) (kSeq (kBlock 3 (kSeq (kRegion K83r7 [9]) (kSeq (kSeq (kRegion K83r8 [26]) (kCond (.tmp 26) (kExit 1) kSkip)) (kRegion K83r9 [])))) (kRegion K83r10 [19]))))
def K83r11 : OpsF := (oVal (.tmp 32) (kInt aAdd (.tmp 11) (.con (.int Go.IntKind.i64 1))) (oVal (.tmp 11) (kMove (.tmp 32)) oNil))
def K83l1 : K := (kSeq (kRegion K83r3 [12]) (kSeq (kCond (.tmp 12) kSkip (kExit 0)) (kSeq (kBlock 1 (kSeq (kRegion K83r4 [6, 7]) (kSeq (kRegion K83r5 [17, 18, 19]) (kBlock 2 (kLoop K83l0))))) (kRegion K83r11 [11]))))
def K83r12 : OpsF := (oVal (.tmp 33) (kLoad (some 2) (.tmp 5)) (oVal .none (kStore 2 (.tmp 4) (.tmp 33)) oNil))
theorem res83 : Try.f83.results.toList = [.cell 4 120] := by kernel_rfl
def K83 : K := (kSeq (kRegion K83r0 [2, 3, 4]) (kSeq (kRegion K83r1 [5]) (kSeq kSkip (kSeq (kSeq (kRegion K83r2 [10, 11]) (kBlock 0 (kLoop K83l1))) (kSeq (kRegion K83r12 []) kRet)))))
theorem code83 : codeK Try.prog (X 83) Try.f83.ntmps (Try.f83.body.getD .skip) = some K83 := by kernel_rfl
theorem body83 : Try.f83.body = some (Try.f83.body.getD .skip) := by kernel_rfl
theorem name83 : (Try.f83.name == "runtime.NumGoroutine") = false := by kernel_rfl
theorem enter83 (cl : CallF) (a0 a1 : AV) (s : St) : enterA Try.prog X cl 83 [a0, a1] s Try.f83 = finA Try.prog Try.f83 (K83 cl ⟨83, none, Try.f83.ntmps, X 83⟩ (paramsEnv 0 [a0, a1] .nil) [] s) :=
  enterA_eq body83 name83 (by kernel_rfl) (by kernel_rfl) code83
def K29r0 : OpsF := (oVal (.tmp 2) (kBox (tag 31) (.tmp 0)) (oVal (.tmp 3) (kBox (tag 35) (.tmp 1)) (oVal (.tmp 4) (kMove (.con (.int Go.IntKind.i64 0))) (oVal (.tmp 5) (kMove (.con (.int Go.IntKind.i64 0))) oNil))))
def K29r1 : OpsF := (oVal (.tmp 9) (kLoad (some 5) (.tmp 2)) (oVal (.tmp 10) (kLoad (some 3) (.tmp 3)) (oCall (.tmp 11) (.con (.func 48 [] [])) [(.tmp 9), (.tmp 10)] (oVal (.tmp 6) (kMove (.tmp 11)) oNil))))
def K29r2 : OpsF := (oVal (.tmp 12) (kMove (.tmp 6)) (oVal (.tmp 13) (kInt aNeq (.tmp 12) (.con (.int Go.IntKind.i64 0))) oNil))
def K29r3 : OpsF := (oVal (.tmp 14) (kMove (.tmp 6)) (oVal (.tmp 4) (kMove (.con (.int Go.IntKind.i64 0))) (oVal (.tmp 5) (kMove (.tmp 14)) oNil)))
def K29r4 : OpsF := (oVal (.tmp 15) (kLoad (some 5) (.tmp 2)) (oCall (.tmp 16) (.con (.func 51 [] [])) [(.tmp 15)] (oVal (.tmp 7) (kAlloc [(.int Go.IntKind.i64 0), (.int Go.IntKind.i64 0), .nilslice, .nilslice, .nilslice, .nilslice] (tag 111)) (oVal .none (kStore 6 (.tmp 7) (.tmp 16)) oNil))))
def K29r5 : OpsF := (oVal (.tmp 17) (kUn (fadA 0) (.tmp 3)) (oVal (.tmp 18) (kLoad none (.tmp 17)) (oVal (.tmp 19) (kInt aSub (.con (.int Go.IntKind.i64 240)) (.tmp 18)) (oVal (.tmp 20) (kFunc 66 [] [(.tmp 7), (.tmp 3)]) (oCall (.tmp 21) (.con (.func 65 [] [])) [(.tmp 19), (.tmp 20)] (oVal (.tmp 8) (kMove (.tmp 21)) oNil))))))
def K29r6 : OpsF := (oVal (.tmp 22) (kUn (fadA 0) (.tmp 3)) (oVal (.tmp 23) (kLoad none (.tmp 22)) (oVal (.tmp 24) (kMove (.tmp 8)) (oVal (.tmp 25) (kInt aAdd (.tmp 23) (.tmp 24)) (oVal (.tmp 4) (kMove (.tmp 25)) (oVal (.tmp 5) (kMove (.con (.int Go.IntKind.i64 0))) oNil))))))
theorem res29 : Try.f29.results.toList = [.tmp 4, .tmp 5] := by kernel_rfl
def K29 : K := (kSeq (kRegion K29r0 [2, 3, 4, 5]) (kSeq (kSeq (kRegion K29r1 [6]) (kSeq (kRegion K29r2 [13]) (kCond (.tmp 13) (kSeq (kRegion K29r3 [4, 5]) kRet) kSkip))) (kSeq (kRegion K29r4 [7]) (kSeq (kRegion K29r5 [8]) (kSeq (kRegion K29r6 [4, 5]) kRet)))))
theorem code29 : codeK Try.prog (X 29) Try.f29.ntmps (Try.f29.body.getD .skip) = some K29 := by kernel_rfl
theorem body29 : Try.f29.body = some (Try.f29.body.getD .skip) := by kernel_rfl
theorem name29 : (Try.f29.name == "runtime.NumGoroutine") = false := by kernel_rfl
theorem enter29 (cl : CallF) (a0 a1 : AV) (s : St) : enterA Try.prog X cl 29 [a0, a1] s Try.f29 = finA Try.prog Try.f29 (K29 cl ⟨29, none, Try.f29.ntmps, X 29⟩ (paramsEnv 0 [a0, a1] .nil) [] s) :=
  enterA_eq body29 name29 (by kernel_rfl) (by kernel_rfl) code29
def K66r0 : OpsF := (oVal (.tmp 4) (kMove (.con (.bool false))) oNil)
def K66r1 : OpsF := (oEnd [] (oVal (.tmp 5) (kLoad (some 6) (.tmp 1)) (oVal (.tmp 6) (kLoad (some 3) (.tmp 2)) (oVal (.tmp 7) (kUn (fadA 0) (.tmp 2)) (oVal (.tmp 8) (kLoad none (.tmp 7)) (oVal (.tmp 9) (kMove (.tmp 0)) (oVal (.tmp 10) (kInt aAdd (.tmp 8) (.tmp 9)) (oVal (.tmp 11) (kInt aAdd (.tmp 10) (.con (.int Go.IntKind.i64 1))) (oCallT (some [14]) (.tmp 12) (.con (.func 52 [] [])) [(.tmp 5), (.tmp 6), (.tmp 11)] (oVal (.tmp 13) (kUn (fldA none 1) (.tmp 12)) (oVal (.tmp 14) (kUn (fadA 1) (.tmp 2)) (oVal (.tmp 15) (kLoad none (.tmp 14)) (oVal (.tmp 16) (kGtr (.tmp 13) (.tmp 15)) (oVal (.tmp 4) (kMove (.tmp 16)) oNil))))))))))))))
theorem res66 : Try.f66.results.toList = [.tmp 4] := by kernel_rfl
def K66 : K := (kSeq (kRegion K66r0 [4]) (kSeq (kRegionD K66r1 [4]) kRet))
theorem code66 : codeK Try.prog (X 66) Try.f66.ntmps (Try.f66.body.getD .skip) = some K66 := by kernel_rfl
theorem body66 : Try.f66.body = some (Try.f66.body.getD .skip) := by kernel_rfl
theorem name66 : (Try.f66.name == "runtime.NumGoroutine") = false := by kernel_rfl
theorem enter66 (cl : CallF) (a0 a1 a2 : AV) (s : St) : enterA Try.prog X cl 66 [a0, a1, a2] s Try.f66 = finA Try.prog Try.f66 (K66 cl ⟨66, none, Try.f66.ntmps, X 66⟩ (paramsEnv 0 [a0, a1, a2] .nil) [] s) :=
  enterA_eq body66 name66 (by kernel_rfl) (by kernel_rfl) code66
end
end Go.Proofs.Ytaddkbhpocbimaa.code
set_option maxRecDepth 100000
namespace Go.Proofs.Ytaddkbhpocbimaa.code
open Go.Abs
noncomputable section
def K45r0 : OpsF := (oVal (.tmp 2) (kMove (.con (.int Go.IntKind.u64 0))) oNil)
def K45r1 : OpsF := (oVal (.tmp 4) (kMove (.tmp 0)) (oVal (.tmp 5) (kMove (.tmp 0)) (oVal (.tmp 6) (kUn nilA (.tmp 5)) (oVal (.tmp 7) (kUn (fadA 0) (.tmp 6)) (oVal (.tmp 8) (kLoad none (.tmp 7)) (oVal (.tmp 9) (kInt aAdd (.tmp 8) (.con (.int Go.IntKind.u64 11562461410679940143))) (oVal (.tmp 10) (kUn nilA (.tmp 4)) (oVal (.tmp 11) (kUn (fadA 0) (.tmp 10)) (oVal .none (kStore 1 (.tmp 11) (.tmp 9)) oNil)))))))))
def K45r2 : OpsF := (oVal (.tmp 12) (kMove (.tmp 0)) (oVal (.tmp 13) (kUn nilA (.tmp 12)) (oVal (.tmp 14) (kUn (fadA 0) (.tmp 13)) (oVal (.tmp 15) (kLoad none (.tmp 14)) (oVal (.tmp 3) (kMove (.tmp 15)) oNil)))))
def K45r3 : OpsF := (oVal (.tmp 16) (kMove (.tmp 3)) (oVal (.tmp 17) (kMove (.tmp 3)) (oVal (.tmp 18) (kShr (.tmp 17) (.con (.int Go.IntKind.u64 30))) (oVal (.tmp 19) (kInt aXor (.tmp 16) (.tmp 18)) (oVal (.tmp 20) (kInt aMul (.tmp 19) (.con (.int Go.IntKind.u64 13787848793156543929))) (oVal (.tmp 3) (kMove (.tmp 20)) oNil))))))
def K45r4 : OpsF := (oVal (.tmp 21) (kMove (.tmp 3)) (oVal (.tmp 22) (kMove (.tmp 3)) (oVal (.tmp 23) (kShr (.tmp 22) (.con (.int Go.IntKind.u64 27))) (oVal (.tmp 24) (kInt aXor (.tmp 21) (.tmp 23)) (oVal (.tmp 25) (kInt aMul (.tmp 24) (.con (.int Go.IntKind.u64 10723151780598845931))) (oVal (.tmp 3) (kMove (.tmp 25)) oNil))))))
def K45r5 : OpsF := (oVal (.tmp 26) (kMove (.tmp 3)) (oVal (.tmp 27) (kMove (.tmp 3)) (oVal (.tmp 28) (kShr (.tmp 27) (.con (.int Go.IntKind.u64 31))) (oVal (.tmp 29) (kInt aXor (.tmp 26) (.tmp 28)) (oVal (.tmp 2) (kMove (.tmp 29)) oNil)))))
theorem res45 : Try.f45.results.toList = [.tmp 2] := by kernel_rfl
def K45 : K := (kSeq (kRegion K45r0 [2]) (kSeq (kRegion K45r1 []) (kSeq (kRegion K45r2 [3]) (kSeq (kRegion K45r3 [3]) (kSeq (kRegion K45r4 [3]) (kSeq (kRegion K45r5 [2]) kRet))))))
theorem code45 : codeK Try.prog (X 45) Try.f45.ntmps (Try.f45.body.getD .skip) = some K45 := by kernel_rfl
theorem body45 : Try.f45.body = some (Try.f45.body.getD .skip) := by kernel_rfl
theorem name45 : (Try.f45.name == "runtime.NumGoroutine") = false := by kernel_rfl
theorem enter45 (cl : CallF) (a0 : AV) (s : St) : enterA Try.prog X cl 45 [a0] s Try.f45 = finA Try.prog Try.f45 (K45 cl ⟨45, none, Try.f45.ntmps, X 45⟩ (paramsEnv 0 [a0] .nil) [] s) :=
  enterA_eq body45 name45 (by kernel_rfl) (by kernel_rfl) code45
def K15r0 : OpsF := (oVal (.tmp 4) (kMove (.con (.int Go.IntKind.i64 0))) oNil)
def K15r1 : OpsF := (oVal (.tmp 5) (kMove (.tmp 1)) (oVal (.tmp 6) (kInt aLss (.tmp 5) (.con (.int Go.IntKind.i64 2))) oNil))
def K15r2 : OpsF := (oVal (.tmp 4) (kMove (.con (.int Go.IntKind.i64 0))) oNil)
def K15r3 : OpsF := (oVal (.tmp 7) (kMove (.tmp 0)) (oCall (.tmp 8) (.con (.func 45 [] [])) [(.tmp 7)] (oVal (.tmp 9) (kShr (.tmp 8) (.con (.int Go.IntKind.u64 2))) (oVal (.tmp 10) (kMove (.tmp 1)) (oVal (.tmp 11) (kUn (cviA Go.IntKind.u64) (.tmp 10)) (oVal (.tmp 12) (kInt aRem (.tmp 9) (.tmp 11)) (oVal (.tmp 13) (kUn (cviA Go.IntKind.i64) (.tmp 12)) (oVal (.tmp 4) (kMove (.tmp 13)) oNil))))))))
theorem res15 : Try.f15.results.toList = [.tmp 4] := by kernel_rfl
def K15 : K := (kSeq (kRegion K15r0 [4]) (kSeq (kSeq (kRegion K15r1 [6]) (kCond (.tmp 6) (kSeq (kRegion K15r2 [4]) kRet) kSkip)) (kSeq (kRegion K15r3 [4]) kRet)))
theorem code15 : codeK Try.prog (X 15) Try.f15.ntmps (Try.f15.body.getD .skip) = some K15 := by kernel_rfl
theorem body15 : Try.f15.body = some (Try.f15.body.getD .skip) := by kernel_rfl
theorem name15 : (Try.f15.name == "runtime.NumGoroutine") = false := by kernel_rfl
theorem enter15 (cl : CallF) (a0 a1 : AV) (s : St) : enterA Try.prog X cl 15 [a0, a1] s Try.f15 = finA Try.prog Try.f15 (K15 cl ⟨15, none, Try.f15.ntmps, X 15⟩ (paramsEnv 0 [a0, a1] .nil) [] s) :=
  enterA_eq body15 name15 (by kernel_rfl) (by kernel_rfl) code15
def K32r0 : OpsF := (oVal (.tmp 6) (kMove (.con (.int Go.IntKind.i64 0))) oNil)
def K32r1 : OpsF := (oVal (.tmp 7) (kMove (.tmp 1)) (oVal (.tmp 8) (kMove (.tmp 0)) (oVal (.tmp 9) (kMove (.tmp 2)) (oVal (.tmp 10) (kMove (.tmp 1)) (oVal (.tmp 11) (kInt aSub (.tmp 9) (.tmp 10)) (oVal (.tmp 12) (kInt aAdd (.tmp 11) (.con (.int Go.IntKind.i64 1))) (oCall (.tmp 13) (.con (.func 15 [] [])) [(.tmp 8), (.tmp 12)] (oVal (.tmp 14) (kInt aAdd (.tmp 7) (.tmp 13)) (oVal (.tmp 6) (kMove (.tmp 14)) oNil)))))))))
theorem res32 : Try.f32.results.toList = [.tmp 6] := by kernel_rfl
def K32 : K := (kSeq (kRegion K32r0 [6]) (kSeq (kRegion K32r1 [6]) kRet))
theorem code32 : codeK Try.prog (X 32) Try.f32.ntmps (Try.f32.body.getD .skip) = some K32 := by kernel_rfl
theorem body32 : Try.f32.body = some (Try.f32.body.getD .skip) := by kernel_rfl
theorem name32 : (Try.f32.name == "runtime.NumGoroutine") = false := by kernel_rfl
theorem enter32 (cl : CallF) (a0 a1 a2 : AV) (s : St) : enterA Try.prog X cl 32 [a0, a1, a2] s Try.f32 = finA Try.prog Try.f32 (K32 cl ⟨32, none, Try.f32.ntmps, X 32⟩ (paramsEnv 0 [a0, a1, a2] .nil) [] s) :=
  enterA_eq body32 name32 (by kernel_rfl) (by kernel_rfl) code32
def K74r0 : OpsF := (oVal (.tmp 4) (kMove (.con (.bool false))) oNil)
def K74r1 : OpsF := (oVal (.tmp 5) (kMove (.tmp 0)) (oVal (.tmp 6) (kMove (.tmp 1)) (oCall (.tmp 7) (.con (.func 15 [] [])) [(.tmp 5), (.tmp 6)] (oVal (.tmp 8) (kInt aEql (.tmp 7) (.con (.int Go.IntKind.i64 0))) (oVal (.tmp 4) (kMove (.tmp 8)) oNil)))))
theorem res74 : Try.f74.results.toList = [.tmp 4] := by kernel_rfl
def K74 : K := (kSeq (kRegion K74r0 [4]) (kSeq (kRegion K74r1 [4]) kRet))
theorem code74 : codeK Try.prog (X 74) Try.f74.ntmps (Try.f74.body.getD .skip) = some K74 := by kernel_rfl
theorem body74 : Try.f74.body = some (Try.f74.body.getD .skip) := by kernel_rfl
theorem name74 : (Try.f74.name == "runtime.NumGoroutine") = false := by kernel_rfl
theorem enter74 (cl : CallF) (a0 a1 : AV) (s : St) : enterA Try.prog X cl 74 [a0, a1] s Try.f74 = finA Try.prog Try.f74 (K74 cl ⟨74, none, Try.f74.ntmps, X 74⟩ (paramsEnv 0 [a0, a1] .nil) [] s) :=
  enterA_eq body74 name74 (by kernel_rfl) (by kernel_rfl) code74
def K33r0 : OpsF := (oVal (.tmp 4) (kMove (.con (.int Go.IntKind.i64 0))) oNil)
def K33r1 : OpsF := (oVal (.tmp 5) (kMove (.tmp 1)) (oVal (.tmp 6) (kUn lenSlA (.tmp 5)) (oVal (.tmp 7) (kInt aEql (.tmp 6) (.con (.int Go.IntKind.i64 0))) oNil)))
def K33r2 : OpsF := (oVal (.tmp 4) (kMove (.con (.int Go.IntKind.i64 0))) oNil)
def K33r3 : OpsF := (oVal (.tmp 8) (kMove (.tmp 1)) (oVal (.tmp 9) (kMove (.tmp 0)) (oVal (.tmp 10) (kMove (.tmp 1)) (oVal (.tmp 11) (kUn lenSlA (.tmp 10)) (oCall (.tmp 12) (.con (.func 15 [] [])) [(.tmp 9), (.tmp 11)] (oVal (.tmp 13) (kTwo (ixsA 1) (.tmp 8) (.tmp 12)) (oVal (.tmp 14) (kLoad none (.tmp 13)) (oVal (.tmp 4) (kMove (.tmp 14)) oNil))))))))
theorem res33 : Try.f33.results.toList = [.tmp 4] := by kernel_rfl
def K33 : K := (kSeq (kRegion K33r0 [4]) (kSeq (kSeq (kRegion K33r1 [7]) (kCond (.tmp 7) (kSeq (kRegion K33r2 [4]) kRet) kSkip)) (kSeq (kRegion K33r3 [4]) kRet)))
theorem code33 : codeK Try.prog (X 33) Try.f33.ntmps (Try.f33.body.getD .skip) = some K33 := by kernel_rfl
theorem body33 : Try.f33.body = some (Try.f33.body.getD .skip) := by kernel_rfl
theorem name33 : (Try.f33.name == "runtime.NumGoroutine") = false := by kernel_rfl
theorem enter33 (cl : CallF) (a0 a1 : AV) (s : St) : enterA Try.prog X cl 33 [a0, a1] s Try.f33 = finA Try.prog Try.f33 (K33 cl ⟨33, none, Try.f33.ntmps, X 33⟩ (paramsEnv 0 [a0, a1] .nil) [] s) :=
  enterA_eq body33 name33 (by kernel_rfl) (by kernel_rfl) code33
def K46r0 : OpsF := (oVal (.tmp 6) (kAlloc [(.int Go.IntKind.i64 0), (.int Go.IntKind.i64 0)] (tag 26)) oNil)
def K46r1 : OpsF := (oVal (.tmp 9) (kMove (.tmp 0)) (oVal (.tmp 10) (kMove (.tmp 1)) (oVal (.tmp 11) (kMove (.tmp 2)) (oCall (.tmp 12) (.con (.func 32 [] [])) [(.tmp 9), (.tmp 10), (.tmp 11)] (oVal (.tmp 7) (kMove (.tmp 12)) oNil)))))
def K46r2 : OpsF := (oVal (.tmp 13) (kMove (.tmp 0)) (oVal (.tmp 14) (kMove (.tmp 7)) (oVal (.tmp 15) (kMove (.tmp 2)) (oVal (.tmp 16) (kMove (.tmp 7)) (oVal (.tmp 17) (kInt aAdd (.tmp 16) (.con (.int Go.IntKind.i64 4))) (oVal (.tmp 18) (kFold minA (.tmp 15) [(.tmp 17)]) (oVal (.tmp 19) (kMove (.tmp 2)) (oVal (.tmp 20) (kBuildSlice [(.int Go.IntKind.i64 0), (.int Go.IntKind.i64 0), (.int Go.IntKind.i64 0)] 3 [(0, 1, (.tmp 14)), (1, 1, (.tmp 18)), (2, 1, (.tmp 19))]) (oCall (.tmp 21) (.con (.func 33 [] [])) [(.tmp 13), (.tmp 20)] (oVal (.tmp 8) (kMove (.tmp 21)) oNil))))))))))
def K46r3 : OpsF := (oVal (.tmp 22) (kMove (.tmp 7)) (oVal (.tmp 23) (kMove (.tmp 0)) (oVal (.tmp 24) (kMove (.tmp 7)) (oVal (.tmp 25) (kMove (.tmp 8)) (oCall (.tmp 26) (.con (.func 32 [] [])) [(.tmp 23), (.tmp 24), (.tmp 25)] (oVal (.tmp 27) (kBuild [(.int Go.IntKind.i64 0), (.int Go.IntKind.i64 0)] [(0, 1, (.tmp 22)), (1, 1, (.tmp 26))]) (oVal .none (kStore 2 (.tmp 6) (.tmp 27)) oNil)))))))
theorem res46 : Try.f46.results.toList = [.cell 6 26] := by kernel_rfl
def K46 : K := (kSeq (kRegion K46r0 [6]) (kSeq (kRegion K46r1 [7]) (kSeq (kRegion K46r2 [8]) (kSeq (kRegion K46r3 []) kRet))))
theorem code46 : codeK Try.prog (X 46) Try.f46.ntmps (Try.f46.body.getD .skip) = some K46 := by kernel_rfl
theorem body46 : Try.f46.body = some (Try.f46.body.getD .skip) := by kernel_rfl
theorem name46 : (Try.f46.name == "runtime.NumGoroutine") = false := by kernel_rfl
theorem enter46 (cl : CallF) (a0 a1 a2 : AV) (s : St) : enterA Try.prog X cl 46 [a0, a1, a2] s Try.f46 = finA Try.prog Try.f46 (K46 cl ⟨46, none, Try.f46.ntmps, X 46⟩ (paramsEnv 0 [a0, a1, a2] .nil) [] s) :=
  enterA_eq body46 name46 (by kernel_rfl) (by kernel_rfl) code46
def K43r0 : OpsF := (oVal (.tmp 3) (kBox (tag 26) (.tmp 1)) (oVal (.tmp 4) (kMove (.con (.int Go.IntKind.i64 0))) oNil))
def K43r1 : OpsF := (oEnd [] (oVal (.tmp 5) (kMove (.tmp 0)) (oVal (.tmp 6) (kUn (fadA 0) (.tmp 3)) (oVal (.tmp 7) (kLoad none (.tmp 6)) (oVal (.tmp 8) (kUn (fadA 1) (.tmp 3)) (oVal (.tmp 9) (kLoad none (.tmp 8)) (oVal (.tmp 10) (kMove (.tmp 0)) (oVal (.tmp 11) (kUn (fadA 0) (.tmp 3)) (oVal (.tmp 12) (kLoad none (.tmp 11)) (oVal (.tmp 13) (kUn (fadA 1) (.tmp 3)) (oVal (.tmp 14) (kLoad none (.tmp 13)) (oCallT (some [6, 8, 17, 19]) (.tmp 15) (.con (.func 32 [] [])) [(.tmp 10), (.tmp 12), (.tmp 14)] (oVal (.tmp 16) (kMove (.tmp 0)) (oVal (.tmp 17) (kUn (fadA 0) (.tmp 3)) (oVal (.tmp 18) (kLoad none (.tmp 17)) (oVal (.tmp 19) (kUn (fadA 1) (.tmp 3)) (oVal (.tmp 20) (kLoad none (.tmp 19)) (oCallT (some [6, 8]) (.tmp 21) (.con (.func 32 [] [])) [(.tmp 16), (.tmp 18), (.tmp 20)] (oVal (.tmp 22) (kBuildSlice [(.int Go.IntKind.i64 0), (.int Go.IntKind.i64 0), (.int Go.IntKind.i64 0), (.int Go.IntKind.i64 0)] 4 [(0, 1, (.tmp 7)), (1, 1, (.tmp 9)), (2, 1, (.tmp 15)), (3, 1, (.tmp 21))]) (oCall (.tmp 23) (.con (.func 33 [] [])) [(.tmp 5), (.tmp 22)] (oVal (.tmp 4) (kMove (.tmp 23)) oNil)))))))))))))))))))))
theorem res43 : Try.f43.results.toList = [.tmp 4] := by kernel_rfl
def K43 : K := (kSeq (kRegion K43r0 [3, 4]) (kSeq (kRegionD K43r1 [4]) kRet))
theorem code43 : codeK Try.prog (X 43) Try.f43.ntmps (Try.f43.body.getD .skip) = some K43 := by kernel_rfl
theorem body43 : Try.f43.body = some (Try.f43.body.getD .skip) := by kernel_rfl
theorem name43 : (Try.f43.name == "runtime.NumGoroutine") = false := by kernel_rfl
theorem enter43 (cl : CallF) (a0 a1 : AV) (s : St) : enterA Try.prog X cl 43 [a0, a1] s Try.f43 = finA Try.prog Try.f43 (K43 cl ⟨43, none, Try.f43.ntmps, X 43⟩ (paramsEnv 0 [a0, a1] .nil) [] s) :=
  enterA_eq body43 name43 (by kernel_rfl) (by kernel_rfl) code43
def K40r0 : OpsF := (oVal (.tmp 3) (kBox (tag 26) (.tmp 1)) (oVal (.tmp 4) (kAlloc [(.int Go.IntKind.i64 0), (.int Go.IntKind.i64 0)] (tag 26)) oNil))
def K40r1 : OpsF := (oEnd [] (oVal (.tmp 7) (kMove (.tmp 0)) (oVal (.tmp 8) (kLoad (some 2) (.tmp 3)) (oCallT (some [3]) (.tmp 9) (.con (.func 43 [] [])) [(.tmp 7), (.tmp 8)] (oVal (.tmp 10) (kMove (.tmp 0)) (oVal (.tmp 11) (kLoad (some 2) (.tmp 3)) (oCall (.tmp 12) (.con (.func 43 [] [])) [(.tmp 10), (.tmp 11)] (oVal (.tmp 5) (kMove (.tmp 9)) (oVal (.tmp 6) (kMove (.tmp 12)) oNil)))))))))
def K40r2 : OpsF := (oVal (.tmp 13) (kMove (.tmp 5)) (oVal (.tmp 14) (kMove (.tmp 6)) (oVal (.tmp 15) (kFold minA (.tmp 13) [(.tmp 14)]) (oVal (.tmp 16) (kMove (.tmp 5)) (oVal (.tmp 17) (kMove (.tmp 6)) (oVal (.tmp 18) (kFold maxA (.tmp 16) [(.tmp 17)]) (oVal (.tmp 19) (kBuild [(.int Go.IntKind.i64 0), (.int Go.IntKind.i64 0)] [(0, 1, (.tmp 15)), (1, 1, (.tmp 18))]) (oVal .none (kStore 2 (.tmp 4) (.tmp 19)) oNil))))))))
theorem res40 : Try.f40.results.toList = [.cell 4 26] := by kernel_rfl
def K40 : K := (kSeq (kRegion K40r0 [3, 4]) (kSeq (kRegionD K40r1 [5, 6]) (kSeq (kRegion K40r2 []) kRet)))
theorem code40 : codeK Try.prog (X 40) Try.f40.ntmps (Try.f40.body.getD .skip) = some K40 := by kernel_rfl
theorem body40 : Try.f40.body = some (Try.f40.body.getD .skip) := by kernel_rfl
theorem name40 : (Try.f40.name == "runtime.NumGoroutine") = false := by kernel_rfl
theorem enter40 (cl : CallF) (a0 a1 : AV) (s : St) : enterA Try.prog X cl 40 [a0, a1] s Try.f40 = finA Try.prog Try.f40 (K40 cl ⟨40, none, Try.f40.ntmps, X 40⟩ (paramsEnv 0 [a0, a1] .nil) [] s) :=
  enterA_eq body40 name40 (by kernel_rfl) (by kernel_rfl) code40
def K11r0 : OpsF := (oVal (.tmp 2) (kMove (.con .nilptr)) oNil)
def K11r1 : OpsF := (oVal (.tmp 5) (kBuild [(.int Go.IntKind.u64 0)] [(0, 1, (.con (.int Go.IntKind.u64 2611923443488327891)))]) (oVal (.tmp 6) (kBox (tag 96) (.tmp 5)) (oVal (.tmp 3) (kMove (.tmp 6)) oNil)))
def K11r2 : OpsF := (oVal (.tmp 4) (kMove (.con (.int Go.IntKind.i64 0))) oNil)
def K11r3 : OpsF := (oVal (.tmp 7) (kMove (.tmp 4)) (oVal (.tmp 8) (kMove (.tmp 0)) (oVal (.tmp 9) (kUn lenSlA (.tmp 8)) (oVal (.tmp 10) (kInt aLss (.tmp 7) (.tmp 9)) oNil))))
def K11r4 : OpsF := (oEnd [] (oVal (.tmp 13) (kMove (.tmp 3)) (oVal (.tmp 14) (kMove (.tmp 3)) (oVal (.tmp 15) (kUn nilA (.tmp 14)) (oVal (.tmp 16) (kUn (fadA 0) (.tmp 15)) (oVal (.tmp 17) (kLoad none (.tmp 16)) (oVal (.tmp 18) (kMove (.tmp 0)) (oVal (.tmp 19) (kMove (.tmp 4)) (oVal (.tmp 20) (kTwo (ixsA 1) (.tmp 18) (.tmp 19)) (oVal (.tmp 21) (kLoad none (.tmp 20)) (oVal (.tmp 22) (kUn (cviA Go.IntKind.u64) (.tmp 21)) (oVal (.tmp 23) (kInt aXor (.tmp 17) (.tmp 22)) (oVal (.tmp 24) (kInt aMul (.tmp 23) (.con (.int Go.IntKind.u64 11507291218515648293))) (oVal (.tmp 25) (kUn nilA (.tmp 13)) (oVal (.tmp 26) (kUn (fadA 0) (.tmp 25)) (oVal .none (kStore 1 (.tmp 26) (.tmp 24)) oNil))))))))))))))))
def K11r5 : OpsF := (oVal (.tmp 27) (kMove (.tmp 3)) (oCall (.tmp 28) (.con (.func 45 [] [])) [(.tmp 27)] oNil))
def K11r6 : OpsF := (oVal (.tmp 11) (kMove (.tmp 4)) (oVal (.tmp 12) (kInt aAdd (.tmp 11) (.con (.int Go.IntKind.i64 1))) (oVal (.tmp 4) (kMove (.tmp 12)) oNil)))
def K11l0 : K := (kSeq (kSeq (kRegion K11r3 [10]) (kCond (.tmp 10) kSkip (kExit 0))) (kSeq (kBlock 1 (kSeq (kRegionD K11r4 []) (kRegion K11r5 []))) (kRegion K11r6 [4])))
def K11r7 : OpsF := (oVal (.tmp 29) (kMove (.tmp 3)) (oVal (.tmp 2) (kMove (.tmp 29)) oNil))
theorem res11 : Try.f11.results.toList = [.tmp 2] := by kernel_rfl
def K11 : K := (kSeq (kRegion K11r0 [2]) (kSeq (kRegion K11r1 [3]) (kSeq (kSeq (kRegion K11r2 [4]) (kBlock 0 (kLoop K11l0))) (kSeq (kRegion K11r7 [2]) kRet))))
theorem code11 : codeK Try.prog (X 11) Try.f11.ntmps (Try.f11.body.getD .skip) = some K11 := by kernel_rfl
theorem body11 : Try.f11.body = some (Try.f11.body.getD .skip) := by kernel_rfl
theorem name11 : (Try.f11.name == "runtime.NumGoroutine") = false := by kernel_rfl
theorem enter11 (cl : CallF) (a0 : AV) (s : St) : enterA Try.prog X cl 11 [a0] s Try.f11 = finA Try.prog Try.f11 (K11 cl ⟨11, none, Try.f11.ntmps, X 11⟩ (paramsEnv 0 [a0] .nil) [] s) :=
  enterA_eq body11 name11 (by kernel_rfl) (by kernel_rfl) code11
end
end Go.Proofs.Ytaddkbhpocbimaa.code
set_option maxRecDepth 100000
namespace Go.Proofs.Ytaddkbhpocbimaa.code
open Go.Abs
noncomputable section
def K12r0 : OpsF := (oVal (.tmp 6) (kAlloc [(.int Go.IntKind.i64 0), (.int Go.IntKind.i64 0), .nilslice, .nilslice, .nilslice] (tag 31)) oNil)
def K12r1 : OpsF := (oVal (.tmp 16) (kMove (.tmp 0)) (oCall (.tmp 17) (.con (.func 46 [] [])) [(.tmp 16), (.con (.int Go.IntKind.i64 (-20))), (.con (.int Go.IntKind.i64 200))] (oVal (.tmp 18) (kBuild [(.int Go.IntKind.i64 0), (.int Go.IntKind.i64 0), .nilslice, .nilslice, .nilslice] [(0, 2, (.tmp 17))]) (oVal (.tmp 7) (kAlloc [(.int Go.IntKind.i64 0), (.int Go.IntKind.i64 0), .nilslice, .nilslice, .nilslice] (tag 31)) (oVal .none (kStore 5 (.tmp 7) (.tmp 18)) oNil)))))
def K12r2 : OpsF := (oVal (.tmp 19) (kMove (.tmp 0)) (oVal (.tmp 20) (kMove (.tmp 1)) (oVal (.tmp 21) (kInt aAdd (.tmp 20) (.con (.int Go.IntKind.i64 1))) (oCall (.tmp 22) (.con (.func 15 [] [])) [(.tmp 19), (.tmp 21)] (oVal (.tmp 8) (kMove (.tmp 22)) oNil)))))
def K12r3 : OpsF := (oVal (.tmp 23) (kMove (.tmp 8)) (oVal (.tmp 24) (kGtr (.tmp 23) (.con (.int Go.IntKind.i64 0))) oNil))
def K12r4 : OpsF := (oVal (.tmp 27) (kMove (.tmp 0)) (oVal (.tmp 28) (kMove (.tmp 0)) (oVal (.tmp 29) (kBuildSlice [(.int Go.IntKind.i64 0), (.int Go.IntKind.i64 0)] 2 [(0, 1, (.con (.int Go.IntKind.i64 30))), (1, 1, (.con (.int Go.IntKind.i64 500)))]) (oCall (.tmp 30) (.con (.func 33 [] [])) [(.tmp 28), (.tmp 29)] (oCall (.tmp 31) (.con (.func 32 [] [])) [(.tmp 27), (.con (.int Go.IntKind.i64 1)), (.tmp 30)] (oVal (.tmp 32) (kBuild [(.int Go.IntKind.i64 0), (.int Go.IntKind.i64 0), (.int Go.IntKind.i64 0), (.int Go.IntKind.i64 0), (.int Go.IntKind.i64 0), (.int Go.IntKind.i64 0), (.int Go.IntKind.i64 0), (.int Go.IntKind.i64 0), (.int Go.IntKind.i64 0)] [(0, 1, (.tmp 31))]) (oVal (.tmp 9) (kAlloc [(.int Go.IntKind.i64 0), (.int Go.IntKind.i64 0), (.int Go.IntKind.i64 0), (.int Go.IntKind.i64 0), (.int Go.IntKind.i64 0), (.int Go.IntKind.i64 0), (.int Go.IntKind.i64 0), (.int Go.IntKind.i64 0), (.int Go.IntKind.i64 0)] (tag 79)) (oVal .none (kStore 9 (.tmp 9) (.tmp 32)) oNil))))))))
def K12r5 : OpsF := (oEnd [] (oVal (.tmp 33) (kMove (.tmp 0)) (oVal (.tmp 34) (kUn (fadA 0) (.tmp 9)) (oVal (.tmp 35) (kLoad none (.tmp 34)) (oCallT (some [39]) (.tmp 36) (.con (.func 46 [] [])) [(.tmp 33), (.con (.int Go.IntKind.i64 0)), (.tmp 35)] (oVal (.tmp 37) (kMove (.tmp 0)) (oVal (.tmp 38) (kMove (.tmp 0)) (oVal (.tmp 39) (kUn (fadA 0) (.tmp 9)) (oVal (.tmp 40) (kLoad none (.tmp 39)) (oVal (.tmp 41) (kInt aQuo (.tmp 40) (.con (.int Go.IntKind.i64 4))) (oVal (.tmp 42) (kInt aAdd (.con (.int Go.IntKind.i64 1)) (.tmp 41)) (oVal (.tmp 43) (kBuildSlice [(.int Go.IntKind.i64 0), (.int Go.IntKind.i64 0)] 2 [(0, 1, (.con (.int Go.IntKind.i64 2))), (1, 1, (.tmp 42))]) (oCall (.tmp 44) (.con (.func 33 [] [])) [(.tmp 38), (.tmp 43)] (oCall (.tmp 45) (.con (.func 46 [] [])) [(.tmp 37), (.con (.int Go.IntKind.i64 0)), (.tmp 44)] (oVal (.tmp 46) (kUn (fadA 1) (.tmp 9)) (oVal .none (kStore 2 (.tmp 46) (.tmp 36)) (oVal (.tmp 47) (kUn (fadA 3) (.tmp 9)) (oVal .none (kStore 2 (.tmp 47) (.tmp 45)) oNil))))))))))))))))))
def K12r6 : OpsF := (oVal (.tmp 48) (kMove (.tmp 0)) (oCall (.tmp 49) (.con (.func 46 [] [])) [(.tmp 48), (.con (.int Go.IntKind.i64 (-50))), (.con (.int Go.IntKind.i64 30))] (oVal (.tmp 50) (kUn (fadA 5) (.tmp 9)) (oVal .none (kStore 2 (.tmp 50) (.tmp 49)) oNil))))
def K12r7 : OpsF := (oVal (.tmp 51) (kMove (.tmp 0)) (oVal (.tmp 52) (kUn (fadA 5) (.tmp 9)) (oVal (.tmp 53) (kUn (fadA 1) (.tmp 52)) (oVal (.tmp 54) (kLoad none (.tmp 53)) (oVal (.tmp 55) (kUn (fadA 5) (.tmp 9)) (oVal (.tmp 56) (kUn (fadA 1) (.tmp 55)) (oVal (.tmp 57) (kLoad none (.tmp 56)) (oVal (.tmp 58) (kInt aAdd (.tmp 57) (.con (.int Go.IntKind.i64 120))) (oCall (.tmp 59) (.con (.func 46 [] [])) [(.tmp 51), (.tmp 54), (.tmp 58)] (oVal (.tmp 60) (kUn (fadA 7) (.tmp 9)) (oVal .none (kStore 2 (.tmp 60) (.tmp 59)) oNil)))))))))))
def K12r8 : OpsF := (oVal (.tmp 61) (kUn (fadA 2) (.tmp 7)) (oVal (.tmp 62) (kLoad none (.tmp 61)) (oVal (.tmp 63) (kLoad (some 9) (.tmp 9)) (oVal (.tmp 64) (kBuildSlice [(.int Go.IntKind.i64 0), (.int Go.IntKind.i64 0), (.int Go.IntKind.i64 0), (.int Go.IntKind.i64 0), (.int Go.IntKind.i64 0), (.int Go.IntKind.i64 0), (.int Go.IntKind.i64 0), (.int Go.IntKind.i64 0), (.int Go.IntKind.i64 0)] 1 [(0, 9, (.tmp 63))]) (oVal (.tmp 65) (kTwo (appendA false 9 72 (tag 79)) (.tmp 62) (.tmp 64)) (oVal (.tmp 66) (kUn (fadA 2) (.tmp 7)) (oVal .none (kStore 1 (.tmp 66) (.tmp 65)) oNil)))))))
def K12r9 : OpsF := (oVal (.tmp 25) (kMove (.tmp 8)) (oVal (.tmp 26) (kInt aSub (.tmp 25) (.con (.int Go.IntKind.i64 1))) (oVal (.tmp 8) (kMove (.tmp 26)) oNil)))
def K12l0 : K := (kSeq (kSeq (kRegion K12r3 [24]) (kCond (.tmp 24) kSkip (kExit 0))) (kSeq (kBlock 1 (kSeq (kRegion K12r4 [9]) (kSeq (kRegionD K12r5 []) (kSeq (kRegion K12r6 []) (kSeq (kRegion K12r7 []) (kRegion K12r8 [])))))) (kRegion K12r9 [8])))
def K12r10 : OpsF := (oVal (.tmp 10) (kMove (.con (.int Go.IntKind.i64 0))) oNil)
def K12r11 : OpsF := (oVal (.tmp 67) (kMove (.tmp 0)) (oVal (.tmp 68) (kMove (.tmp 2)) (oVal (.tmp 69) (kInt aAdd (.tmp 68) (.con (.int Go.IntKind.i64 1))) (oCall (.tmp 70) (.con (.func 15 [] [])) [(.tmp 67), (.tmp 69)] (oVal (.tmp 11) (kMove (.tmp 70)) oNil)))))
def K12r12s7 : OpsF := (oVal (.tmp 78) (kPick (.tmp 73) (.tmp 77) (.con (.bool false))) oNil)
def K12r12s6 : OpsF := (oIf 73 true (oVal (.tmp 77) (kGtr (.tmp 76) (.con (.int Go.IntKind.i64 0))) K12r12s7) (oSkip (.tmp 77) K12r12s7))
def K12r12s5 : OpsF := (oIf 73 true (oVal (.tmp 76) (kUn lenSlA (.tmp 75)) K12r12s6) (oSkip (.tmp 76) K12r12s6))
def K12r12s4 : OpsF := (oIf 73 true (oVal (.tmp 75) (kLoad none (.tmp 74)) K12r12s5) (oSkip (.tmp 75) K12r12s5))
def K12r12 : OpsF := (oVal (.tmp 71) (kMove (.tmp 11)) (oVal (.tmp 72) (kGtr (.tmp 71) (.con (.int Go.IntKind.i64 0))) (oVal (.tmp 73) (kMove (.tmp 72)) (oIf 73 true (oVal (.tmp 74) (kUn (fadA 2) (.tmp 7)) K12r12s4) (oSkip (.tmp 74) K12r12s4)))))
def K12r13 : OpsF := (oVal (.tmp 81) (kMove (.tmp 10)) (oVal (.tmp 82) (kMove (.tmp 0)) (oCall (.tmp 83) (.con (.func 15 [] [])) [(.tmp 82), (.con (.int Go.IntKind.i64 6))] (oVal (.tmp 84) (kInt aAdd (.tmp 81) (.tmp 83)) (oVal (.tmp 10) (kMove (.tmp 84)) oNil)))))
def K12r14 : OpsF := (oVal (.tmp 85) (kMove (.tmp 0)) (oVal (.tmp 86) (kUn (fadA 2) (.tmp 7)) (oVal (.tmp 87) (kLoad none (.tmp 86)) (oVal (.tmp 88) (kUn lenSlA (.tmp 87)) (oCall (.tmp 89) (.con (.func 15 [] [])) [(.tmp 85), (.tmp 88)] (oVal (.tmp 12) (kMove (.tmp 89)) oNil))))))
def K12r15 : OpsF := (oEnd [] (oVal (.tmp 90) (kUn (fadA 3) (.tmp 7)) (oVal (.tmp 91) (kLoad none (.tmp 90)) (oVal (.tmp 92) (kMove (.tmp 12)) (oVal (.tmp 93) (kMove (.tmp 10)) (oVal (.tmp 94) (kMove (.tmp 0)) (oVal (.tmp 95) (kUn (fadA 2) (.tmp 7)) (oVal (.tmp 96) (kLoad none (.tmp 95)) (oVal (.tmp 97) (kMove (.tmp 12)) (oVal (.tmp 98) (kTwo (ixsA 9) (.tmp 96) (.tmp 97)) (oVal (.tmp 99) (kUn (fadA 0) (.tmp 98)) (oVal (.tmp 100) (kLoad none (.tmp 99)) (oVal (.tmp 101) (kInt aAdd (.tmp 100) (.con (.int Go.IntKind.i64 5))) (oCallT (some [90]) (.tmp 102) (.con (.func 15 [] [])) [(.tmp 94), (.tmp 101)] (oVal (.tmp 103) (kBuild [(.int Go.IntKind.i64 0), (.int Go.IntKind.i64 0), (.int Go.IntKind.i64 0)] [(0, 1, (.tmp 92)), (1, 1, (.tmp 93)), (2, 1, (.tmp 102))]) (oVal (.tmp 104) (kBuildSlice [(.int Go.IntKind.i64 0), (.int Go.IntKind.i64 0), (.int Go.IntKind.i64 0)] 1 [(0, 3, (.tmp 103))]) (oVal (.tmp 105) (kTwo (appendA false 3 24 (tag 99)) (.tmp 91) (.tmp 104)) (oVal (.tmp 106) (kUn (fadA 3) (.tmp 7)) (oVal .none (kStore 1 (.tmp 106) (.tmp 105)) oNil)))))))))))))))))))
def K12r16 : OpsF := (oVal (.tmp 79) (kMove (.tmp 11)) (oVal (.tmp 80) (kInt aSub (.tmp 79) (.con (.int Go.IntKind.i64 1))) (oVal (.tmp 11) (kMove (.tmp 80)) oNil)))
def K12l1 : K := (kSeq (kSeq (kRegion K12r12 [78]) (kCond (.tmp 78) kSkip (kExit 2))) (kSeq (kBlock 3 (kSeq (kRegion K12r13 [10]) (kSeq (kRegion K12r14 [12]) (kRegionD K12r15 [])))) (kRegion K12r16 [11])))
def K12r17 : OpsF := (oVal (.tmp 107) (kMove (.tmp 0)) (oCall (.tmp 108) (.con (.func 32 [] [])) [(.tmp 107), (.con (.int Go.IntKind.i64 (-60))), (.con (.int Go.IntKind.i64 20))] (oVal (.tmp 109) (kMove (.tmp 0)) (oCall (.tmp 110) (.con (.func 15 [] [])) [(.tmp 109), (.con (.int Go.IntKind.i64 3))] (oVal (.tmp 13) (kMove (.tmp 108)) (oVal (.tmp 14) (kMove (.tmp 110)) oNil))))))
def K12r18 : OpsF := (oVal (.tmp 111) (kMove (.tmp 0)) (oCall (.tmp 112) (.con (.func 32 [] [])) [(.tmp 111), (.con (.int Go.IntKind.i64 1)), (.con (.int Go.IntKind.i64 4))] (oVal (.tmp 15) (kMove (.tmp 112)) oNil)))
def K12r19 : OpsF := (oVal (.tmp 113) (kMove (.tmp 15)) (oVal (.tmp 114) (kGtr (.tmp 113) (.con (.int Go.IntKind.i64 0))) oNil))
def K12r20 : OpsF := (oVal (.tmp 117) (kUn (fadA 4) (.tmp 7)) (oVal (.tmp 118) (kLoad none (.tmp 117)) (oVal (.tmp 119) (kMove (.tmp 13)) (oVal (.tmp 120) (kMove (.tmp 14)) (oVal (.tmp 121) (kBuild [(.int Go.IntKind.i64 0), (.int Go.IntKind.i64 0)] [(0, 1, (.tmp 119)), (1, 1, (.tmp 120))]) (oVal (.tmp 122) (kBuildSlice [(.int Go.IntKind.i64 0), (.int Go.IntKind.i64 0)] 1 [(0, 2, (.tmp 121))]) (oVal (.tmp 123) (kTwo (appendA false 2 16 (tag 101)) (.tmp 118) (.tmp 122)) (oVal (.tmp 124) (kUn (fadA 4) (.tmp 7)) (oVal .none (kStore 1 (.tmp 124) (.tmp 123)) oNil)))))))))
def K12r21 : OpsF := (oVal (.tmp 125) (kMove (.tmp 13)) (oVal (.tmp 126) (kMove (.tmp 0)) (oCall (.tmp 127) (.con (.func 32 [] [])) [(.tmp 126), (.con (.int Go.IntKind.i64 1)), (.con (.int Go.IntKind.i64 60))] (oVal (.tmp 128) (kInt aAdd (.tmp 125) (.tmp 127)) (oVal (.tmp 129) (kMove (.tmp 14)) (oVal (.tmp 130) (kMove (.tmp 0)) (oCall (.tmp 131) (.con (.func 15 [] [])) [(.tmp 130), (.con (.int Go.IntKind.i64 8))] (oVal (.tmp 132) (kInt aAdd (.tmp 129) (.tmp 131)) (oVal (.tmp 13) (kMove (.tmp 128)) (oVal (.tmp 14) (kMove (.tmp 132)) oNil))))))))))
def K12r22 : OpsF := (oVal (.tmp 115) (kMove (.tmp 15)) (oVal (.tmp 116) (kInt aSub (.tmp 115) (.con (.int Go.IntKind.i64 1))) (oVal (.tmp 15) (kMove (.tmp 116)) oNil)))
def K12l2 : K := (kSeq (kSeq (kRegion K12r19 [114]) (kCond (.tmp 114) kSkip (kExit 4))) (kSeq (kBlock 5 (kSeq (kRegion K12r20 []) (kRegion K12r21 [13, 14]))) (kRegion K12r22 [15])))
def K12r23 : OpsF := (oVal (.tmp 133) (kLoad (some 5) (.tmp 7)) (oVal .none (kStore 5 (.tmp 6) (.tmp 133)) oNil))
theorem res12 : Try.f12.results.toList = [.cell 6 31] := by kernel_rfl
def K12 : K := (kSeq (kRegion K12r0 [6]) (kSeq (kRegion K12r1 [7]) (kSeq (kSeq (kRegion K12r2 [8]) (kBlock 0 (kLoop K12l0))) (kSeq (kRegion K12r10 [10]) (kSeq (kSeq (kRegion K12r11 [11]) (kBlock 2 (kLoop K12l1))) (kSeq (kRegion K12r17 [13, 14]) (kSeq (kSeq (kRegion K12r18 [15]) (kBlock 4 (kLoop K12l2))) (kSeq (kRegion K12r23 []) kRet))))))))
theorem code12 : codeK Try.prog (X 12) Try.f12.ntmps (Try.f12.body.getD .skip) = some K12 := by kernel_rfl
theorem body12 : Try.f12.body = some (Try.f12.body.getD .skip) := by kernel_rfl
theorem name12 : (Try.f12.name == "runtime.NumGoroutine") = false := by kernel_rfl
theorem enter12 (cl : CallF) (a0 a1 a2 : AV) (s : St) : enterA Try.prog X cl 12 [a0, a1, a2] s Try.f12 = finA Try.prog Try.f12 (K12 cl ⟨12, none, Try.f12.ntmps, X 12⟩ (paramsEnv 0 [a0, a1, a2] .nil) [] s) :=
  enterA_eq body12 name12 (by kernel_rfl) (by kernel_rfl) code12
def K13r0 : OpsF := (oVal (.tmp 4) (kBox (tag 31) (.tmp 1)) (oVal (.tmp 6) (kAlloc [(.int Go.IntKind.i64 0), (.int Go.IntKind.i64 0), .nilslice] (tag 35)) oNil))
def K13r1 : OpsF := (oVal (.tmp 11) (kMove (.tmp 0)) (oCall (.tmp 12) (.con (.func 15 [] [])) [(.tmp 11), (.con (.int Go.IntKind.i64 10))] (oVal (.tmp 13) (kMove (.tmp 0)) (oVal (.tmp 14) (kMove (.tmp 0)) (oCall (.tmp 15) (.con (.func 15 [] [])) [(.tmp 14), (.con (.int Go.IntKind.i64 40))] (oVal (.tmp 16) (kMove (.tmp 0)) (oCall (.tmp 17) (.con (.func 15 [] [])) [(.tmp 16), (.con (.int Go.IntKind.i64 200))] (oVal (.tmp 18) (kBuildSlice [(.int Go.IntKind.i64 0), (.int Go.IntKind.i64 0), (.int Go.IntKind.i64 0)] 3 [(0, 1, (.con (.int Go.IntKind.i64 0))), (1, 1, (.tmp 15)), (2, 1, (.tmp 17))]) (oCall (.tmp 19) (.con (.func 33 [] [])) [(.tmp 13), (.tmp 18)] (oVal (.tmp 20) (kBuild [(.int Go.IntKind.i64 0), (.int Go.IntKind.i64 0), .nilslice] [(0, 1, (.tmp 12)), (1, 1, (.tmp 19))]) (oVal (.tmp 7) (kAlloc [(.int Go.IntKind.i64 0), (.int Go.IntKind.i64 0), .nilslice] (tag 35)) (oVal .none (kStore 3 (.tmp 7) (.tmp 20)) oNil))))))))))))
def K13r2 : OpsF := (oVal (.tmp 21) (kUn (fadA 0) (.tmp 7)) (oVal (.tmp 22) (kLoad none (.tmp 21)) (oVal (.tmp 8) (kMove (.tmp 22)) oNil)))
def K13r3 : OpsF := (oVal (.tmp 23) (kMove (.tmp 0)) (oVal (.tmp 24) (kMove (.tmp 2)) (oVal (.tmp 25) (kInt aAdd (.tmp 24) (.con (.int Go.IntKind.i64 1))) (oCall (.tmp 26) (.con (.func 15 [] [])) [(.tmp 23), (.tmp 25)] (oVal (.tmp 9) (kMove (.tmp 26)) oNil)))))
def K13r4s7 : OpsF := (oVal (.tmp 34) (kPick (.tmp 29) (.tmp 33) (.con (.bool false))) oNil)
def K13r4s6 : OpsF := (oIf 29 true (oVal (.tmp 33) (kGtr (.tmp 32) (.con (.int Go.IntKind.i64 0))) K13r4s7) (oSkip (.tmp 33) K13r4s7))
def K13r4s5 : OpsF := (oIf 29 true (oVal (.tmp 32) (kUn lenSlA (.tmp 31)) K13r4s6) (oSkip (.tmp 32) K13r4s6))
def K13r4s4 : OpsF := (oIf 29 true (oVal (.tmp 31) (kLoad none (.tmp 30)) K13r4s5) (oSkip (.tmp 31) K13r4s5))
def K13r4 : OpsF := (oVal (.tmp 27) (kMove (.tmp 9)) (oVal (.tmp 28) (kGtr (.tmp 27) (.con (.int Go.IntKind.i64 0))) (oVal (.tmp 29) (kMove (.tmp 28)) (oIf 29 true (oVal (.tmp 30) (kUn (fadA 2) (.tmp 4)) K13r4s4) (oSkip (.tmp 30) K13r4s4)))))
def K13r5 : OpsF := (oVal (.tmp 37) (kMove (.tmp 0)) (oVal (.tmp 38) (kUn (fadA 2) (.tmp 4)) (oVal (.tmp 39) (kLoad none (.tmp 38)) (oVal (.tmp 40) (kUn lenSlA (.tmp 39)) (oCall (.tmp 41) (.con (.func 15 [] [])) [(.tmp 37), (.tmp 40)] (oVal (.tmp 42) (kMove (.tmp 8)) (oVal (.tmp 43) (kMove (.tmp 0)) (oVal (.tmp 44) (kMove (.tmp 0)) (oCall (.tmp 45) (.con (.func 15 [] [])) [(.tmp 44), (.con (.int Go.IntKind.i64 3))] (oVal (.tmp 46) (kBuildSlice [(.int Go.IntKind.i64 0), (.int Go.IntKind.i64 0)] 2 [(0, 1, (.con (.int Go.IntKind.i64 0))), (1, 1, (.tmp 45))]) (oCall (.tmp 47) (.con (.func 33 [] [])) [(.tmp 43), (.tmp 46)] (oVal (.tmp 48) (kInt aAdd (.tmp 42) (.tmp 47)) (oVal (.tmp 49) (kBuild [(.int Go.IntKind.i64 0), (.int Go.IntKind.i64 0), (.int Go.IntKind.i64 0)] [(0, 1, (.tmp 41)), (1, 1, (.tmp 48))]) (oVal (.tmp 10) (kAlloc [(.int Go.IntKind.i64 0), (.int Go.IntKind.i64 0), (.int Go.IntKind.i64 0)] (tag 103)) (oVal .none (kStore 3 (.tmp 10) (.tmp 49)) oNil)))))))))))))))
def K13r6 : OpsF := (oEnd [] (oVal (.tmp 50) (kUn (fadA 1) (.tmp 10)) (oVal (.tmp 51) (kLoad none (.tmp 50)) (oVal (.tmp 52) (kMove (.tmp 0)) (oCallT (some [50]) (.tmp 53) (.con (.func 32 [] [])) [(.tmp 52), (.con (.int Go.IntKind.i64 1)), (.con (.int Go.IntKind.i64 8))] (oVal (.tmp 54) (kInt aAdd (.tmp 51) (.tmp 53)) (oVal (.tmp 55) (kUn (fadA 2) (.tmp 10)) (oVal .none (kStore 1 (.tmp 55) (.tmp 54)) oNil))))))))
def K13r7 : OpsF := (oVal (.tmp 56) (kUn (fadA 2) (.tmp 7)) (oVal (.tmp 57) (kLoad none (.tmp 56)) (oVal (.tmp 58) (kLoad (some 3) (.tmp 10)) (oVal (.tmp 59) (kBuildSlice [(.int Go.IntKind.i64 0), (.int Go.IntKind.i64 0), (.int Go.IntKind.i64 0)] 1 [(0, 3, (.tmp 58))]) (oVal (.tmp 60) (kTwo (appendA false 3 24 (tag 103)) (.tmp 57) (.tmp 59)) (oVal (.tmp 61) (kUn (fadA 2) (.tmp 7)) (oVal .none (kStore 1 (.tmp 61) (.tmp 60)) oNil)))))))
def K13r8 : OpsF := (oVal (.tmp 62) (kUn (fadA 2) (.tmp 10)) (oVal (.tmp 63) (kLoad none (.tmp 62)) (oVal (.tmp 8) (kMove (.tmp 63)) oNil)))
def K13r9 : OpsF := (oVal (.tmp 35) (kMove (.tmp 9)) (oVal (.tmp 36) (kInt aSub (.tmp 35) (.con (.int Go.IntKind.i64 1))) (oVal (.tmp 9) (kMove (.tmp 36)) oNil)))
def K13l0 : K := (kSeq (kSeq (kRegion K13r4 [34]) (kCond (.tmp 34) kSkip (kExit 0))) (kSeq (kBlock 1 (kSeq (kRegion K13r5 [10]) (kSeq (kRegionD K13r6 []) (kSeq (kRegion K13r7 []) (kRegion K13r8 [8]))))) (kRegion K13r9 [9])))
def K13r10 : OpsF := (oVal (.tmp 64) (kLoad (some 3) (.tmp 7)) (oVal .none (kStore 3 (.tmp 6) (.tmp 64)) oNil))
theorem res13 : Try.f13.results.toList = [.cell 6 35] := by kernel_rfl
def K13 : K := (kSeq (kRegion K13r0 [4, 6]) (kSeq (kRegion K13r1 [7]) (kSeq (kRegion K13r2 [8]) (kSeq (kSeq (kRegion K13r3 [9]) (kBlock 0 (kLoop K13l0))) (kSeq (kRegion K13r10 []) kRet)))))
theorem code13 : codeK Try.prog (X 13) Try.f13.ntmps (Try.f13.body.getD .skip) = some K13 := by kernel_rfl
theorem body13 : Try.f13.body = some (Try.f13.body.getD .skip) := by kernel_rfl
theorem name13 : (Try.f13.name == "runtime.NumGoroutine") = false := by kernel_rfl
theorem enter13 (cl : CallF) (a0 a1 a2 : AV) (s : St) : enterA Try.prog X cl 13 [a0, a1, a2] s Try.f13 = finA Try.prog Try.f13 (K13 cl ⟨13, none, Try.f13.ntmps, X 13⟩ (paramsEnv 0 [a0, a1, a2] .nil) [] s) :=
  enterA_eq body13 name13 (by kernel_rfl) (by kernel_rfl) code13
end
end Go.Proofs.Ytaddkbhpocbimaa.code
set_option maxRecDepth 100000
namespace Go.Proofs.Ytaddkbhpocbimaa.code
open Go.Abs
noncomputable section
def K6r0 : OpsF := (oVal (.tmp 2) (kMove (.con (.bool false))) oNil)
def K6r1 : OpsF := (oVal (.tmp 13) (kMove (.tmp 0)) (oCall (.tmp 14) (.con (.func 11 [] [])) [(.tmp 13)] (oVal (.tmp 3) (kMove (.tmp 14)) oNil)))
def K6r2 : OpsF := (oVal (.tmp 15) (kMove (.tmp 3)) (oCall (.tmp 16) (.con (.func 12 [] [])) [(.tmp 15), (.con (.int Go.IntKind.i64 3)), (.con (.int Go.IntKind.i64 5))] (oVal (.tmp 4) (kAlloc [(.int Go.IntKind.i64 0), (.int Go.IntKind.i64 0), .nilslice, .nilslice, .nilslice] (tag 31)) (oVal .none (kStore 5 (.tmp 4) (.tmp 16)) oNil))))
def K6r3 : OpsF := (oVal (.tmp 17) (kMove (.tmp 3)) (oVal (.tmp 18) (kLoad (some 5) (.tmp 4)) (oCall (.tmp 19) (.con (.func 13 [] [])) [(.tmp 17), (.tmp 18), (.con (.int Go.IntKind.i64 4))] (oVal (.tmp 5) (kAlloc [(.int Go.IntKind.i64 0), (.int Go.IntKind.i64 0), .nilslice] (tag 35)) (oVal .none (kStore 3 (.tmp 5) (.tmp 19)) oNil)))))
def K6r4 : OpsF := (oCall (.tmp 20) (.con (.func 26 [] [])) [(.con (.int Go.IntKind.i64 0)), (.con (.int Go.IntKind.i64 0))] (oVal (.tmp 6) (kAlloc [(.int Go.IntKind.i64 0), (.int Go.IntKind.i64 0)] (tag 26)) (oVal .none (kStore 2 (.tmp 6) (.tmp 20)) (oVal (.tmp 7) (kMove (.con (.bool true))) oNil))))
def K6r5 : OpsF := (oVal (.tmp 21) (kUn (fadA 0) (.tmp 5)) (oVal (.tmp 22) (kLoad none (.tmp 21)) (oVal (.tmp 8) (kMove (.tmp 22)) oNil)))
def K6r6 : OpsF := (oVal (.tmp 23) (kMove (.tmp 8)) (oVal (.tmp 24) (kUn (fadA 0) (.tmp 5)) (oVal (.tmp 25) (kLoad none (.tmp 24)) (oVal (.tmp 26) (kInt aAdd (.tmp 25) (.con (.int Go.IntKind.i64 25))) (oVal (.tmp 27) (kInt aLss (.tmp 23) (.tmp 26)) oNil)))))
def K6r7 : OpsF := (oVal (.tmp 31) (kLoad (some 5) (.tmp 4)) (oVal (.tmp 32) (kLoad (some 3) (.tmp 5)) (oVal (.tmp 33) (kMove (.tmp 8)) (oCall (.tmp 34) (.con (.func 16 [] [])) [(.tmp 31), (.tmp 32), (.tmp 33)] (oVal (.tmp 30) (kMove (.tmp 34)) (oVal (.tmp 35) (kUn (extA 0) (.tmp 30)) (oVal (.tmp 36) (kUn (extA 1) (.tmp 30)) (oVal (.tmp 9) (kAlloc [(.int Go.IntKind.i64 0), (.int Go.IntKind.i64 0)] (tag 26)) (oVal .none (kStore 2 (.tmp 9) (.tmp 35)) (oVal (.tmp 10) (kMove (.tmp 36)) oNil))))))))))
def K6r8 : OpsF := (oVal (.tmp 38) (kLoad (some 5) (.tmp 4)) (oVal (.tmp 39) (kLoad (some 3) (.tmp 5)) (oVal (.tmp 40) (kMove (.tmp 8)) (oCall (.tmp 41) (.con (.func 17 [] [])) [(.tmp 38), (.tmp 39), (.tmp 40)] (oVal (.tmp 37) (kMove (.tmp 41)) (oVal (.tmp 42) (kUn (extA 0) (.tmp 37)) (oVal (.tmp 43) (kUn (extA 1) (.tmp 37)) (oVal (.tmp 11) (kMove (.tmp 42)) (oVal (.tmp 12) (kMove (.tmp 43)) oNil)))))))))
def K6r9s38 : OpsF := (oVal (.tmp 82) (kPick (.tmp 75) (.con (.bool true)) (.tmp 81)) oNil)
def K6r9s37 : OpsF := (oIf 75 false (oVal (.tmp 81) (kPick (.tmp 78) (.tmp 80) (.con (.bool false))) K6r9s38) (oSkip (.tmp 81) K6r9s38))
def K6r9s36 : OpsF := (oIf 78 true (oVal (.tmp 80) (kUn notA (.tmp 79)) K6r9s37) (oSkip (.tmp 80) K6r9s37))
def K6r9s35 : OpsF := (oIf 78 true (oVal (.tmp 79) (kMove (.tmp 7)) K6r9s36) (oSkip (.tmp 79) K6r9s36))
def K6r9s34 : OpsF := (oIf 75 false (oVal (.tmp 78) (kMove (.tmp 77)) K6r9s35) (oSkip (.tmp 78) K6r9s35))
def K6r9s33 : OpsF := (oIf 75 false (oVal (.tmp 77) (kInt aEql (.tmp 76) (.con (.int Go.IntKind.i64 1))) K6r9s34) (oSkip (.tmp 77) K6r9s34))
def K6r9s30 : OpsF := (oVal (.tmp 74) (kPick (.tmp 64) (.con (.bool true)) (.tmp 73)) (oVal (.tmp 75) (kMove (.tmp 74)) (oIf 75 false (oVal (.tmp 76) (kMove (.tmp 11)) K6r9s33) (oSkip (.tmp 76) K6r9s33))))
def K6r9s29 : OpsF := (oIf 64 false (oVal (.tmp 73) (kPick (.tmp 69) (.tmp 72) (.con (.bool false))) K6r9s30) (oSkip (.tmp 73) K6r9s30))
def K6r9s28 : OpsF := (oIf 69 true (oVal (.tmp 72) (kEql (.row [(0, none, .int), (1, none, .int)]) true (.tmp 70) (.tmp 71)) K6r9s29) (oSkip (.tmp 72) K6r9s29))
def K6r9s27 : OpsF := (oIf 69 true (oCallT (some [9]) (.tmp 71) (.con (.func 26 [] [])) [(.con (.int Go.IntKind.i64 0)), (.con (.int Go.IntKind.i64 0))] K6r9s28) (oSkip (.tmp 71) K6r9s28))
def K6r9s26 : OpsF := (oIf 69 true (oVal (.tmp 70) (kLoad (some 2) (.tmp 9)) K6r9s27) (oSkip (.tmp 70) K6r9s27))
def K6r9s25 : OpsF := (oIf 64 false (oVal (.tmp 69) (kMove (.tmp 68)) K6r9s26) (oSkip (.tmp 69) K6r9s26))
def K6r9s24 : OpsF := (oIf 64 false (oVal (.tmp 68) (kInt aEql (.tmp 65) (.tmp 67)) K6r9s25) (oSkip (.tmp 68) K6r9s25))
def K6r9s23 : OpsF := (oIf 64 false (oVal (.tmp 67) (kLoad none (.tmp 66)) K6r9s24) (oSkip (.tmp 67) K6r9s24))
def K6r9s22 : OpsF := (oIf 64 false (oVal (.tmp 66) (kUn (fadA 0) (.tmp 5)) K6r9s23) (oSkip (.tmp 66) K6r9s23))
def K6r9s19 : OpsF := (oVal (.tmp 63) (kPick (.tmp 57) (.con (.bool true)) (.tmp 62)) (oVal (.tmp 64) (kMove (.tmp 63)) (oIf 64 false (oVal (.tmp 65) (kMove (.tmp 8)) K6r9s22) (oSkip (.tmp 65) K6r9s22))))
def K6r9s18 : OpsF := (oIf 57 false (oVal (.tmp 62) (kInt aLss (.tmp 59) (.tmp 61)) K6r9s19) (oSkip (.tmp 62) K6r9s19))
def K6r9s17 : OpsF := (oIf 57 false (oVal (.tmp 61) (kLoad none (.tmp 60)) K6r9s18) (oSkip (.tmp 61) K6r9s18))
def K6r9s16 : OpsF := (oIf 57 false (oVal (.tmp 60) (kUn (fadA 1) (.tmp 6)) K6r9s17) (oSkip (.tmp 60) K6r9s17))
def K6r9s15 : OpsF := (oIf 57 false (oVal (.tmp 59) (kLoad none (.tmp 58)) K6r9s16) (oSkip (.tmp 59) K6r9s16))
def K6r9s12 : OpsF := (oVal (.tmp 56) (kPick (.tmp 50) (.con (.bool true)) (.tmp 55)) (oVal (.tmp 57) (kMove (.tmp 56)) (oIf 57 false (oVal (.tmp 58) (kUn (fadA 1) (.tmp 9)) K6r9s15) (oSkip (.tmp 58) K6r9s15))))
def K6r9s11 : OpsF := (oIf 50 false (oVal (.tmp 55) (kInt aLss (.tmp 52) (.tmp 54)) K6r9s12) (oSkip (.tmp 55) K6r9s12))
def K6r9s10 : OpsF := (oIf 50 false (oVal (.tmp 54) (kLoad none (.tmp 53)) K6r9s11) (oSkip (.tmp 54) K6r9s11))
def K6r9s9 : OpsF := (oIf 50 false (oVal (.tmp 53) (kUn (fadA 0) (.tmp 6)) K6r9s10) (oSkip (.tmp 53) K6r9s10))
def K6r9s8 : OpsF := (oIf 50 false (oVal (.tmp 52) (kLoad none (.tmp 51)) K6r9s9) (oSkip (.tmp 52) K6r9s9))
def K6r9s5 : OpsF := (oVal (.tmp 49) (kPick (.tmp 46) (.con (.bool true)) (.tmp 48)) (oVal (.tmp 50) (kMove (.tmp 49)) (oIf 50 false (oVal (.tmp 51) (kUn (fadA 0) (.tmp 9)) K6r9s8) (oSkip (.tmp 51) K6r9s8))))
def K6r9s4 : OpsF := (oIf 46 false (oVal (.tmp 48) (kInt aNeq (.tmp 47) (.con (.int Go.IntKind.i64 0))) K6r9s5) (oSkip (.tmp 48) K6r9s5))
def K6r9 : OpsF := (oEnd [] (oVal (.tmp 44) (kMove (.tmp 10)) (oVal (.tmp 45) (kInt aNeq (.tmp 44) (.con (.int Go.IntKind.i64 0))) (oVal (.tmp 46) (kMove (.tmp 45)) (oIf 46 false (oVal (.tmp 47) (kMove (.tmp 12)) K6r9s4) (oSkip (.tmp 47) K6r9s4))))))
def K6r10 : OpsF := (oVal (.tmp 2) (kMove (.con (.bool false))) oNil)
def K6r11 : OpsF := (oVal (.tmp 83) (kLoad (some 2) (.tmp 9)) (oVal (.tmp 84) (kMove (.tmp 11)) (oVal (.tmp 85) (kInt aEql (.tmp 84) (.con (.int Go.IntKind.i64 1))) (oVal .none (kStore 2 (.tmp 6) (.tmp 83)) (oVal (.tmp 7) (kMove (.tmp 85)) oNil)))))
def K6r12 : OpsF := (oVal (.tmp 28) (kMove (.tmp 8)) (oVal (.tmp 29) (kInt aAdd (.tmp 28) (.con (.int Go.IntKind.i64 1))) (oVal (.tmp 8) (kMove (.tmp 29)) oNil)))
def K6l0 : K := (kSeq (kSeq (kRegion K6r6 [27]) (kCond (.tmp 27) kSkip (kExit 0))) (kSeq (kBlock 1 (kSeq (kRegion K6r7 [9, 10]) (kSeq (kRegion K6r8 [11, 12]) (kSeq (kSeq (kRegionD K6r9 [82]) (kCond (.tmp 82) (kSeq (kRegion K6r10 [2]) kRet) kSkip)) (kRegion K6r11 [7]))))) (kRegion K6r12 [8])))
def K6r13 : OpsF := (oCall (.tmp 86) (.con (.func 24 [] [])) [] (oVal (.tmp 2) (kMove (.tmp 86)) oNil))
theorem res6 : Try.f6.results.toList = [.tmp 2] := by kernel_rfl
def K6 : K := (kSeq (kRegion K6r0 [2]) (kSeq (kRegion K6r1 [3]) (kSeq (kRegion K6r2 [4]) (kSeq (kRegion K6r3 [5]) (kSeq (kRegion K6r4 [6, 7]) (kSeq (kSeq (kRegion K6r5 [8]) (kBlock 0 (kLoop K6l0))) (kSeq (kRegion K6r13 [2]) kRet)))))))
theorem code6 : codeK Try.prog (X 6) Try.f6.ntmps (Try.f6.body.getD .skip) = some K6 := by kernel_rfl
theorem body6 : Try.f6.body = some (Try.f6.body.getD .skip) := by kernel_rfl
theorem name6 : (Try.f6.name == "runtime.NumGoroutine") = false := by kernel_rfl
theorem enter6 (cl : CallF) (a0 : AV) (s : St) : enterA Try.prog X cl 6 [a0] s Try.f6 = finA Try.prog Try.f6 (K6 cl ⟨6, none, Try.f6.ntmps, X 6⟩ (paramsEnv 0 [a0] .nil) [] s) :=
  enterA_eq body6 name6 (by kernel_rfl) (by kernel_rfl) code6
def K26r0 : OpsF := (oVal (.tmp 4) (kAlloc [(.int Go.IntKind.i64 0), (.int Go.IntKind.i64 0)] (tag 26)) oNil)
def K26r1 : OpsF := (oVal (.tmp 5) (kMove (.tmp 0)) (oVal (.tmp 6) (kMove (.tmp 1)) (oVal (.tmp 7) (kBuild [(.int Go.IntKind.i64 0), (.int Go.IntKind.i64 0)] [(0, 1, (.tmp 5)), (1, 1, (.tmp 6))]) (oVal .none (kStore 2 (.tmp 4) (.tmp 7)) oNil))))
theorem res26 : Try.f26.results.toList = [.cell 4 26] := by kernel_rfl
def K26 : K := (kSeq (kRegion K26r0 [4]) (kSeq (kRegion K26r1 []) kRet))
theorem code26 : codeK Try.prog (X 26) Try.f26.ntmps (Try.f26.body.getD .skip) = some K26 := by kernel_rfl
theorem body26 : Try.f26.body = some (Try.f26.body.getD .skip) := by kernel_rfl
theorem name26 : (Try.f26.name == "runtime.NumGoroutine") = false := by kernel_rfl
theorem enter26 (cl : CallF) (a0 a1 : AV) (s : St) : enterA Try.prog X cl 26 [a0, a1] s Try.f26 = finA Try.prog Try.f26 (K26 cl ⟨26, none, Try.f26.ntmps, X 26⟩ (paramsEnv 0 [a0, a1] .nil) [] s) :=
  enterA_eq body26 name26 (by kernel_rfl) (by kernel_rfl) code26
end
end Go.Proofs.Ytaddkbhpocbimaa.code
