/- The code of functions as the interpreter has it, region by region. -/
import Derived.Test.YtkoaddhhnijdpaaAbsTab
import Derived.Test.YtkoaddhhnijdpaaAbsWalk
import Derived.KernelRfl
set_option maxRecDepth 100000
namespace Go.Proofs.Ytkoaddhhnijdpaa.code
open Go.Abs
noncomputable section
def K24r0:OpsF:=(oVal (.tmp 2) (kMove (.con (.int .i64 0))) oNil)
def K24r1:OpsF:=(oVal (.tmp 3) (kMove (.con (.int .i64 0))) oNil)
def K24r2:OpsF:=(oVal (.tmp 6) (kMove (.tmp 0)) (oVal (.tmp 7) (kUn lenSlA (.tmp 6)) (oVal (.tmp 8) (kMove (.con (.int .i64 0))) oNil)))
def K24r3:OpsF:=(oVal (.tmp 9) (kInt aLss (.tmp 8) (.tmp 7)) oNil)
def K24r4:OpsF:=(oVal (.tmp 10) (kTwo (ixsA 1) (.tmp 6) (.tmp 8)) (oVal (.tmp 11) (kLoad none (.tmp 10)) (oVal (.tmp 5) (kMove (.tmp 11)) oNil)))
def K24r5:OpsF:=(oVal (.tmp 12) (kMove (.tmp 5)) (oVal (.tmp 13) (kMove (.tmp 3)) (oVal (.tmp 14) (kInt aNeq (.tmp 12) (.tmp 13)) oNil)))
def K24r6:OpsF:=(oVal (.tmp 15) (kMove (.tmp 5)) (oVal (.tmp 2) (kMove (.tmp 15)) oNil))
def K24r7:OpsF:=(oVal (.tmp 16) (kInt aAdd (.tmp 8) (.con (.int .i64 1))) (oVal (.tmp 8) (kMove (.tmp 16)) oNil))
def K24l0:K:=(kSeq (kRegion K24r3 [9]) (kSeq (kCond (.tmp 9) kSkip (kExit 0)) (kSeq (kBlock 1 (kSeq (kRegion K24r4 [5]) (kSeq (kRegion K24r5 [14]) (kCond (.tmp 14) (kSeq (kRegion K24r6 [2]) kRet) kSkip)))) (kRegion K24r7 [8]))))
def K24r8:OpsF:=(oVal (.tmp 17) (kMove (.tmp 3)) (oVal (.tmp 2) (kMove (.tmp 17)) oNil))
theorem res24:Try.f24.results.toList=[.tmp 2]:=by kernel_rfl
def K24:K:=(kSeq (kRegion K24r0 [2]) (kSeq (kRegion K24r1 [3]) (kSeq (kSeq (kRegion K24r2 [6,7,8]) (kBlock 0 (kLoop K24l0))) (kSeq (kRegion K24r8 [2]) kRet))))
theorem enter24 (cl:CallF) (a0:AV) (s:St):enterA Try.prog X cl 24 [a0] s Try.f24=finA Try.prog Try.f24 (K24 cl ⟨24,none,Try.f24.ntmps,X 24⟩ (paramsEnv 0 [a0] .nil) [] s) :=
  enterA_eq (b:=Try.f24.body.getD .skip) (by kernel_rfl) (by kernel_rfl) (by kernel_rfl) (by kernel_rfl) (by kernel_rfl)
def K50r0:OpsF:=(oVal (.tmp 6) (kMove (.con (.int .i64 0))) oNil)
def K50r1:OpsF:=(oVal (.tmp 8) (kMove (.tmp 0)) (oVal (.tmp 9) (kMove (.tmp 1)) (oVal (.tmp 10) (kInt aLss (.tmp 8) (.tmp 9)) (oVal (.tmp 7) (kMove (.tmp 10)) oNil))))
def K50r2:OpsF:=(oVal (.tmp 6) (kMove (.con (.int .i64 7))) oNil)
def K50r3:OpsF:=(oVal (.tmp 12) (kMove (.tmp 0)) (oVal (.tmp 13) (kMove (.tmp 2)) (oVal (.tmp 14) (kGtr (.tmp 12) (.tmp 13)) (oVal (.tmp 11) (kMove (.tmp 14)) oNil))))
def K50r4:OpsF:=(oVal (.tmp 6) (kMove (.con (.int .i64 6))) oNil)
def K50r5:OpsF:=(oVal (.tmp 6) (kMove (.con (.int .i64 0))) oNil)
theorem res50:Try.f50.results.toList=[.tmp 6]:=by kernel_rfl
def K50:K:=(kSeq (kRegion K50r0 [6]) (kSeq (kBlock 0 (kSeq (kRegion K50r1 [7]) (kCond (.tmp 7) (kSeq (kRegion K50r2 [6]) kRet) (kSeq (kRegion K50r3 [11]) (kCond (.tmp 11) (kSeq (kRegion K50r4 [6]) kRet) kSkip))))) (kSeq (kRegion K50r5 [6]) kRet)))
theorem enter50 (cl:CallF) (a0 a1 a2:AV) (s:St):enterA Try.prog X cl 50 [a0,a1,a2] s Try.f50=finA Try.prog Try.f50 (K50 cl ⟨50,none,Try.f50.ntmps,X 50⟩ (paramsEnv 0 [a0,a1,a2] .nil) [] s) :=
  enterA_eq (b:=Try.f50.body.getD .skip) (by kernel_rfl) (by kernel_rfl) (by kernel_rfl) (by kernel_rfl) (by kernel_rfl)
def K25r0:OpsF:=(oVal (.tmp 4) (kMove (.con (.int .i64 0))) oNil)
def K25r1s6:OpsF:=(oVal (.tmp 11) (kPick (.tmp 7) (.con (.bool true)) (.tmp 10)) oNil)
def K25r1s5:OpsF:=(oIf 7 false (oVal (.tmp 10) (kInt aGeq (.tmp 8) (.tmp 9)) K25r1s6) (oSkip (.tmp 10) K25r1s6))
def K25r1s4:OpsF:=(oIf 7 false (oVal (.tmp 9) (kMove (.tmp 1)) K25r1s5) (oSkip (.tmp 9) K25r1s5))
def K25r1:OpsF:=(oVal (.tmp 5) (kMove (.tmp 0)) (oVal (.tmp 6) (kInt aLss (.tmp 5) (.con (.int .i64 0))) (oVal (.tmp 7) (kMove (.tmp 6)) (oIf 7 false (oVal (.tmp 8) (kMove (.tmp 0)) K25r1s4) (oSkip (.tmp 8) K25r1s4)))))
def K25r2:OpsF:=(oVal (.tmp 4) (kMove (.con (.int .i64 3))) oNil)
def K25r3:OpsF:=(oVal (.tmp 4) (kMove (.con (.int .i64 0))) oNil)
theorem res25:Try.f25.results.toList=[.tmp 4]:=by kernel_rfl
def K25:K:=(kSeq (kRegion K25r0 [4]) (kSeq (kSeq (kRegion K25r1 [11]) (kCond (.tmp 11) (kSeq (kRegion K25r2 [4]) kRet) kSkip)) (kSeq (kRegion K25r3 [4]) kRet)))
theorem enter25 (cl:CallF) (a0 a1:AV) (s:St):enterA Try.prog X cl 25 [a0,a1] s Try.f25=finA Try.prog Try.f25 (K25 cl ⟨25,none,Try.f25.ntmps,X 25⟩ (paramsEnv 0 [a0,a1] .nil) [] s) :=
  enterA_eq (b:=Try.f25.body.getD .skip) (by kernel_rfl) (by kernel_rfl) (by kernel_rfl) (by kernel_rfl) (by kernel_rfl)
def K53r0:OpsF:=(oVal (.tmp 3) (kBox (tag 35) (.tmp 0)) (oVal (.tmp 6) (kMove (.con (.int .i64 0))) oNil))
def K53r1:OpsF:=(oEnd [] (oVal (.tmp 8) (kUn (fadA 0) (.tmp 3)) (oVal (.tmp 9) (kLoad none (.tmp 8)) (oVal (.tmp 10) (kMove (.tmp 1)) (oVal (.tmp 11) (kMove (.tmp 2)) (oCallT (some [13]) (.tmp 12) (.con (.func 38 [] [])) [(.tmp 9),(.tmp 10),(.tmp 11)] (oVal (.tmp 13) (kUn (fadA 1) (.tmp 3)) (oVal (.tmp 14) (kLoad none (.tmp 13)) (oVal (.tmp 15) (kMove (.tmp 1)) (oVal (.tmp 16) (kMove (.tmp 2)) (oCall (.tmp 17) (.con (.func 38 [] [])) [(.tmp 14),(.tmp 15),(.tmp 16)] (oVal (.tmp 18) (kBuildSlice [(.int .i64 0),(.int .i64 0)] 2 [(0,1,(.tmp 12)),(1,1,(.tmp 17))]) (oCall (.tmp 19) (.con (.func 24 [] [])) [(.tmp 18)] (oVal (.tmp 7) (kMove (.tmp 19)) oNil))))))))))))))
def K53r2:OpsF:=(oVal (.tmp 20) (kMove (.tmp 7)) (oVal (.tmp 21) (kInt aNeq (.tmp 20) (.con (.int .i64 0))) oNil))
def K53r3:OpsF:=(oVal (.tmp 22) (kMove (.tmp 7)) (oVal (.tmp 6) (kMove (.tmp 22)) oNil))
def K53r4:OpsF:=(oVal (.tmp 23) (kUn (fadA 0) (.tmp 3)) (oVal (.tmp 24) (kLoad none (.tmp 23)) (oVal (.tmp 25) (kUn (fadA 1) (.tmp 3)) (oVal (.tmp 26) (kLoad none (.tmp 25)) (oVal (.tmp 27) (kGtr (.tmp 24) (.tmp 26)) oNil)))))
def K53r5:OpsF:=(oVal (.tmp 6) (kMove (.con (.int .i64 5))) oNil)
def K53r6:OpsF:=(oVal (.tmp 6) (kMove (.con (.int .i64 0))) oNil)
theorem res53:Try.f53.results.toList=[.tmp 6]:=by kernel_rfl
def K53:K:=(kSeq (kRegion K53r0 [3,6]) (kSeq (kSeq (kRegionD K53r1 [7]) (kSeq (kRegion K53r2 [21]) (kCond (.tmp 21) (kSeq (kRegion K53r3 [6]) kRet) kSkip))) (kSeq (kSeq (kRegion K53r4 [27]) (kCond (.tmp 27) (kSeq (kRegion K53r5 [6]) kRet) kSkip)) (kSeq (kRegion K53r6 [6]) kRet))))
theorem enter53 (cl:CallF) (a0 a1 a2:AV) (s:St):enterA Try.prog X cl 53 [a0,a1,a2] s Try.f53=finA Try.prog Try.f53 (K53 cl ⟨53,none,Try.f53.ntmps,X 53⟩ (paramsEnv 0 [a0,a1,a2] .nil) [] s) :=
  enterA_eq (b:=Try.f53.body.getD .skip) (by kernel_rfl) (by kernel_rfl) (by kernel_rfl) (by kernel_rfl) (by kernel_rfl)
def K38r0:OpsF:=(oVal (.tmp 6) (kMove (.con (.int .i64 0))) oNil)
def K38r1s7:OpsF:=(oVal (.tmp 14) (kPick (.tmp 10) (.con (.bool true)) (.tmp 13)) oNil)
def K38r1s6:OpsF:=(oIf 10 false (oVal (.tmp 13) (kGtr (.tmp 11) (.tmp 12)) K38r1s7) (oSkip (.tmp 13) K38r1s7))
def K38r1s5:OpsF:=(oIf 10 false (oVal (.tmp 12) (kMove (.tmp 2)) K38r1s6) (oSkip (.tmp 12) K38r1s6))
def K38r1:OpsF:=(oVal (.tmp 7) (kMove (.tmp 0)) (oVal (.tmp 8) (kMove (.tmp 1)) (oVal (.tmp 9) (kInt aLss (.tmp 7) (.tmp 8)) (oVal (.tmp 10) (kMove (.tmp 9)) (oIf 10 false (oVal (.tmp 11) (kMove (.tmp 0)) K38r1s5) (oSkip (.tmp 11) K38r1s5))))))
def K38r2:OpsF:=(oVal (.tmp 6) (kMove (.con (.int .i64 1))) oNil)
def K38r3:OpsF:=(oVal (.tmp 6) (kMove (.con (.int .i64 0))) oNil)
theorem res38:Try.f38.results.toList=[.tmp 6]:=by kernel_rfl
def K38:K:=(kSeq (kRegion K38r0 [6]) (kSeq (kSeq (kRegion K38r1 [14]) (kCond (.tmp 14) (kSeq (kRegion K38r2 [6]) kRet) kSkip)) (kSeq (kRegion K38r3 [6]) kRet)))
theorem enter38 (cl:CallF) (a0 a1 a2:AV) (s:St):enterA Try.prog X cl 38 [a0,a1,a2] s Try.f38=finA Try.prog Try.f38 (K38 cl ⟨38,none,Try.f38.ntmps,X 38⟩ (paramsEnv 0 [a0,a1,a2] .nil) [] s) :=
  enterA_eq (b:=Try.f38.body.getD .skip) (by kernel_rfl) (by kernel_rfl) (by kernel_rfl) (by kernel_rfl) (by kernel_rfl)
def K22r0:OpsF:=(oVal (.tmp 1) (kBox (tag 27) (.tmp 0)) (oVal (.tmp 2) (kMove (.con (.int .i64 0))) oNil))
def K22r1:OpsF:=(oEnd [] (oVal (.tmp 3) (kUn (fadA 0) (.tmp 1)) (oVal (.tmp 4) (kLoad none (.tmp 3)) (oCallT (some [6,1]) (.tmp 5) (.con (.func 38 [] [])) [(.tmp 4),(.con (.int .i64 1)),(.con (.int .i64 8))] (oVal (.tmp 6) (kUn (fadA 1) (.tmp 1)) (oVal (.tmp 7) (kLoad none (.tmp 6)) (oCallT (some [1]) (.tmp 8) (.con (.func 38 [] [])) [(.tmp 7),(.con (.int .i64 1)),(.con (.int .i64 8))] (oVal (.tmp 9) (kLoad (some 3) (.tmp 1)) (oCall (.tmp 10) (.con (.func 39 [] [])) [(.tmp 9)] (oVal (.tmp 11) (kBuildSlice [(.int .i64 0),(.int .i64 0),(.int .i64 0)] 3 [(0,1,(.tmp 5)),(1,1,(.tmp 8)),(2,1,(.tmp 10))]) (oCall (.tmp 12) (.con (.func 24 [] [])) [(.tmp 11)] (oVal (.tmp 2) (kMove (.tmp 12)) oNil))))))))))))
theorem res22:Try.f22.results.toList=[.tmp 2]:=by kernel_rfl
def K22:K:=(kSeq (kRegion K22r0 [1,2]) (kSeq (kRegionD K22r1 [2]) kRet))
theorem enter22 (cl:CallF) (a0:AV) (s:St):enterA Try.prog X cl 22 [a0] s Try.f22=finA Try.prog Try.f22 (K22 cl ⟨22,none,Try.f22.ntmps,X 22⟩ (paramsEnv 0 [a0] .nil) [] s) :=
  enterA_eq (b:=Try.f22.body.getD .skip) (by kernel_rfl) (by kernel_rfl) (by kernel_rfl) (by kernel_rfl) (by kernel_rfl)
def K39r0:OpsF:=(oVal (.tmp 1) (kBox (tag 27) (.tmp 0)) (oVal (.tmp 2) (kMove (.con (.int .i64 0))) oNil))
def K39r1:OpsF:=(oVal (.tmp 7) (kUn (fadA 2) (.tmp 1)) (oVal (.tmp 8) (kLoad none (.tmp 7)) (oVal (.tmp 9) (kUn lenSlA (.tmp 8)) (oCall (.tmp 10) (.con (.func 50 [] [])) [(.tmp 9),(.con (.int .i64 0)),(.con (.int .i64 40))] (oVal (.tmp 3) (kMove (.tmp 10)) oNil)))))
def K39r2:OpsF:=(oVal (.tmp 11) (kMove (.tmp 3)) (oVal (.tmp 12) (kInt aNeq (.tmp 11) (.con (.int .i64 0))) oNil))
def K39r3:OpsF:=(oVal (.tmp 13) (kMove (.tmp 3)) (oVal (.tmp 2) (kMove (.tmp 13)) oNil))
def K39r4:OpsF:=(oVal (.tmp 14) (kUn (fadA 2) (.tmp 1)) (oVal (.tmp 15) (kLoad none (.tmp 14)) (oVal (.tmp 16) (kUn lenSlA (.tmp 15)) (oVal (.tmp 17) (kMove (.con (.int .i64 0))) oNil))))
def K39r5:OpsF:=(oVal (.tmp 18) (kInt aLss (.tmp 17) (.tmp 16)) oNil)
def K39r6:OpsF:=(oVal (.tmp 19) (kTwo (ixsA 6) (.tmp 15) (.tmp 17)) (oVal (.tmp 20) (kLoad (some 6) (.tmp 19)) (oVal (.tmp 5) (kAlloc [(.int .i64 0),(.int .i64 0),(.int .i64 0),(.int .i64 0),(.int .i64 0),(.int .i64 0)] (tag 37)) (oVal .none (kStore 6 (.tmp 5) (.tmp 20)) oNil))))
def K39r7:OpsF:=(oEnd [] (oVal (.tmp 21) (kUn (fadA 0) (.tmp 5)) (oVal (.tmp 22) (kLoad none (.tmp 21)) (oVal (.tmp 23) (kUn (fadA 0) (.tmp 1)) (oVal (.tmp 24) (kLoad none (.tmp 23)) (oCallT (some [26,28,31,34]) (.tmp 25) (.con (.func 25 [] [])) [(.tmp 22),(.tmp 24)] (oVal (.tmp 26) (kUn (fadA 1) (.tmp 5)) (oVal (.tmp 27) (kLoad none (.tmp 26)) (oVal (.tmp 28) (kUn (fadA 1) (.tmp 1)) (oVal (.tmp 29) (kLoad none (.tmp 28)) (oCallT (some [31,34]) (.tmp 30) (.con (.func 25 [] [])) [(.tmp 27),(.tmp 29)] (oVal (.tmp 31) (kUn (fadA 2) (.tmp 5)) (oVal (.tmp 32) (kLoad (some 2) (.tmp 31)) (oCallT (some [34]) (.tmp 33) (.con (.func 53 [] [])) [(.tmp 32),(.con (.int .i64 0)),(.con (.int .i64 100000))] (oVal (.tmp 34) (kUn (fadA 4) (.tmp 5)) (oVal (.tmp 35) (kLoad (some 2) (.tmp 34)) (oCall (.tmp 36) (.con (.func 53 [] [])) [(.tmp 35),(.con (.int .i64 0)),(.con (.int .i64 100000))] (oVal (.tmp 37) (kBuildSlice [(.int .i64 0),(.int .i64 0),(.int .i64 0),(.int .i64 0)] 4 [(0,1,(.tmp 25)),(1,1,(.tmp 30)),(2,1,(.tmp 33)),(3,1,(.tmp 36))]) (oCall (.tmp 38) (.con (.func 24 [] [])) [(.tmp 37)] (oVal (.tmp 6) (kMove (.tmp 38)) oNil))))))))))))))))))))
def K39r8:OpsF:=(oVal (.tmp 39) (kMove (.tmp 6)) (oVal (.tmp 40) (kInt aNeq (.tmp 39) (.con (.int .i64 0))) oNil))
def K39r9:OpsF:=(oVal (.tmp 41) (kMove (.tmp 6)) (oVal (.tmp 2) (kMove (.tmp 41)) oNil))
def K39r10:OpsF:=(oVal (.tmp 42) (kInt aAdd (.tmp 17) (.con (.int .i64 1))) (oVal (.tmp 17) (kMove (.tmp 42)) oNil))
def K39l0:K:=(kSeq (kRegion K39r5 [18]) (kSeq (kCond (.tmp 18) kSkip (kExit 0)) (kSeq (kBlock 1 (kSeq (kRegion K39r6 [5]) (kSeq (kRegionD K39r7 [6]) (kSeq (kRegion K39r8 [40]) (kCond (.tmp 40) (kSeq (kRegion K39r9 [2]) kRet) kSkip))))) (kRegion K39r10 [17]))))
def K39r11:OpsF:=(oVal (.tmp 2) (kMove (.con (.int .i64 0))) oNil)
theorem res39:Try.f39.results.toList=[.tmp 2]:=by kernel_rfl
def K39:K:=(kSeq (kRegion K39r0 [1,2]) (kSeq (kSeq (kRegion K39r1 [3]) (kSeq (kRegion K39r2 [12]) (kCond (.tmp 12) (kSeq (kRegion K39r3 [2]) kRet) kSkip))) (kSeq (kSeq (kRegion K39r4 [15,16,17]) (kBlock 0 (kLoop K39l0))) (kSeq (kRegion K39r11 [2]) kRet))))
theorem enter39 (cl:CallF) (a0:AV) (s:St):enterA Try.prog X cl 39 [a0] s Try.f39=finA Try.prog Try.f39 (K39 cl ⟨39,none,Try.f39.ntmps,X 39⟩ (paramsEnv 0 [a0] .nil) [] s) :=
  enterA_eq (b:=Try.f39.body.getD .skip) (by kernel_rfl) (by kernel_rfl) (by kernel_rfl) (by kernel_rfl) (by kernel_rfl)
end
end Go.Proofs.Ytkoaddhhnijdpaa.code
set_option maxRecDepth 100000
namespace Go.Proofs.Ytkoaddhhnijdpaa.code
open Go.Abs
noncomputable section
def K11r0:OpsF:=(oVal (.tmp 1) (kBox (tag 27) (.tmp 0)) (oVal (.tmp 2) (kMove (.con (.int .i64 0))) (oVal (.tmp 3) (kMove (.con (.int .i64 0))) oNil)))
def K11r1:OpsF:=(oVal (.tmp 5) (kLoad (some 3) (.tmp 1)) (oCall (.tmp 6) (.con (.func 22 [] [])) [(.tmp 5)] (oVal (.tmp 4) (kMove (.tmp 6)) oNil)))
def K11r2:OpsF:=(oVal (.tmp 7) (kMove (.tmp 4)) (oVal (.tmp 8) (kInt aNeq (.tmp 7) (.con (.int .i64 0))) oNil))
def K11r3:OpsF:=(oVal (.tmp 9) (kMove (.tmp 4)) (oVal (.tmp 2) (kMove (.con (.int .i64 0))) (oVal (.tmp 3) (kMove (.tmp 9)) oNil)))
def K11r4:OpsF:=(oVal (.tmp 10) (kLoad (some 3) (.tmp 1)) (oCall (.tmp 11) (.con (.func 23 [] [])) [(.tmp 10)] (oVal (.tmp 2) (kMove (.tmp 11)) (oVal (.tmp 3) (kMove (.con (.int .i64 0))) oNil))))
theorem res11:Try.f11.results.toList=[.tmp 2,.tmp 3]:=by kernel_rfl
def K11:K:=(kSeq (kRegion K11r0 [1,2,3]) (kSeq (kSeq (kRegion K11r1 [4]) (kSeq (kRegion K11r2 [8]) (kCond (.tmp 8) (kSeq (kRegion K11r3 [2,3]) kRet) kSkip))) (kSeq (kRegion K11r4 [2,3]) kRet)))
theorem enter11 (cl:CallF) (a0:AV) (s:St):enterA Try.prog X cl 11 [a0] s Try.f11=finA Try.prog Try.f11 (K11 cl ⟨11,none,Try.f11.ntmps,X 11⟩ (paramsEnv 0 [a0] .nil) [] s) :=
  enterA_eq (b:=Try.f11.body.getD .skip) (by kernel_rfl) (by kernel_rfl) (by kernel_rfl) (by kernel_rfl) (by kernel_rfl)
def K23r0:OpsF:=(oVal (.tmp 1) (kBox (tag 27) (.tmp 0)) (oVal (.tmp 2) (kMove (.con (.int .i64 0))) oNil))
def K23r1:OpsF:=(oVal (.tmp 4) (kBuild [(.int .i64 0)] [(0,1,(.con (.int .i64 7)))]) (oVal (.tmp 3) (kAlloc [(.int .i64 0)] (tag 83)) (oVal .none (kStore 1 (.tmp 3) (.tmp 4)) oNil)))
def K23r2:OpsF:=(oVal (.tmp 5) (kLoad (some 3) (.tmp 1)) (oVal (.tmp 6) (kFunc 41 [(.tmp 3)] []) (oCall (.tmp 7) (.con (.func 40 [] [])) [(.tmp 5),(.tmp 6)] oNil)))
def K23r3:OpsF:=(oVal (.tmp 8) (kUn (fadA 0) (.tmp 3)) (oVal (.tmp 9) (kLoad none (.tmp 8)) (oVal (.tmp 2) (kMove (.tmp 9)) oNil)))
theorem res23:Try.f23.results.toList=[.tmp 2]:=by kernel_rfl
def K23:K:=(kSeq (kRegion K23r0 [1,2]) (kSeq (kRegion K23r1 [3]) (kSeq (kRegion K23r2 []) (kSeq (kRegion K23r3 [2]) kRet))))
theorem enter23 (cl:CallF) (a0:AV) (s:St):enterA Try.prog X cl 23 [a0] s Try.f23=finA Try.prog Try.f23 (K23 cl ⟨23,none,Try.f23.ntmps,X 23⟩ (paramsEnv 0 [a0] .nil) [] s) :=
  enterA_eq (b:=Try.f23.body.getD .skip) (by kernel_rfl) (by kernel_rfl) (by kernel_rfl) (by kernel_rfl) (by kernel_rfl)
def K40r0:OpsF:=(oVal (.tmp 2) (kBox (tag 27) (.tmp 0)) oNil)
def K40r1:OpsF:=(oVal (.tmp 6) (kMove (.tmp 1)) (oVal (.tmp 7) (kUn (fadA 0) (.tmp 2)) (oVal (.tmp 8) (kLoad none (.tmp 7)) (oVal (.tmp 9) (kUn (fadA 1) (.tmp 2)) (oVal (.tmp 10) (kLoad none (.tmp 9)) (oVal (.tmp 11) (kBuildSlice [(.int .i64 0),(.int .i64 0)] 2 [(0,1,(.tmp 8)),(1,1,(.tmp 10))]) (oCall (.tmp 12) (.tmp 6) [(.con (.str ⟨#[100,97,121]⟩)),(.tmp 11)] oNil)))))))
def K40r2:OpsF:=(oVal (.tmp 13) (kUn (fadA 2) (.tmp 2)) (oVal (.tmp 14) (kLoad none (.tmp 13)) (oVal (.tmp 15) (kUn lenSlA (.tmp 14)) (oVal (.tmp 16) (kMove (.con (.int .i64 0))) oNil))))
def K40r3:OpsF:=(oVal (.tmp 17) (kInt aLss (.tmp 16) (.tmp 15)) oNil)
def K40r4:OpsF:=(oVal (.tmp 18) (kTwo (ixsA 6) (.tmp 14) (.tmp 16)) (oVal (.tmp 19) (kLoad (some 6) (.tmp 18)) (oVal (.tmp 5) (kAlloc [(.int .i64 0),(.int .i64 0),(.int .i64 0),(.int .i64 0),(.int .i64 0),(.int .i64 0)] (tag 37)) (oVal .none (kStore 6 (.tmp 5) (.tmp 19)) oNil))))
def K40r5:OpsF:=(oVal (.tmp 20) (kMove (.tmp 1)) (oVal (.tmp 21) (kUn (fadA 0) (.tmp 5)) (oVal (.tmp 22) (kLoad none (.tmp 21)) (oVal (.tmp 23) (kUn (fadA 1) (.tmp 5)) (oVal (.tmp 24) (kLoad none (.tmp 23)) (oVal (.tmp 25) (kUn (fadA 2) (.tmp 5)) (oVal (.tmp 26) (kUn (fadA 0) (.tmp 25)) (oVal (.tmp 27) (kLoad none (.tmp 26)) (oVal (.tmp 28) (kUn (fadA 2) (.tmp 5)) (oVal (.tmp 29) (kUn (fadA 1) (.tmp 28)) (oVal (.tmp 30) (kLoad none (.tmp 29)) (oVal (.tmp 31) (kUn (fadA 4) (.tmp 5)) (oVal (.tmp 32) (kUn (fadA 0) (.tmp 31)) (oVal (.tmp 33) (kLoad none (.tmp 32)) (oVal (.tmp 34) (kUn (fadA 4) (.tmp 5)) (oVal (.tmp 35) (kUn (fadA 1) (.tmp 34)) (oVal (.tmp 36) (kLoad none (.tmp 35)) (oVal (.tmp 37) (kBuildSlice [(.int .i64 0),(.int .i64 0),(.int .i64 0),(.int .i64 0),(.int .i64 0),(.int .i64 0)] 6 [(0,1,(.tmp 22)),(1,1,(.tmp 24)),(2,1,(.tmp 27)),(3,1,(.tmp 30)),(4,1,(.tmp 33)),(5,1,(.tmp 36))]) (oCall (.tmp 38) (.tmp 20) [(.con (.str ⟨#[115,97,108,101]⟩)),(.tmp 37)] oNil)))))))))))))))))))
def K40r6:OpsF:=(oVal (.tmp 39) (kInt aAdd (.tmp 16) (.con (.int .i64 1))) (oVal (.tmp 16) (kMove (.tmp 39)) oNil))
def K40l0:K:=(kSeq (kRegion K40r3 [17]) (kSeq (kCond (.tmp 17) kSkip (kExit 0)) (kSeq (kBlock 1 (kSeq (kRegion K40r4 [5]) (kRegion K40r5 []))) (kRegion K40r6 [16]))))
theorem res40:Try.f40.results.toList=[]:=by kernel_rfl
def K40:K:=(kSeq (kRegion K40r0 [2]) (kSeq (kRegion K40r1 []) (kSeq (kRegion K40r2 [14,15,16]) (kBlock 0 (kLoop K40l0)))))
theorem enter40 (cl:CallF) (a0 a1:AV) (s:St):enterA Try.prog X cl 40 [a0,a1] s Try.f40=finA Try.prog Try.f40 (K40 cl ⟨40,none,Try.f40.ntmps,X 40⟩ (paramsEnv 0 [a0,a1] .nil) [] s) :=
  enterA_eq (b:=Try.f40.body.getD .skip) (by kernel_rfl) (by kernel_rfl) (by kernel_rfl) (by kernel_rfl) (by kernel_rfl)
def K41r0:OpsF:=(oVal (.tmp 8) (kMove (.tmp 2)) (oVal (.tmp 9) (kUn lenSlA (.tmp 8)) (oVal (.tmp 10) (kMove (.con (.int .i64 0))) oNil)))
def K41r1:OpsF:=(oVal (.tmp 11) (kInt aLss (.tmp 10) (.tmp 9)) oNil)
def K41r2:OpsF:=(oVal (.tmp 12) (kTwo (ixsA 1) (.tmp 8) (.tmp 10)) (oVal (.tmp 13) (kLoad none (.tmp 12)) (oVal (.tmp 7) (kMove (.tmp 13)) oNil)))
def K41r3:OpsF:=(oVal (.tmp 14) (kMove (.tmp 0)) (oVal (.tmp 15) (kMove (.tmp 0)) (oVal (.tmp 16) (kUn nilA (.tmp 15)) (oVal (.tmp 17) (kUn (fadA 0) (.tmp 16)) (oVal (.tmp 18) (kLoad none (.tmp 17)) (oVal (.tmp 19) (kInt aMul (.tmp 18) (.con (.int .i64 31))) (oVal (.tmp 20) (kMove (.tmp 7)) (oVal (.tmp 21) (kInt aAdd (.tmp 19) (.tmp 20)) (oVal (.tmp 22) (kInt aRem (.tmp 21) (.con (.int .i64 9973))) (oVal (.tmp 23) (kUn nilA (.tmp 14)) (oVal (.tmp 24) (kUn (fadA 0) (.tmp 23)) (oVal .none (kStore 1 (.tmp 24) (.tmp 22)) oNil))))))))))))
def K41r4:OpsF:=(oVal (.tmp 25) (kInt aAdd (.tmp 10) (.con (.int .i64 1))) (oVal (.tmp 10) (kMove (.tmp 25)) oNil))
def K41l0:K:=(kSeq (kRegion K41r1 [11]) (kSeq (kCond (.tmp 11) kSkip (kExit 0)) (kSeq (kBlock 1 (kSeq (kRegion K41r2 [7]) (kRegion K41r3 []))) (kRegion K41r4 [10]))))
theorem res41:Try.f41.results.toList=[]:=by kernel_rfl
def K41:K:=(kSeq (kRegion K41r0 [8,9,10]) (kBlock 0 (kLoop K41l0)))
theorem enter41 (cl:CallF) (a0 a1 a2:AV) (s:St):enterA Try.prog X cl 41 [a0,a1,a2] s Try.f41=finA Try.prog Try.f41 (K41 cl ⟨41,none,Try.f41.ntmps,X 41⟩ (paramsEnv 0 [a0,a1,a2] .nil) [] s) :=
  enterA_eq (b:=Try.f41.body.getD .skip) (by kernel_rfl) (by kernel_rfl) (by kernel_rfl) (by kernel_rfl) (by kernel_rfl)
end
end Go.Proofs.Ytkoaddhhnijdpaa.code
set_option maxRecDepth 100000
namespace Go.Proofs.Ytkoaddhhnijdpaa.code
open Go.Abs
noncomputable section
def K12r0:OpsF:=(oVal (.tmp 2) (kMove (.con (.int .u64 0))) oNil)
def K12r1:OpsF:=(oVal (.tmp 4) (kMove (.tmp 0)) (oVal (.tmp 5) (kMove (.tmp 0)) (oVal (.tmp 6) (kUn nilA (.tmp 5)) (oVal (.tmp 7) (kUn (fadA 0) (.tmp 6)) (oVal (.tmp 8) (kLoad none (.tmp 7)) (oVal (.tmp 9) (kInt aAdd (.tmp 8) (.con (.int .u64 11562461410679940143))) (oVal (.tmp 10) (kUn nilA (.tmp 4)) (oVal (.tmp 11) (kUn (fadA 0) (.tmp 10)) (oVal .none (kStore 1 (.tmp 11) (.tmp 9)) oNil)))))))))
def K12r2:OpsF:=(oVal (.tmp 12) (kMove (.tmp 0)) (oVal (.tmp 13) (kUn nilA (.tmp 12)) (oVal (.tmp 14) (kUn (fadA 0) (.tmp 13)) (oVal (.tmp 15) (kLoad none (.tmp 14)) (oVal (.tmp 3) (kMove (.tmp 15)) oNil)))))
def K12r3:OpsF:=(oVal (.tmp 16) (kMove (.tmp 3)) (oVal (.tmp 17) (kMove (.tmp 3)) (oVal (.tmp 18) (kShr (.tmp 17) (.con (.int .u64 30))) (oVal (.tmp 19) (kInt aXor (.tmp 16) (.tmp 18)) (oVal (.tmp 20) (kInt aMul (.tmp 19) (.con (.int .u64 13787848793156543929))) (oVal (.tmp 3) (kMove (.tmp 20)) oNil))))))
def K12r4:OpsF:=(oVal (.tmp 21) (kMove (.tmp 3)) (oVal (.tmp 22) (kMove (.tmp 3)) (oVal (.tmp 23) (kShr (.tmp 22) (.con (.int .u64 27))) (oVal (.tmp 24) (kInt aXor (.tmp 21) (.tmp 23)) (oVal (.tmp 25) (kInt aMul (.tmp 24) (.con (.int .u64 10723151780598845931))) (oVal (.tmp 3) (kMove (.tmp 25)) oNil))))))
def K12r5:OpsF:=(oVal (.tmp 26) (kMove (.tmp 3)) (oVal (.tmp 27) (kMove (.tmp 3)) (oVal (.tmp 28) (kShr (.tmp 27) (.con (.int .u64 31))) (oVal (.tmp 29) (kInt aXor (.tmp 26) (.tmp 28)) (oVal (.tmp 2) (kMove (.tmp 29)) oNil)))))
theorem res12:Try.f12.results.toList=[.tmp 2]:=by kernel_rfl
def K12:K:=(kSeq (kRegion K12r0 [2]) (kSeq (kRegion K12r1 []) (kSeq (kRegion K12r2 [3]) (kSeq (kRegion K12r3 [3]) (kSeq (kRegion K12r4 [3]) (kSeq (kRegion K12r5 [2]) kRet))))))
theorem enter12 (cl:CallF) (a0:AV) (s:St):enterA Try.prog X cl 12 [a0] s Try.f12=finA Try.prog Try.f12 (K12 cl ⟨12,none,Try.f12.ntmps,X 12⟩ (paramsEnv 0 [a0] .nil) [] s) :=
  enterA_eq (b:=Try.f12.body.getD .skip) (by kernel_rfl) (by kernel_rfl) (by kernel_rfl) (by kernel_rfl) (by kernel_rfl)
def K9r0:OpsF:=(oVal (.tmp 4) (kMove (.con (.int .i64 0))) oNil)
def K9r1:OpsF:=(oVal (.tmp 5) (kMove (.tmp 1)) (oVal (.tmp 6) (kInt aLss (.tmp 5) (.con (.int .i64 2))) oNil))
def K9r2:OpsF:=(oVal (.tmp 4) (kMove (.con (.int .i64 0))) oNil)
def K9r3:OpsF:=(oVal (.tmp 7) (kMove (.tmp 0)) (oCall (.tmp 8) (.con (.func 12 [] [])) [(.tmp 7)] (oVal (.tmp 9) (kShr (.tmp 8) (.con (.int .u64 2))) (oVal (.tmp 10) (kMove (.tmp 1)) (oVal (.tmp 11) (kUn (cviA .u64) (.tmp 10)) (oVal (.tmp 12) (kInt aRem (.tmp 9) (.tmp 11)) (oVal (.tmp 13) (kUn (cviA .i64) (.tmp 12)) (oVal (.tmp 4) (kMove (.tmp 13)) oNil))))))))
theorem res9:Try.f9.results.toList=[.tmp 4]:=by kernel_rfl
def K9:K:=(kSeq (kRegion K9r0 [4]) (kSeq (kSeq (kRegion K9r1 [6]) (kCond (.tmp 6) (kSeq (kRegion K9r2 [4]) kRet) kSkip)) (kSeq (kRegion K9r3 [4]) kRet)))
theorem enter9 (cl:CallF) (a0 a1:AV) (s:St):enterA Try.prog X cl 9 [a0,a1] s Try.f9=finA Try.prog Try.f9 (K9 cl ⟨9,none,Try.f9.ntmps,X 9⟩ (paramsEnv 0 [a0,a1] .nil) [] s) :=
  enterA_eq (b:=Try.f9.body.getD .skip) (by kernel_rfl) (by kernel_rfl) (by kernel_rfl) (by kernel_rfl) (by kernel_rfl)
def K13r0:OpsF:=(oVal (.tmp 6) (kMove (.con (.int .i64 0))) oNil)
def K13r1:OpsF:=(oVal (.tmp 7) (kMove (.tmp 1)) (oVal (.tmp 8) (kMove (.tmp 0)) (oVal (.tmp 9) (kMove (.tmp 2)) (oVal (.tmp 10) (kMove (.tmp 1)) (oVal (.tmp 11) (kInt aSub (.tmp 9) (.tmp 10)) (oVal (.tmp 12) (kInt aAdd (.tmp 11) (.con (.int .i64 1))) (oCall (.tmp 13) (.con (.func 9 [] [])) [(.tmp 8),(.tmp 12)] (oVal (.tmp 14) (kInt aAdd (.tmp 7) (.tmp 13)) (oVal (.tmp 6) (kMove (.tmp 14)) oNil)))))))))
theorem res13:Try.f13.results.toList=[.tmp 6]:=by kernel_rfl
def K13:K:=(kSeq (kRegion K13r0 [6]) (kSeq (kRegion K13r1 [6]) kRet))
theorem enter13 (cl:CallF) (a0 a1 a2:AV) (s:St):enterA Try.prog X cl 13 [a0,a1,a2] s Try.f13=finA Try.prog Try.f13 (K13 cl ⟨13,none,Try.f13.ntmps,X 13⟩ (paramsEnv 0 [a0,a1,a2] .nil) [] s) :=
  enterA_eq (b:=Try.f13.body.getD .skip) (by kernel_rfl) (by kernel_rfl) (by kernel_rfl) (by kernel_rfl) (by kernel_rfl)
def K10r0:OpsF:=(oVal (.tmp 4) (kMove (.con (.int .i64 0))) oNil)
def K10r1:OpsF:=(oVal (.tmp 5) (kMove (.tmp 1)) (oVal (.tmp 6) (kUn lenSlA (.tmp 5)) (oVal (.tmp 7) (kInt aEql (.tmp 6) (.con (.int .i64 0))) oNil)))
def K10r2:OpsF:=(oVal (.tmp 4) (kMove (.con (.int .i64 0))) oNil)
def K10r3:OpsF:=(oVal (.tmp 8) (kMove (.tmp 1)) (oVal (.tmp 9) (kMove (.tmp 0)) (oVal (.tmp 10) (kMove (.tmp 1)) (oVal (.tmp 11) (kUn lenSlA (.tmp 10)) (oCall (.tmp 12) (.con (.func 9 [] [])) [(.tmp 9),(.tmp 11)] (oVal (.tmp 13) (kTwo (ixsA 1) (.tmp 8) (.tmp 12)) (oVal (.tmp 14) (kLoad none (.tmp 13)) (oVal (.tmp 4) (kMove (.tmp 14)) oNil))))))))
theorem res10:Try.f10.results.toList=[.tmp 4]:=by kernel_rfl
def K10:K:=(kSeq (kRegion K10r0 [4]) (kSeq (kSeq (kRegion K10r1 [7]) (kCond (.tmp 7) (kSeq (kRegion K10r2 [4]) kRet) kSkip)) (kSeq (kRegion K10r3 [4]) kRet)))
theorem enter10 (cl:CallF) (a0 a1:AV) (s:St):enterA Try.prog X cl 10 [a0,a1] s Try.f10=finA Try.prog Try.f10 (K10 cl ⟨10,none,Try.f10.ntmps,X 10⟩ (paramsEnv 0 [a0,a1] .nil) [] s) :=
  enterA_eq (b:=Try.f10.body.getD .skip) (by kernel_rfl) (by kernel_rfl) (by kernel_rfl) (by kernel_rfl) (by kernel_rfl)
def K14r0:OpsF:=(oVal (.tmp 6) (kAlloc [(.int .i64 0),(.int .i64 0)] (tag 35)) oNil)
def K14r1:OpsF:=(oVal (.tmp 9) (kMove (.tmp 0)) (oVal (.tmp 10) (kMove (.tmp 1)) (oVal (.tmp 11) (kMove (.tmp 2)) (oCall (.tmp 12) (.con (.func 13 [] [])) [(.tmp 9),(.tmp 10),(.tmp 11)] (oVal (.tmp 7) (kMove (.tmp 12)) oNil)))))
def K14r2:OpsF:=(oVal (.tmp 13) (kMove (.tmp 0)) (oVal (.tmp 14) (kMove (.tmp 7)) (oVal (.tmp 15) (kMove (.tmp 2)) (oVal (.tmp 16) (kMove (.tmp 7)) (oVal (.tmp 17) (kInt aAdd (.tmp 16) (.con (.int .i64 4))) (oVal (.tmp 18) (kFold minA (.tmp 15) [(.tmp 17)]) (oVal (.tmp 19) (kMove (.tmp 2)) (oVal (.tmp 20) (kBuildSlice [(.int .i64 0),(.int .i64 0),(.int .i64 0)] 3 [(0,1,(.tmp 14)),(1,1,(.tmp 18)),(2,1,(.tmp 19))]) (oCall (.tmp 21) (.con (.func 10 [] [])) [(.tmp 13),(.tmp 20)] (oVal (.tmp 8) (kMove (.tmp 21)) oNil))))))))))
def K14r3:OpsF:=(oVal (.tmp 22) (kMove (.tmp 7)) (oVal (.tmp 23) (kMove (.tmp 0)) (oVal (.tmp 24) (kMove (.tmp 7)) (oVal (.tmp 25) (kMove (.tmp 8)) (oCall (.tmp 26) (.con (.func 13 [] [])) [(.tmp 23),(.tmp 24),(.tmp 25)] (oVal (.tmp 27) (kBuild [(.int .i64 0),(.int .i64 0)] [(0,1,(.tmp 22)),(1,1,(.tmp 26))]) (oVal .none (kStore 2 (.tmp 6) (.tmp 27)) oNil)))))))
theorem res14:Try.f14.results.toList=[.cell 6 35]:=by kernel_rfl
def K14:K:=(kSeq (kRegion K14r0 [6]) (kSeq (kRegion K14r1 [7]) (kSeq (kRegion K14r2 [8]) (kSeq (kRegion K14r3 []) kRet))))
theorem enter14 (cl:CallF) (a0 a1 a2:AV) (s:St):enterA Try.prog X cl 14 [a0,a1,a2] s Try.f14=finA Try.prog Try.f14 (K14 cl ⟨14,none,Try.f14.ntmps,X 14⟩ (paramsEnv 0 [a0,a1,a2] .nil) [] s) :=
  enterA_eq (b:=Try.f14.body.getD .skip) (by kernel_rfl) (by kernel_rfl) (by kernel_rfl) (by kernel_rfl) (by kernel_rfl)
end
end Go.Proofs.Ytkoaddhhnijdpaa.code
set_option maxRecDepth 100000
namespace Go.Proofs.Ytkoaddhhnijdpaa.code
open Go.Abs
noncomputable section
def K5r0:OpsF:=(oVal (.tmp 8) (kAlloc [(.int .i64 0),(.int .i64 0),.nilslice] (tag 27)) oNil)
def K5r1:OpsF:=(oVal (.tmp 13) (kMove (.tmp 0)) (oVal (.tmp 14) (kMove (.tmp 1)) (oCall (.tmp 15) (.con (.func 13 [] [])) [(.tmp 13),(.con (.int .i64 1)),(.tmp 14)] (oVal (.tmp 16) (kMove (.tmp 0)) (oVal (.tmp 17) (kMove (.tmp 2)) (oCall (.tmp 18) (.con (.func 13 [] [])) [(.tmp 16),(.con (.int .i64 1)),(.tmp 17)] (oVal (.tmp 19) (kBuild [(.int .i64 0),(.int .i64 0),.nilslice] [(0,1,(.tmp 15)),(1,1,(.tmp 18))]) (oVal (.tmp 9) (kAlloc [(.int .i64 0),(.int .i64 0),.nilslice] (tag 27)) (oVal .none (kStore 3 (.tmp 9) (.tmp 19)) oNil)))))))))
def K5r2:OpsF:=(oVal (.tmp 20) (kMove (.tmp 0)) (oVal (.tmp 21) (kBuildSlice [(.int .i64 0),(.int .i64 0),(.int .i64 0)] 3 [(0,1,(.con (.int .i64 6))),(1,1,(.con (.int .i64 100))),(2,1,(.con (.int .i64 5000)))]) (oCall (.tmp 22) (.con (.func 10 [] [])) [(.tmp 20),(.tmp 21)] (oVal (.tmp 23) (kMove (.tmp 0)) (oVal (.tmp 24) (kBuildSlice [(.int .i64 0),(.int .i64 0),(.int .i64 0)] 3 [(0,1,(.con (.int .i64 6))),(1,1,(.con (.int .i64 30))),(2,1,(.con (.int .i64 2000)))]) (oCall (.tmp 25) (.con (.func 10 [] [])) [(.tmp 23),(.tmp 24)] (oVal (.tmp 10) (kMove (.tmp 22)) (oVal (.tmp 11) (kMove (.tmp 25)) oNil))))))))
def K5r3:OpsF:=(oVal (.tmp 26) (kMove (.tmp 0)) (oVal (.tmp 27) (kMove (.tmp 3)) (oVal (.tmp 28) (kInt aAdd (.tmp 27) (.con (.int .i64 1))) (oCall (.tmp 29) (.con (.func 9 [] [])) [(.tmp 26),(.tmp 28)] (oVal (.tmp 12) (kMove (.tmp 29)) oNil)))))
def K5r4:OpsF:=(oVal (.tmp 30) (kMove (.tmp 12)) (oVal (.tmp 31) (kGtr (.tmp 30) (.con (.int .i64 0))) oNil))
def K5r5:OpsF:=(oEnd [] (oVal (.tmp 34) (kUn (fadA 2) (.tmp 9)) (oVal (.tmp 35) (kLoad none (.tmp 34)) (oVal (.tmp 36) (kMove (.tmp 0)) (oVal (.tmp 37) (kUn (fadA 0) (.tmp 9)) (oVal (.tmp 38) (kLoad none (.tmp 37)) (oCallT (some [34,41]) (.tmp 39) (.con (.func 9 [] [])) [(.tmp 36),(.tmp 38)] (oVal (.tmp 40) (kMove (.tmp 0)) (oVal (.tmp 41) (kUn (fadA 1) (.tmp 9)) (oVal (.tmp 42) (kLoad none (.tmp 41)) (oCallT (some [34]) (.tmp 43) (.con (.func 9 [] [])) [(.tmp 40),(.tmp 42)] (oVal (.tmp 44) (kMove (.tmp 0)) (oVal (.tmp 45) (kMove (.tmp 10)) (oCallT (some [34]) (.tmp 46) (.con (.func 14 [] [])) [(.tmp 44),(.con (.int .i64 0)),(.tmp 45)] (oVal (.tmp 47) (kMove (.tmp 0)) (oVal (.tmp 48) (kMove (.tmp 11)) (oCallT (some [34]) (.tmp 49) (.con (.func 14 [] [])) [(.tmp 47),(.con (.int .i64 0)),(.tmp 48)] (oVal (.tmp 50) (kBuild [(.int .i64 0),(.int .i64 0),(.int .i64 0),(.int .i64 0),(.int .i64 0),(.int .i64 0)] [(0,1,(.tmp 39)),(1,1,(.tmp 43)),(2,2,(.tmp 46)),(4,2,(.tmp 49))]) (oVal (.tmp 51) (kBuildSlice [(.int .i64 0),(.int .i64 0),(.int .i64 0),(.int .i64 0),(.int .i64 0),(.int .i64 0)] 1 [(0,6,(.tmp 50))]) (oVal (.tmp 52) (kTwo (appendA false 6 48 (tag 37)) (.tmp 35) (.tmp 51)) (oVal (.tmp 53) (kUn (fadA 2) (.tmp 9)) (oVal .none (kStore 1 (.tmp 53) (.tmp 52)) oNil))))))))))))))))))))))
def K5r6:OpsF:=(oVal (.tmp 32) (kMove (.tmp 12)) (oVal (.tmp 33) (kInt aSub (.tmp 32) (.con (.int .i64 1))) (oVal (.tmp 12) (kMove (.tmp 33)) oNil)))
def K5l0:K:=(kSeq (kSeq (kRegion K5r4 [31]) (kCond (.tmp 31) kSkip (kExit 0))) (kSeq (kBlock 1 (kRegionD K5r5 [])) (kRegion K5r6 [12])))
def K5r7:OpsF:=(oVal (.tmp 54) (kLoad (some 3) (.tmp 9)) (oVal .none (kStore 3 (.tmp 8) (.tmp 54)) oNil))
theorem res5:Try.f5.results.toList=[.cell 8 27]:=by kernel_rfl
def K5:K:=(kSeq (kRegion K5r0 [8]) (kSeq (kRegion K5r1 [9]) (kSeq (kRegion K5r2 [10,11]) (kSeq (kSeq (kRegion K5r3 [12]) (kBlock 0 (kLoop K5l0))) (kSeq (kRegion K5r7 []) kRet)))))
theorem enter5 (cl:CallF) (a0 a1 a2 a3:AV) (s:St):enterA Try.prog X cl 5 [a0,a1,a2,a3] s Try.f5=finA Try.prog Try.f5 (K5 cl ⟨5,none,Try.f5.ntmps,X 5⟩ (paramsEnv 0 [a0,a1,a2,a3] .nil) [] s) :=
  enterA_eq (b:=Try.f5.body.getD .skip) (by kernel_rfl) (by kernel_rfl) (by kernel_rfl) (by kernel_rfl) (by kernel_rfl)
def K7r0:OpsF:=(oVal (.tmp 1) (kBox (tag 27) (.tmp 0)) (oVal (.tmp 2) (kAlloc [(.int .i64 0),(.int .i64 0),.nilslice] (tag 27)) oNil))
def K7r1:OpsF:=(oVal (.tmp 3) (kBuildSlice [] 0 []) (oVal (.tmp 4) (kUn (fadA 2) (.tmp 1)) (oVal (.tmp 5) (kLoad none (.tmp 4)) (oVal (.tmp 6) (kTwo (appendA false 6 48 (tag 37)) (.tmp 3) (.tmp 5)) (oVal (.tmp 7) (kUn (fadA 2) (.tmp 1)) (oVal .none (kStore 1 (.tmp 7) (.tmp 6)) oNil))))))
def K7r2:OpsF:=(oVal (.tmp 8) (kLoad (some 3) (.tmp 1)) (oVal .none (kStore 3 (.tmp 2) (.tmp 8)) oNil))
theorem res7:Try.f7.results.toList=[.cell 2 27]:=by kernel_rfl
def K7:K:=(kSeq (kRegion K7r0 [1,2]) (kSeq (kRegion K7r1 []) (kSeq (kRegion K7r2 []) kRet)))
theorem enter7 (cl:CallF) (a0:AV) (s:St):enterA Try.prog X cl 7 [a0] s Try.f7=finA Try.prog Try.f7 (K7 cl ⟨7,none,Try.f7.ntmps,X 7⟩ (paramsEnv 0 [a0] .nil) [] s) :=
  enterA_eq (b:=Try.f7.body.getD .skip) (by kernel_rfl) (by kernel_rfl) (by kernel_rfl) (by kernel_rfl) (by kernel_rfl)
end
end Go.Proofs.Ytkoaddhhnijdpaa.code
set_option maxRecDepth 100000
namespace Go.Proofs.Ytkoaddhhnijdpaa.code
open Go.Abs
noncomputable section
def K3r2:OpsF:=(oVal (.tmp 14) (kMove (.tmp 3)) (oCall (.tmp 15) (.con (.func 5 [] [])) [(.tmp 14),(.con (.int .i64 3)),(.con (.int .i64 3)),(.con (.int .i64 8))] (oVal (.tmp 4) (kAlloc [(.int .i64 0),(.int .i64 0),.nilslice] (tag 27)) (oVal .none (kStore 3 (.tmp 4) (.tmp 15)) oNil))))
def K3r3:OpsF:=(oVal (.tmp 16) (kUn (fadA 2) (.tmp 4)) (oVal (.tmp 17) (kLoad none (.tmp 16)) (oVal (.tmp 18) (kUn lenSlA (.tmp 17)) (oVal (.tmp 19) (kInt aEql (.tmp 18) (.con (.int .i64 0))) oNil))))
def K3r4:OpsF:=(oCall (.tmp 20) (.con (.func 6 [] [])) [] (oVal (.tmp 2) (kMove (.tmp 20)) oNil))
def K3r5:OpsF:=(oVal (.tmp 21) (kLoad (some 3) (.tmp 4)) (oCall (.tmp 22) (.con (.func 7 [] [])) [(.tmp 21)] (oVal (.tmp 5) (kAlloc [(.int .i64 0),(.int .i64 0),.nilslice] (tag 27)) (oVal .none (kStore 3 (.tmp 5) (.tmp 22)) oNil))))
def K3r6:OpsF:=(oEnd [] (oVal (.tmp 23) (kUn (fadA 2) (.tmp 5)) (oVal (.tmp 24) (kLoad none (.tmp 23)) (oVal (.tmp 25) (kMove (.tmp 3)) (oVal (.tmp 26) (kUn (fadA 2) (.tmp 4)) (oVal (.tmp 27) (kLoad none (.tmp 26)) (oVal (.tmp 28) (kUn lenSlA (.tmp 27)) (oCallT (some [23]) (.tmp 29) (.con (.func 9 [] [])) [(.tmp 25),(.tmp 28)] (oVal (.tmp 30) (kTwo (ixsA 6) (.tmp 24) (.tmp 29)) (oVal (.tmp 31) (kMove (.tmp 3)) (oCallT (some [23]) (.tmp 32) (.con (.func 9 [] [])) [(.tmp 31),(.con (.int .i64 4))] (oCall (.tmp 33) (.con (.func 8 [] [])) [(.tmp 30),(.tmp 32)] (oVal (.tmp 6) (kMove (.tmp 33)) oNil)))))))))))))
def K3r7:OpsF:=(oVal (.tmp 34) (kMove (.tmp 6)) (oVal (.tmp 35) (kUn nilA (.tmp 34)) (oVal (.tmp 36) (kLoad none (.tmp 35)) (oVal (.tmp 7) (kMove (.tmp 36)) oNil))))
def K3r8:OpsF:=(oVal (.tmp 37) (kMove (.tmp 6)) (oVal (.tmp 38) (kMove (.tmp 3)) (oVal (.tmp 39) (kMove (.tmp 7)) (oVal (.tmp 40) (kInt aAdd (.tmp 39) (.con (.int .i64 1))) (oVal (.tmp 41) (kMove (.tmp 7)) (oVal (.tmp 42) (kInt aSub (.tmp 41) (.con (.int .i64 1))) (oVal (.tmp 43) (kFold maxA (.con (.int .i64 0)) [(.tmp 42)]) (oVal (.tmp 44) (kMove (.tmp 3)) (oCall (.tmp 45) (.con (.func 9 [] [])) [(.tmp 44),(.con (.int .i64 100001))] (oVal (.tmp 46) (kBuildSlice [(.int .i64 0),(.int .i64 0),(.int .i64 0)] 3 [(0,1,(.tmp 40)),(1,1,(.tmp 43)),(2,1,(.tmp 45))]) (oCall (.tmp 47) (.con (.func 10 [] [])) [(.tmp 38),(.tmp 46)] (oVal (.tmp 48) (kUn nilA (.tmp 37)) (oVal .none (kStore 1 (.tmp 48) (.tmp 47)) oNil)))))))))))))
def K3r9:OpsF:=(oVal (.tmp 50) (kLoad (some 3) (.tmp 4)) (oCall (.tmp 51) (.con (.func 11 [] [])) [(.tmp 50)] (oVal (.tmp 49) (kMove (.tmp 51)) (oVal (.tmp 52) (kUn (extA 0) (.tmp 49)) (oVal (.tmp 53) (kUn (extA 1) (.tmp 49)) (oVal (.tmp 8) (kMove (.tmp 52)) (oVal (.tmp 9) (kMove (.tmp 53)) oNil)))))))
def K3r10:OpsF:=(oVal (.tmp 55) (kLoad (some 3) (.tmp 5)) (oCall (.tmp 56) (.con (.func 11 [] [])) [(.tmp 55)] (oVal (.tmp 54) (kMove (.tmp 56)) (oVal (.tmp 57) (kUn (extA 0) (.tmp 54)) (oVal (.tmp 58) (kUn (extA 1) (.tmp 54)) (oVal (.tmp 10) (kMove (.tmp 57)) (oVal (.tmp 11) (kMove (.tmp 58)) oNil)))))))
def K3r11s17:OpsF:=(oVal (.tmp 76) (kPick (.tmp 73) (.con (.bool true)) (.tmp 75)) oNil)
def K3r11s16:OpsF:=(oIf 73 false (oVal (.tmp 75) (kInt aGeq (.tmp 74) (.con (.int .i64 9973))) K3r11s17) (oSkip (.tmp 75) K3r11s17))
def K3r11s13:OpsF:=(oVal (.tmp 72) (kPick (.tmp 69) (.con (.bool true)) (.tmp 71)) (oVal (.tmp 73) (kMove (.tmp 72)) (oIf 73 false (oVal (.tmp 74) (kMove (.tmp 8)) K3r11s16) (oSkip (.tmp 74) K3r11s16))))
def K3r11s12:OpsF:=(oIf 69 false (oVal (.tmp 71) (kInt aLss (.tmp 70) (.con (.int .i64 0))) K3r11s13) (oSkip (.tmp 71) K3r11s13))
def K3r11s9:OpsF:=(oVal (.tmp 68) (kPick (.tmp 61) (.con (.bool true)) (.tmp 67)) (oVal (.tmp 69) (kMove (.tmp 68)) (oIf 69 false (oVal (.tmp 70) (kMove (.tmp 8)) K3r11s12) (oSkip (.tmp 70) K3r11s12))))
def K3r11s8:OpsF:=(oIf 61 false (oVal (.tmp 67) (kPick (.tmp 64) (.tmp 66) (.con (.bool false))) K3r11s9) (oSkip (.tmp 67) K3r11s9))
def K3r11s7:OpsF:=(oIf 64 true (oVal (.tmp 66) (kInt aNeq (.tmp 65) (.con (.int .i64 5))) K3r11s8) (oSkip (.tmp 66) K3r11s8))
def K3r11s6:OpsF:=(oIf 64 true (oVal (.tmp 65) (kMove (.tmp 11)) K3r11s7) (oSkip (.tmp 65) K3r11s7))
def K3r11s5:OpsF:=(oIf 61 false (oVal (.tmp 64) (kMove (.tmp 63)) K3r11s6) (oSkip (.tmp 64) K3r11s6))
def K3r11s4:OpsF:=(oIf 61 false (oVal (.tmp 63) (kInt aNeq (.tmp 62) (.con (.int .i64 0))) K3r11s5) (oSkip (.tmp 63) K3r11s5))
def K3r11:OpsF:=(oVal (.tmp 59) (kMove (.tmp 9)) (oVal (.tmp 60) (kInt aNeq (.tmp 59) (.con (.int .i64 0))) (oVal (.tmp 61) (kMove (.tmp 60)) (oIf 61 false (oVal (.tmp 62) (kMove (.tmp 11)) K3r11s4) (oSkip (.tmp 62) K3r11s4)))))
def K3r12:OpsF:=(oVal (.tmp 2) (kMove (.con (.bool false))) oNil)
def K3r13s17:OpsF:=(oVal (.tmp 94) (kPick (.tmp 92) (.tmp 93) (.con (.bool false))) (oVal (.tmp 2) (kMove (.tmp 94)) oNil))
def K3r13s14:OpsF:=(oVal (.tmp 91) (kPick (.tmp 79) (.con (.bool true)) (.tmp 90)) (oVal (.tmp 92) (kMove (.tmp 91)) (oIf 92 true (oCall (.tmp 93) (.con (.func 6 [] [])) [] K3r13s17) (oSkip (.tmp 93) K3r13s17))))
def K3r13s13:OpsF:=(oIf 79 false (oVal (.tmp 90) (kEql .bool false (.tmp 82) (.tmp 89)) K3r13s14) (oSkip (.tmp 90) K3r13s14))
def K3r13s12:OpsF:=(oIf 79 false (oVal (.tmp 89) (kInt aEql (.tmp 88) (.con (.int .i64 0))) K3r13s13) (oSkip (.tmp 89) K3r13s13))
def K3r13s11:OpsF:=(oIf 79 false (oVal (.tmp 88) (kInt aRem (.tmp 87) (.con (.int .i64 9973))) K3r13s12) (oSkip (.tmp 88) K3r13s12))
def K3r13s10:OpsF:=(oIf 79 false (oVal (.tmp 87) (kInt aSub (.tmp 85) (.tmp 86)) K3r13s11) (oSkip (.tmp 87) K3r13s11))
def K3r13s9:OpsF:=(oIf 79 false (oVal (.tmp 86) (kMove (.tmp 7)) K3r13s10) (oSkip (.tmp 86) K3r13s10))
def K3r13s8:OpsF:=(oIf 79 false (oVal (.tmp 85) (kLoad none (.tmp 84)) K3r13s9) (oSkip (.tmp 85) K3r13s9))
def K3r13s7:OpsF:=(oIf 79 false (oVal (.tmp 84) (kUn nilA (.tmp 83)) K3r13s8) (oSkip (.tmp 84) K3r13s8))
def K3r13s6:OpsF:=(oIf 79 false (oVal (.tmp 83) (kMove (.tmp 6)) K3r13s7) (oSkip (.tmp 83) K3r13s7))
def K3r13s5:OpsF:=(oIf 79 false (oVal (.tmp 82) (kInt aEql (.tmp 80) (.tmp 81)) K3r13s6) (oSkip (.tmp 82) K3r13s6))
def K3r13s4:OpsF:=(oIf 79 false (oVal (.tmp 81) (kMove (.tmp 10)) K3r13s5) (oSkip (.tmp 81) K3r13s5))
def K3r13:OpsF:=(oVal (.tmp 77) (kMove (.tmp 11)) (oVal (.tmp 78) (kInt aNeq (.tmp 77) (.con (.int .i64 0))) (oVal (.tmp 79) (kMove (.tmp 78)) (oIf 79 false (oVal (.tmp 80) (kMove (.tmp 8)) K3r13s4) (oSkip (.tmp 80) K3r13s4)))))
theorem res3:Try.f3.results.toList=[.tmp 2]:=by kernel_rfl
def K8r0:OpsF:=(oVal (.tmp 4) (kMove (.con .nilptr)) oNil)
def K8r1:OpsF:=(oVal (.tmp 5) (kMove (.tmp 1)) oNil)
def K8r2:OpsF:=(oVal (.tmp 7) (kInt aEql (.tmp 5) (.con (.int .i64 0))) (oVal (.tmp 6) (kMove (.tmp 7)) oNil))
def K8r3:OpsF:=(oVal (.tmp 8) (kMove (.tmp 0)) (oVal (.tmp 9) (kUn nilA (.tmp 8)) (oVal (.tmp 10) (kUn (fadA 2) (.tmp 9)) (oVal (.tmp 11) (kUn (fadA 0) (.tmp 10)) (oVal (.tmp 4) (kMove (.tmp 11)) oNil)))))
def K8r4:OpsF:=(oVal (.tmp 13) (kInt aEql (.tmp 5) (.con (.int .i64 1))) (oVal (.tmp 12) (kMove (.tmp 13)) oNil))
def K8r5:OpsF:=(oVal (.tmp 14) (kMove (.tmp 0)) (oVal (.tmp 15) (kUn nilA (.tmp 14)) (oVal (.tmp 16) (kUn (fadA 2) (.tmp 15)) (oVal (.tmp 17) (kUn (fadA 1) (.tmp 16)) (oVal (.tmp 4) (kMove (.tmp 17)) oNil)))))
def K8r6:OpsF:=(oVal (.tmp 19) (kInt aEql (.tmp 5) (.con (.int .i64 2))) (oVal (.tmp 18) (kMove (.tmp 19)) oNil))
def K8r7:OpsF:=(oVal (.tmp 20) (kMove (.tmp 0)) (oVal (.tmp 21) (kUn nilA (.tmp 20)) (oVal (.tmp 22) (kUn (fadA 4) (.tmp 21)) (oVal (.tmp 23) (kUn (fadA 0) (.tmp 22)) (oVal (.tmp 4) (kMove (.tmp 23)) oNil)))))
def K8r8:OpsF:=(oVal (.tmp 24) (kMove (.tmp 0)) (oVal (.tmp 25) (kUn nilA (.tmp 24)) (oVal (.tmp 26) (kUn (fadA 4) (.tmp 25)) (oVal (.tmp 27) (kUn (fadA 1) (.tmp 26)) (oVal (.tmp 4) (kMove (.tmp 27)) oNil)))))
theorem res8:Try.f8.results.toList=[.tmp 4]:=by kernel_rfl
def K8:K:=(kSeq (kRegion K8r0 [4]) (kSeq (kSeq (kRegion K8r1 [5]) (kBlock 0 (kSeq (kRegion K8r2 [6]) (kCond (.tmp 6) (kSeq (kRegion K8r3 [4]) kRet) (kSeq (kRegion K8r4 [12]) (kCond (.tmp 12) (kSeq (kRegion K8r5 [4]) kRet) (kSeq (kRegion K8r6 [18]) (kCond (.tmp 18) (kSeq (kRegion K8r7 [4]) kRet) kSkip)))))))) (kSeq (kRegion K8r8 [4]) kRet)))
theorem enter8 (cl:CallF) (a0 a1:AV) (s:St):enterA Try.prog X cl 8 [a0,a1] s Try.f8=finA Try.prog Try.f8 (K8 cl ⟨8,none,Try.f8.ntmps,X 8⟩ (paramsEnv 0 [a0,a1] .nil) [] s) :=
  enterA_eq (b:=Try.f8.body.getD .skip) (by kernel_rfl) (by kernel_rfl) (by kernel_rfl) (by kernel_rfl) (by kernel_rfl)
end
end Go.Proofs.Ytkoaddhhnijdpaa.code
