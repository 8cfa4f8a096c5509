/- The code of functions as the interpreter has it, region by region. -/
import Derived.Test.YtoklbkgcclkejaaAbsTab
import Derived.Test.YtoklbkgcclkejaaAbsWalk
import Derived.KernelRfl
set_option maxRecDepth 100000
namespace Go.Proofs.Ytoklbkgcclkejaa.code
open Go.Abs
noncomputable section
def K51r0:zF:=(zC (.tmp 2) (zE (.con (.int .i64 0))) zK)
def K51r1:zF:=(zC (.tmp 3) (zE (.con (.int .i64 0))) zK)
def K51r2:zF:=(zC (.tmp 6) (zE (.tmp 0)) (zC (.tmp 7) (kUn jA (.tmp 6)) (zC (.tmp 8) (zE (.con (.int .i64 0))) zK)))
def K51r3:zF:=(zC (.tmp 9) (za yL (.tmp 8) (.tmp 7)) zK)
def K51r4:zF:=(zC (.tmp 10) (jG (jR 1) (.tmp 6) (.tmp 8)) (zC (.tmp 11) (zJ none (.tmp 10)) (zC (.tmp 5) (zE (.tmp 11)) zK)))
def K51r5:zF:=(zC (.tmp 12) (zE (.tmp 5)) (zC (.tmp 13) (zE (.tmp 3)) (zC (.tmp 14) (za vt (.tmp 12) (.tmp 13)) zK)))
def K51r6:zF:=(zC (.tmp 15) (zE (.tmp 5)) (zC (.tmp 2) (zE (.tmp 15)) zK))
def K51r7:zF:=(zC (.tmp 16) (za jH (.tmp 8) (.con (.int .i64 1))) (zC (.tmp 8) (zE (.tmp 16)) zK))
def K51l0:K:=(zG (zD K51r3 [9]) (zG (zv (.tmp 9) zw (jz 0)) (zG (zd 1 (zG (zD K51r4 [5]) (zG (zD K51r5 [14]) (zv (.tmp 14) (zG (zD K51r6 [2]) jI) zw)))) (zD K51r7 [8]))))
def K51r8:zF:=(zC (.tmp 17) (zE (.tmp 3)) (zC (.tmp 2) (zE (.tmp 17)) zK))
theorem res51:Try.f51.results.toList=[.tmp 2]:=by kernel_rfl
def K51:K:=(zG (zD K51r0 [2]) (zG (zD K51r1 [3]) (zG (zG (zD K51r2 [6,7,8]) (zd 0 (jx K51l0))) (zG (zD K51r8 [2]) jI))))
theorem enter51 (cl:zS) (a0:AV) (s:St):zj Try.prog X cl 51 [a0] s Try.f51=jh Try.prog Try.f51 (K51 cl ⟨51,none,Try.f51.ntmps,X 51⟩ (zQ 0 [a0] .nil) [] s) :=
  zX (b:=Try.f51.body.getD .skip) (by kernel_rfl) (by kernel_rfl) (by kernel_rfl) (by kernel_rfl) (by kernel_rfl)
def K62r0:zF:=(zC (.tmp 6) (zE (.con (.int .i64 0))) zK)
def K62r1:zF:=(zC (.tmp 8) (zE (.tmp 0)) (zC (.tmp 9) (zE (.tmp 1)) (zC (.tmp 10) (za yL (.tmp 8) (.tmp 9)) (zC (.tmp 7) (zE (.tmp 10)) zK))))
def K62r2:zF:=(zC (.tmp 6) (zE (.con (.int .i64 7))) zK)
def K62r3:zF:=(zC (.tmp 12) (zE (.tmp 0)) (zC (.tmp 13) (zE (.tmp 2)) (zC (.tmp 14) (YO (.tmp 12) (.tmp 13)) (zC (.tmp 11) (zE (.tmp 14)) zK))))
def K62r4:zF:=(zC (.tmp 6) (zE (.con (.int .i64 6))) zK)
def K62r5:zF:=(zC (.tmp 6) (zE (.con (.int .i64 0))) zK)
theorem res62:Try.f62.results.toList=[.tmp 6]:=by kernel_rfl
def K62:K:=(zG (zD K62r0 [6]) (zG (zd 0 (zG (zD K62r1 [7]) (zv (.tmp 7) (zG (zD K62r2 [6]) jI) (zG (zD K62r3 [11]) (zv (.tmp 11) (zG (zD K62r4 [6]) jI) zw))))) (zG (zD K62r5 [6]) jI)))
theorem enter62 (cl:zS) (a0 a1 a2:AV) (s:St):zj Try.prog X cl 62 [a0,a1,a2] s Try.f62=jh Try.prog Try.f62 (K62 cl ⟨62,none,Try.f62.ntmps,X 62⟩ (zQ 0 [a0,a1,a2] .nil) [] s) :=
  zX (b:=Try.f62.body.getD .skip) (by kernel_rfl) (by kernel_rfl) (by kernel_rfl) (by kernel_rfl) (by kernel_rfl)
def K102r0:zF:=(zC (.tmp 4) (zE (.con (.int .i64 0))) zK)
def K102r1s6:zF:=(zC (.tmp 11) (yN (.tmp 7) (.con (.bool true)) (.tmp 10)) zK)
def K102r1s5:zF:=(oIf 7 false (zC (.tmp 10) (za aGeq (.tmp 8) (.tmp 9)) K102r1s6) (zZ (.tmp 10) K102r1s6))
def K102r1s4:zF:=(oIf 7 false (zC (.tmp 9) (zE (.tmp 1)) K102r1s5) (zZ (.tmp 9) K102r1s5))
def K102r1:zF:=(zC (.tmp 5) (zE (.tmp 0)) (zC (.tmp 6) (za yL (.tmp 5) (.con (.int .i64 0))) (zC (.tmp 7) (zE (.tmp 6)) (oIf 7 false (zC (.tmp 8) (zE (.tmp 0)) K102r1s4) (zZ (.tmp 8) K102r1s4)))))
def K102r2:zF:=(zC (.tmp 4) (zE (.con (.int .i64 3))) zK)
def K102r3:zF:=(zC (.tmp 4) (zE (.con (.int .i64 0))) zK)
theorem res102:Try.f102.results.toList=[.tmp 4]:=by kernel_rfl
def K102:K:=(zG (zD K102r0 [4]) (zG (zG (zD K102r1 [11]) (zv (.tmp 11) (zG (zD K102r2 [4]) jI) zw)) (zG (zD K102r3 [4]) jI)))
theorem enter102 (cl:zS) (a0 a1:AV) (s:St):zj Try.prog X cl 102 [a0,a1] s Try.f102=jh Try.prog Try.f102 (K102 cl ⟨102,none,Try.f102.ntmps,X 102⟩ (zQ 0 [a0,a1] .nil) [] s) :=
  zX (b:=Try.f102.body.getD .skip) (by kernel_rfl) (by kernel_rfl) (by kernel_rfl) (by kernel_rfl) (by kernel_rfl)
def K95r0:zF:=(zC (.tmp 3) (yB (tag 44) (.tmp 0)) (zC (.tmp 6) (zE (.con (.int .i64 0))) zK))
def K95r1:zF:=(yM [] (zC (.tmp 8) (kUn (zY 0) (.tmp 3)) (zC (.tmp 9) (zJ none (.tmp 8)) (zC (.tmp 10) (zE (.tmp 1)) (zC (.tmp 11) (zE (.tmp 2)) (jf (some [13]) (.tmp 12) (.con (.func 77 [] [])) [(.tmp 9),(.tmp 10),(.tmp 11)] (zC (.tmp 13) (kUn (zY 1) (.tmp 3)) (zC (.tmp 14) (zJ none (.tmp 13)) (zC (.tmp 15) (zE (.tmp 1)) (zC (.tmp 16) (zE (.tmp 2)) (zz (.tmp 17) (.con (.func 77 [] [])) [(.tmp 14),(.tmp 15),(.tmp 16)] (zC (.tmp 18) (jB [(.int .i64 0),(.int .i64 0)] 2 [(0,1,(.tmp 12)),(1,1,(.tmp 17))]) (zz (.tmp 19) (.con (.func 51 [] [])) [(.tmp 18)] (zC (.tmp 7) (zE (.tmp 19)) zK))))))))))))))
def K95r2:zF:=(zC (.tmp 20) (zE (.tmp 7)) (zC (.tmp 21) (za vt (.tmp 20) (.con (.int .i64 0))) zK))
def K95r3:zF:=(zC (.tmp 22) (zE (.tmp 7)) (zC (.tmp 6) (zE (.tmp 22)) zK))
def K95r4:zF:=(zC (.tmp 23) (kUn (zY 0) (.tmp 3)) (zC (.tmp 24) (zJ none (.tmp 23)) (zC (.tmp 25) (kUn (zY 1) (.tmp 3)) (zC (.tmp 26) (zJ none (.tmp 25)) (zC (.tmp 27) (YO (.tmp 24) (.tmp 26)) zK)))))
def K95r5:zF:=(zC (.tmp 6) (zE (.con (.int .i64 5))) zK)
def K95r6:zF:=(zC (.tmp 6) (zE (.con (.int .i64 0))) zK)
theorem res95:Try.f95.results.toList=[.tmp 6]:=by kernel_rfl
def K95:K:=(zG (zD K95r0 [3,6]) (zG (zG (zr K95r1 [7]) (zG (zD K95r2 [21]) (zv (.tmp 21) (zG (zD K95r3 [6]) jI) zw))) (zG (zG (zD K95r4 [27]) (zv (.tmp 27) (zG (zD K95r5 [6]) jI) zw)) (zG (zD K95r6 [6]) jI))))
theorem enter95 (cl:zS) (a0 a1 a2:AV) (s:St):zj Try.prog X cl 95 [a0,a1,a2] s Try.f95=jh Try.prog Try.f95 (K95 cl ⟨95,none,Try.f95.ntmps,X 95⟩ (zQ 0 [a0,a1,a2] .nil) [] s) :=
  zX (b:=Try.f95.body.getD .skip) (by kernel_rfl) (by kernel_rfl) (by kernel_rfl) (by kernel_rfl) (by kernel_rfl)
def K77r0:zF:=(zC (.tmp 6) (zE (.con (.int .i64 0))) zK)
def K77r1s7:zF:=(zC (.tmp 14) (yN (.tmp 10) (.con (.bool true)) (.tmp 13)) zK)
def K77r1s6:zF:=(oIf 10 false (zC (.tmp 13) (YO (.tmp 11) (.tmp 12)) K77r1s7) (zZ (.tmp 13) K77r1s7))
def K77r1s5:zF:=(oIf 10 false (zC (.tmp 12) (zE (.tmp 2)) K77r1s6) (zZ (.tmp 12) K77r1s6))
def K77r1:zF:=(zC (.tmp 7) (zE (.tmp 0)) (zC (.tmp 8) (zE (.tmp 1)) (zC (.tmp 9) (za yL (.tmp 7) (.tmp 8)) (zC (.tmp 10) (zE (.tmp 9)) (oIf 10 false (zC (.tmp 11) (zE (.tmp 0)) K77r1s5) (zZ (.tmp 11) K77r1s5))))))
def K77r2:zF:=(zC (.tmp 6) (zE (.con (.int .i64 1))) zK)
def K77r3:zF:=(zC (.tmp 6) (zE (.con (.int .i64 0))) zK)
theorem res77:Try.f77.results.toList=[.tmp 6]:=by kernel_rfl
def K77:K:=(zG (zD K77r0 [6]) (zG (zG (zD K77r1 [14]) (zv (.tmp 14) (zG (zD K77r2 [6]) jI) zw)) (zG (zD K77r3 [6]) jI)))
theorem enter77 (cl:zS) (a0 a1 a2:AV) (s:St):zj Try.prog X cl 77 [a0,a1,a2] s Try.f77=jh Try.prog Try.f77 (K77 cl ⟨77,none,Try.f77.ntmps,X 77⟩ (zQ 0 [a0,a1,a2] .nil) [] s) :=
  zX (b:=Try.f77.body.getD .skip) (by kernel_rfl) (by kernel_rfl) (by kernel_rfl) (by kernel_rfl) (by kernel_rfl)
def K55r0:zF:=(zC (.tmp 1) (yB (tag 30) (.tmp 0)) (zC (.tmp 2) (zE (.con (.int .i64 0))) zK))
def K55r1:zF:=(yM [] (zC (.tmp 3) (kUn (zY 0) (.tmp 1)) (zC (.tmp 4) (zJ none (.tmp 3)) (jf (some [6,1,10,1,14,1,19]) (.tmp 5) (.con (.func 77 [] [])) [(.tmp 4),(.con (.int .i64 1)),(.con (.int .i64 6))] (zC (.tmp 6) (kUn (zY 1) (.tmp 1)) (zC (.tmp 7) (zJ none (.tmp 6)) (jf (some [1,10,1,14,1,19]) (.tmp 8) (.con (.func 77 [] [])) [(.tmp 7),(.con (.int .i64 1)),(.con (.int .i64 4))] (zC (.tmp 9) (zJ (some 8) (.tmp 1)) (zC (.tmp 10) (kUn (zY 2) (.tmp 1)) (zC (.tmp 11) (zJ none (.tmp 10)) (jf (some [1,14,1,19]) (.tmp 12) (.con (.func 78 [] [])) [(.tmp 9),(.tmp 11)] (zC (.tmp 13) (zJ (some 8) (.tmp 1)) (zC (.tmp 14) (kUn (zY 3) (.tmp 1)) (zC (.tmp 15) (zJ none (.tmp 14)) (jf (some [1,19]) (.tmp 16) (.con (.func 78 [] [])) [(.tmp 13),(.tmp 15)] (zC (.tmp 17) (zJ (some 8) (.tmp 1)) (jf (some [19]) (.tmp 18) (.con (.func 79 [] [])) [(.tmp 17)] (zC (.tmp 19) (kUn (zY 7) (.tmp 1)) (zC (.tmp 20) (zJ none (.tmp 19)) (zz (.tmp 21) (.con (.func 80 [] [])) [(.tmp 20)] (zC (.tmp 22) (jB [(.int .i64 0),(.int .i64 0),(.int .i64 0),(.int .i64 0),(.int .i64 0),(.int .i64 0)] 6 [(0,1,(.tmp 5)),(1,1,(.tmp 8)),(2,1,(.tmp 12)),(3,1,(.tmp 16)),(4,1,(.tmp 18)),(5,1,(.tmp 21))]) (zz (.tmp 23) (.con (.func 51 [] [])) [(.tmp 22)] (zC (.tmp 2) (zE (.tmp 23)) zK)))))))))))))))))))))))
theorem res55:Try.f55.results.toList=[.tmp 2]:=by kernel_rfl
def K55:K:=(zG (zD K55r0 [1,2]) (zG (zr K55r1 [2]) jI))
theorem enter55 (cl:zS) (a0:AV) (s:St):zj Try.prog X cl 55 [a0] s Try.f55=jh Try.prog Try.f55 (K55 cl ⟨55,none,Try.f55.ntmps,X 55⟩ (zQ 0 [a0] .nil) [] s) :=
  zX (b:=Try.f55.body.getD .skip) (by kernel_rfl) (by kernel_rfl) (by kernel_rfl) (by kernel_rfl) (by kernel_rfl)
def K78r0:zF:=(zC (.tmp 2) (yB (tag 30) (.tmp 0)) (zC (.tmp 4) (zE (.con (.int .i64 0))) zK))
def K78r1:zF:=(zC (.tmp 10) (zE (.tmp 1)) (zC (.tmp 11) (kUn jA (.tmp 10)) (zz (.tmp 12) (.con (.func 62 [] [])) [(.tmp 11),(.con (.int .i64 0)),(.con (.int .i64 24))] (zC (.tmp 5) (zE (.tmp 12)) zK))))
def K78r2:zF:=(zC (.tmp 13) (zE (.tmp 5)) (zC (.tmp 14) (za vt (.tmp 13) (.con (.int .i64 0))) zK))
def K78r3:zF:=(zC (.tmp 15) (zE (.tmp 5)) (zC (.tmp 4) (zE (.tmp 15)) zK))
def K78r4:zF:=(zC (.tmp 16) kMap (zC (.tmp 6) (zE (.tmp 16)) zK))
def K78r5:zF:=(zC (.tmp 17) (zE (.tmp 1)) (zC (.tmp 18) (kUn jA (.tmp 17)) (zC (.tmp 19) (zE (.con (.int .i64 0))) zK)))
def K78r6:zF:=(zC (.tmp 20) (za yL (.tmp 19) (.tmp 18)) zK)
def K78r7:zF:=(zC (.tmp 21) (jG (jR 2) (.tmp 17) (.tmp 19)) (zC (.tmp 22) (zJ (some 2) (.tmp 21)) (zC (.tmp 8) (jO [(.int .i64 0),(.int .i64 0)] (tag 27)) (zC .none (jC 2 (.tmp 8) (.tmp 22)) zK))))
def K78r8:zF:=(zC (.tmp 23) (zJ (some 8) (.tmp 2)) (zC (.tmp 24) (zJ (some 2) (.tmp 8)) (zz (.tmp 25) (.con (.func 92 [] [])) [(.tmp 23),(.tmp 24)] (zC (.tmp 9) (zE (.tmp 25)) zK))))
def K78r9:zF:=(zC (.tmp 26) (zE (.tmp 9)) (zC (.tmp 27) (za vt (.tmp 26) (.con (.int .i64 0))) zK))
def K78r10:zF:=(zC (.tmp 28) (zE (.tmp 9)) (zC (.tmp 4) (zE (.tmp 28)) zK))
def K78r11:zF:=(zC (.tmp 29) (zE (.tmp 6)) (zC (.tmp 30) (zJ (some 2) (.tmp 8)) (zC (.tmp 31) (kLook (.row [(0,none,.int),(1,none,.int)]) (.bool false) false (.tmp 29) (.tmp 30)) zK)))
def K78r12:zF:=(zC (.tmp 4) (zE (.con (.int .i64 4))) zK)
def K78r13:zF:=(zC (.tmp 32) (zE (.tmp 6)) (zC (.tmp 33) (zJ (some 2) (.tmp 8)) (zC .none (kUpd (.row [(0,none,.int),(1,none,.int)]) (.tmp 32) (.tmp 33) (.con (.bool true))) zK)))
def K78r14:zF:=(zC (.tmp 34) (za jH (.tmp 19) (.con (.int .i64 1))) (zC (.tmp 19) (zE (.tmp 34)) zK))
def K78l0:K:=(zG (zD K78r6 [20]) (zG (zv (.tmp 20) zw (jz 0)) (zG (zd 1 (zG (zD K78r7 [8]) (zG (zG (zD K78r8 [9]) (zG (zD K78r9 [27]) (zv (.tmp 27) (zG (zD K78r10 [4]) jI) zw))) (zG (zG (zD K78r11 [31]) (zv (.tmp 31) (zG (zD K78r12 [4]) jI) zw)) (zD K78r13 []))))) (zD K78r14 [19]))))
def K78r15:zF:=(zC (.tmp 4) (zE (.con (.int .i64 0))) zK)
theorem res78:Try.f78.results.toList=[.tmp 4]:=by kernel_rfl
def K78:K:=(zG (zD K78r0 [2,4]) (zG (zG (zD K78r1 [5]) (zG (zD K78r2 [14]) (zv (.tmp 14) (zG (zD K78r3 [4]) jI) zw))) (zG (zD K78r4 [6]) (zG (zG (zD K78r5 [17,18,19]) (zd 0 (jx K78l0))) (zG (zD K78r15 [4]) jI)))))
theorem enter78 (cl:zS) (a0 a1:AV) (s:St):zj Try.prog X cl 78 [a0,a1] s Try.f78=jh Try.prog Try.f78 (K78 cl ⟨78,none,Try.f78.ntmps,X 78⟩ (zQ 0 [a0,a1] .nil) [] s) :=
  zX (b:=Try.f78.body.getD .skip) (by kernel_rfl) (by kernel_rfl) (by kernel_rfl) (by kernel_rfl) (by kernel_rfl)
def K92r0:zF:=(zC (.tmp 2) (yB (tag 30) (.tmp 0)) (zC (.tmp 3) (yB (tag 27) (.tmp 1)) (zC (.tmp 4) (zE (.con (.int .i64 0))) zK)))
def K92r1:zF:=(yM [] (zC (.tmp 5) (kUn (zY 0) (.tmp 3)) (zC (.tmp 6) (zJ none (.tmp 5)) (zC (.tmp 7) (kUn (zY 0) (.tmp 2)) (zC (.tmp 8) (zJ none (.tmp 7)) (jf (some [10,12]) (.tmp 9) (.con (.func 102 [] [])) [(.tmp 6),(.tmp 8)] (zC (.tmp 10) (kUn (zY 1) (.tmp 3)) (zC (.tmp 11) (zJ none (.tmp 10)) (zC (.tmp 12) (kUn (zY 1) (.tmp 2)) (zC (.tmp 13) (zJ none (.tmp 12)) (zz (.tmp 14) (.con (.func 102 [] [])) [(.tmp 11),(.tmp 13)] (zC (.tmp 15) (jB [(.int .i64 0),(.int .i64 0)] 2 [(0,1,(.tmp 9)),(1,1,(.tmp 14))]) (zz (.tmp 16) (.con (.func 51 [] [])) [(.tmp 15)] (zC (.tmp 4) (zE (.tmp 16)) zK))))))))))))))
theorem res92:Try.f92.results.toList=[.tmp 4]:=by kernel_rfl
def K92:K:=(zG (zD K92r0 [2,3,4]) (zG (zr K92r1 [4]) jI))
theorem enter92 (cl:zS) (a0 a1:AV) (s:St):zj Try.prog X cl 92 [a0,a1] s Try.f92=jh Try.prog Try.f92 (K92 cl ⟨92,none,Try.f92.ntmps,X 92⟩ (zQ 0 [a0,a1] .nil) [] s) :=
  zX (b:=Try.f92.body.getD .skip) (by kernel_rfl) (by kernel_rfl) (by kernel_rfl) (by kernel_rfl) (by kernel_rfl)
def K79r0:zF:=(zC (.tmp 1) (yB (tag 30) (.tmp 0)) (zC (.tmp 2) (zE (.con (.int .i64 0))) zK))
def K79r1:zF:=(yM [] (zC (.tmp 7) (kUn (zY 4) (.tmp 1)) (zC (.tmp 8) (kUn (zY 0) (.tmp 7)) (zC (.tmp 9) (zJ none (.tmp 8)) (zC (.tmp 10) (kUn (zY 0) (.tmp 1)) (zC (.tmp 11) (zJ none (.tmp 10)) (jf (some [14,16]) (.tmp 12) (.con (.func 77 [] [])) [(.tmp 9),(.con (.int .i64 1)),(.tmp 11)] (zC (.tmp 13) (kUn (zY 4) (.tmp 1)) (zC (.tmp 14) (kUn (zY 1) (.tmp 13)) (zC (.tmp 15) (zJ none (.tmp 14)) (zC (.tmp 16) (kUn (zY 1) (.tmp 1)) (zC (.tmp 17) (zJ none (.tmp 16)) (zz (.tmp 18) (.con (.func 77 [] [])) [(.tmp 15),(.con (.int .i64 1)),(.tmp 17)] (zC (.tmp 19) (jB [(.int .i64 0),(.int .i64 0)] 2 [(0,1,(.tmp 12)),(1,1,(.tmp 18))]) (zz (.tmp 20) (.con (.func 51 [] [])) [(.tmp 19)] (zC (.tmp 3) (zE (.tmp 20)) zK))))))))))))))))
def K79r2:zF:=(zC (.tmp 21) (zE (.tmp 3)) (zC (.tmp 22) (za vt (.tmp 21) (.con (.int .i64 0))) zK))
def K79r3:zF:=(zC (.tmp 23) (zE (.tmp 3)) (zC (.tmp 2) (zE (.tmp 23)) zK))
def K79r4:zF:=(yM [] (zC (.tmp 24) (kUn (zY 6) (.tmp 1)) (zC (.tmp 25) (zJ none (.tmp 24)) (zC (.tmp 26) (kUn jA (.tmp 25)) (zC (.tmp 27) (zJ (some 8) (.tmp 1)) (jf (some [24,25]) (.tmp 28) (.con (.func 94 [] [])) [(.tmp 27)] (zC (.tmp 29) (za vt (.tmp 26) (.tmp 28)) zK)))))))
def K79r5:zF:=(zC (.tmp 2) (zE (.con (.int .i64 2))) zK)
def K79r6:zF:=(zC (.tmp 30) (kUn (zY 6) (.tmp 1)) (zC (.tmp 31) (zJ none (.tmp 30)) (zC (.tmp 32) (kUn jA (.tmp 31)) (zC (.tmp 33) (zE (.con (.int .i64 0))) zK))))
def K79r7:zF:=(zC (.tmp 34) (za yL (.tmp 33) (.tmp 32)) zK)
def K79r8:zF:=(zC (.tmp 35) (jG (jR 1) (.tmp 31) (.tmp 33)) (zC (.tmp 36) (zJ none (.tmp 35)) (zC (.tmp 5) (zE (.tmp 36)) zK)))
def K79r9:zF:=(zC (.tmp 37) (zE (.tmp 5)) (zz (.tmp 38) (.con (.func 77 [] [])) [(.tmp 37),(.con (.int .i64 0)),(.con (.int .i64 10000000))] (zC (.tmp 6) (zE (.tmp 38)) zK)))
def K79r10:zF:=(zC (.tmp 39) (zE (.tmp 6)) (zC (.tmp 40) (za vt (.tmp 39) (.con (.int .i64 0))) zK))
def K79r11:zF:=(zC (.tmp 41) (zE (.tmp 6)) (zC (.tmp 2) (zE (.tmp 41)) zK))
def K79r12:zF:=(zC (.tmp 42) (za jH (.tmp 33) (.con (.int .i64 1))) (zC (.tmp 33) (zE (.tmp 42)) zK))
def K79l0:K:=(zG (zD K79r7 [34]) (zG (zv (.tmp 34) zw (jz 0)) (zG (zd 1 (zG (zD K79r8 [5]) (zG (zD K79r9 [6]) (zG (zD K79r10 [40]) (zv (.tmp 40) (zG (zD K79r11 [2]) jI) zw))))) (zD K79r12 [33]))))
def K79r13:zF:=(zC (.tmp 2) (zE (.con (.int .i64 0))) zK)
theorem res79:Try.f79.results.toList=[.tmp 2]:=by kernel_rfl
def K79:K:=(zG (zD K79r0 [1,2]) (zG (zG (zr K79r1 [3]) (zG (zD K79r2 [22]) (zv (.tmp 22) (zG (zD K79r3 [2]) jI) zw))) (zG (zG (zr K79r4 [29]) (zv (.tmp 29) (zG (zD K79r5 [2]) jI) zw)) (zG (zG (zD K79r6 [31,32,33]) (zd 0 (jx K79l0))) (zG (zD K79r13 [2]) jI)))))
theorem enter79 (cl:zS) (a0:AV) (s:St):zj Try.prog X cl 79 [a0] s Try.f79=jh Try.prog Try.f79 (K79 cl ⟨79,none,Try.f79.ntmps,X 79⟩ (zQ 0 [a0] .nil) [] s) :=
  zX (b:=Try.f79.body.getD .skip) (by kernel_rfl) (by kernel_rfl) (by kernel_rfl) (by kernel_rfl) (by kernel_rfl)
def K94r0:zF:=(zC (.tmp 1) (yB (tag 30) (.tmp 0)) (zC (.tmp 2) (zE (.con (.int .i64 0))) zK))
def K94r1:zF:=(yM [] (zC (.tmp 3) (zJ (some 8) (.tmp 1)) (jf (some [5,8,13]) (.tmp 4) (.con (.func 91 [] [])) [(.tmp 3)] (zC (.tmp 5) (kUn (zY 1) (.tmp 1)) (zC (.tmp 6) (zJ none (.tmp 5)) (zC (.tmp 7) (kUn (zY 4) (.tmp 1)) (zC (.tmp 8) (kUn (zY 1) (.tmp 7)) (zC (.tmp 9) (zJ none (.tmp 8)) (zC (.tmp 10) (za jH (.tmp 6) (.tmp 9)) (zC (.tmp 11) (za yl (.tmp 10) (.con (.int .i64 1))) (zC (.tmp 12) (kUn (zY 4) (.tmp 1)) (zC (.tmp 13) (kUn (zY 1) (.tmp 12)) (zC (.tmp 14) (zJ none (.tmp 13)) (zC (.tmp 15) (za Yf (.tmp 11) (.tmp 14)) (zC (.tmp 16) (za aMul (.tmp 4) (.tmp 15)) (zC (.tmp 2) (zE (.tmp 16)) zK))))))))))))))))
theorem res94:Try.f94.results.toList=[.tmp 2]:=by kernel_rfl
def K94:K:=(zG (zD K94r0 [1,2]) (zG (zr K94r1 [2]) jI))
theorem enter94 (cl:zS) (a0:AV) (s:St):zj Try.prog X cl 94 [a0] s Try.f94=jh Try.prog Try.f94 (K94 cl ⟨94,none,Try.f94.ntmps,X 94⟩ (zQ 0 [a0] .nil) [] s) :=
  zX (b:=Try.f94.body.getD .skip) (by kernel_rfl) (by kernel_rfl) (by kernel_rfl) (by kernel_rfl) (by kernel_rfl)
def K91r0:zF:=(zC (.tmp 1) (yB (tag 30) (.tmp 0)) (zC (.tmp 2) (zE (.con (.int .i64 0))) zK))
def K91r1:zF:=(zC (.tmp 3) (kUn (zY 0) (.tmp 1)) (zC (.tmp 4) (zJ none (.tmp 3)) (zC (.tmp 5) (kUn (zY 4) (.tmp 1)) (zC (.tmp 6) (kUn (zY 0) (.tmp 5)) (zC (.tmp 7) (zJ none (.tmp 6)) (zC (.tmp 8) (za jH (.tmp 4) (.tmp 7)) (zC (.tmp 9) (za yl (.tmp 8) (.con (.int .i64 1))) (zC (.tmp 10) (kUn (zY 4) (.tmp 1)) (zC (.tmp 11) (kUn (zY 0) (.tmp 10)) (zC (.tmp 12) (zJ none (.tmp 11)) (zC (.tmp 13) (za Yf (.tmp 9) (.tmp 12)) (zC (.tmp 2) (zE (.tmp 13)) zK))))))))))))
theorem res91:Try.f91.results.toList=[.tmp 2]:=by kernel_rfl
def K91:K:=(zG (zD K91r0 [1,2]) (zG (zD K91r1 [2]) jI))
theorem enter91 (cl:zS) (a0:AV) (s:St):zj Try.prog X cl 91 [a0] s Try.f91=jh Try.prog Try.f91 (K91 cl ⟨91,none,Try.f91.ntmps,X 91⟩ (zQ 0 [a0] .nil) [] s) :=
  zX (b:=Try.f91.body.getD .skip) (by kernel_rfl) (by kernel_rfl) (by kernel_rfl) (by kernel_rfl) (by kernel_rfl)
def K80r0:zF:=(zC (.tmp 2) (zE (.con (.int .i64 0))) zK)
def K80r1:zF:=(zC (.tmp 7) (zE (.tmp 0)) (zC (.tmp 8) (kUn jA (.tmp 7)) (zz (.tmp 9) (.con (.func 62 [] [])) [(.tmp 8),(.con (.int .i64 1)),(.con (.int .i64 6))] (zC (.tmp 3) (zE (.tmp 9)) zK))))
def K80r2:zF:=(zC (.tmp 10) (zE (.tmp 3)) (zC (.tmp 11) (za vt (.tmp 10) (.con (.int .i64 0))) zK))
def K80r3:zF:=(zC (.tmp 12) (zE (.tmp 3)) (zC (.tmp 2) (zE (.tmp 12)) zK))
def K80r4:zF:=(zC (.tmp 13) (zE (.tmp 0)) (zC (.tmp 14) (kUn jA (.tmp 13)) (zC (.tmp 15) (zE (.con (.int .i64 0))) zK)))
def K80r5:zF:=(zC (.tmp 16) (za yL (.tmp 15) (.tmp 14)) zK)
def K80r6:zF:=(zC (.tmp 17) (jG (jR 6) (.tmp 13) (.tmp 15)) (zC (.tmp 18) (zJ (some 6) (.tmp 17)) (zC (.tmp 5) (jO [(.int .i64 0),(.int .i64 0),(.bool false),.nilslice,(.int .i64 0),(.int .i64 0)] (tag 49)) (zC .none (jC 6 (.tmp 5) (.tmp 18)) zK))))
def K80r7:zF:=(yM [] (zC (.tmp 19) (kUn (zY 0) (.tmp 5)) (zC (.tmp 20) (zJ (some 2) (.tmp 19)) (jf (some [22,24,27,30]) (.tmp 21) (.con (.func 95 [] [])) [(.tmp 20),(.con (.int .i64 0)),(.con (.int .i64 1000000))] (zC (.tmp 22) (kUn (zY 3) (.tmp 5)) (zC (.tmp 23) (zJ none (.tmp 22)) (zC (.tmp 24) (zE (.tmp 0)) (zC (.tmp 25) (kUn jA (.tmp 24)) (jf (some [27,30]) (.tmp 26) (.con (.func 96 [] [])) [(.tmp 23),(.tmp 25)] (zC (.tmp 27) (kUn (zY 4) (.tmp 5)) (zC (.tmp 28) (zJ none (.tmp 27)) (jf (some [30]) (.tmp 29) (.con (.func 77 [] [])) [(.tmp 28),(.con (.int .i64 0)),(.con (.int .i64 1000000))] (zC (.tmp 30) (kUn (zY 5) (.tmp 5)) (zC (.tmp 31) (zJ none (.tmp 30)) (zz (.tmp 32) (.con (.func 77 [] [])) [(.tmp 31),(.con (.int .i64 0)),(.con (.int .i64 24))] (zC (.tmp 33) (jB [(.int .i64 0),(.int .i64 0),(.int .i64 0),(.int .i64 0)] 4 [(0,1,(.tmp 21)),(1,1,(.tmp 26)),(2,1,(.tmp 29)),(3,1,(.tmp 32))]) (zz (.tmp 34) (.con (.func 51 [] [])) [(.tmp 33)] (zC (.tmp 6) (zE (.tmp 34)) zK))))))))))))))))))
def K80r8:zF:=(zC (.tmp 35) (zE (.tmp 6)) (zC (.tmp 36) (za vt (.tmp 35) (.con (.int .i64 0))) zK))
def K80r9:zF:=(zC (.tmp 37) (zE (.tmp 6)) (zC (.tmp 2) (zE (.tmp 37)) zK))
def K80r10:zF:=(zC (.tmp 38) (za jH (.tmp 15) (.con (.int .i64 1))) (zC (.tmp 15) (zE (.tmp 38)) zK))
def K80l0:K:=(zG (zD K80r5 [16]) (zG (zv (.tmp 16) zw (jz 0)) (zG (zd 1 (zG (zD K80r6 [5]) (zG (zr K80r7 [6]) (zG (zD K80r8 [36]) (zv (.tmp 36) (zG (zD K80r9 [2]) jI) zw))))) (zD K80r10 [15]))))
def K80r11:zF:=(zC (.tmp 2) (zE (.con (.int .i64 0))) zK)
theorem res80:Try.f80.results.toList=[.tmp 2]:=by kernel_rfl
def K80:K:=(zG (zD K80r0 [2]) (zG (zG (zD K80r1 [3]) (zG (zD K80r2 [11]) (zv (.tmp 11) (zG (zD K80r3 [2]) jI) zw))) (zG (zG (zD K80r4 [13,14,15]) (zd 0 (jx K80l0))) (zG (zD K80r11 [2]) jI))))
theorem enter80 (cl:zS) (a0:AV) (s:St):zj Try.prog X cl 80 [a0] s Try.f80=jh Try.prog Try.f80 (K80 cl ⟨80,none,Try.f80.ntmps,X 80⟩ (zQ 0 [a0] .nil) [] s) :=
  zX (b:=Try.f80.body.getD .skip) (by kernel_rfl) (by kernel_rfl) (by kernel_rfl) (by kernel_rfl) (by kernel_rfl)
def K96r0:zF:=(zC (.tmp 4) (zE (.con (.int .i64 0))) zK)
def K96r1:zF:=(zC (.tmp 8) (zE (.tmp 0)) (zC (.tmp 9) (kUn jA (.tmp 8)) (zC (.tmp 10) (zE (.tmp 1)) (zC (.tmp 11) (za vt (.tmp 9) (.tmp 10)) zK))))
def K96r2:zF:=(zC (.tmp 4) (zE (.con (.int .i64 2))) zK)
def K96r3:zF:=(zC (.tmp 12) (zE (.tmp 0)) (zC (.tmp 13) (kUn jA (.tmp 12)) (zC (.tmp 14) (zE (.con (.int .i64 0))) zK)))
def K96r4:zF:=(zC (.tmp 15) (za yL (.tmp 14) (.tmp 13)) zK)
def K96r5:zF:=(zC (.tmp 16) (jG (jR 1) (.tmp 12) (.tmp 14)) (zC (.tmp 17) (zJ none (.tmp 16)) (zC (.tmp 6) (zE (.tmp 17)) zK)))
def K96r6:zF:=(zC (.tmp 18) (zE (.tmp 6)) (zz (.tmp 19) (.con (.func 77 [] [])) [(.tmp 18),(.con (.int .i64 0)),(.con (.int .i64 9))] (zC (.tmp 7) (zE (.tmp 19)) zK)))
def K96r7:zF:=(zC (.tmp 20) (zE (.tmp 7)) (zC (.tmp 21) (za vt (.tmp 20) (.con (.int .i64 0))) zK))
def K96r8:zF:=(zC (.tmp 22) (zE (.tmp 7)) (zC (.tmp 4) (zE (.tmp 22)) zK))
def K96r9:zF:=(zC (.tmp 23) (za jH (.tmp 14) (.con (.int .i64 1))) (zC (.tmp 14) (zE (.tmp 23)) zK))
def K96l0:K:=(zG (zD K96r4 [15]) (zG (zv (.tmp 15) zw (jz 0)) (zG (zd 1 (zG (zD K96r5 [6]) (zG (zD K96r6 [7]) (zG (zD K96r7 [21]) (zv (.tmp 21) (zG (zD K96r8 [4]) jI) zw))))) (zD K96r9 [14]))))
def K96r10:zF:=(zC (.tmp 4) (zE (.con (.int .i64 0))) zK)
theorem res96:Try.f96.results.toList=[.tmp 4]:=by kernel_rfl
def K96:K:=(zG (zD K96r0 [4]) (zG (zG (zD K96r1 [11]) (zv (.tmp 11) (zG (zD K96r2 [4]) jI) zw)) (zG (zG (zD K96r3 [12,13,14]) (zd 0 (jx K96l0))) (zG (zD K96r10 [4]) jI))))
theorem enter96 (cl:zS) (a0 a1:AV) (s:St):zj Try.prog X cl 96 [a0,a1] s Try.f96=jh Try.prog Try.f96 (K96 cl ⟨96,none,Try.f96.ntmps,X 96⟩ (zQ 0 [a0,a1] .nil) [] s) :=
  zX (b:=Try.f96.body.getD .skip) (by kernel_rfl) (by kernel_rfl) (by kernel_rfl) (by kernel_rfl) (by kernel_rfl)
def K52r0:zF:=(zC (.tmp 2) (yB (tag 30) (.tmp 0)) (zC (.tmp 4) (zE (.con (.int .i64 0))) zK))
def K52r1s8:zF:=(zC (.tmp 13) (yN (.tmp 7) (.con (.bool true)) (.tmp 12)) zK)
def K52r1s7:zF:=(oIf 7 false (zC (.tmp 12) (za aGeq (.tmp 8) (.tmp 11)) K52r1s8) (zZ (.tmp 12) K52r1s8))
def K52r1s6:zF:=(oIf 7 false (zC (.tmp 11) (kUn jA (.tmp 10)) K52r1s7) (zZ (.tmp 11) K52r1s7))
def K52r1s5:zF:=(oIf 7 false (zC (.tmp 10) (zJ none (.tmp 9)) K52r1s6) (zZ (.tmp 10) K52r1s6))
def K52r1s4:zF:=(oIf 7 false (zC (.tmp 9) (kUn (zY 7) (.tmp 2)) K52r1s5) (zZ (.tmp 9) K52r1s5))
def K52r1:zF:=(zC (.tmp 5) (zE (.tmp 1)) (zC (.tmp 6) (za yL (.tmp 5) (.con (.int .i64 0))) (zC (.tmp 7) (zE (.tmp 6)) (oIf 7 false (zC (.tmp 8) (zE (.tmp 1)) K52r1s4) (zZ (.tmp 8) K52r1s4)))))
def K52r2:zF:=(zC (.tmp 4) (zE (.con (.int .i64 8))) zK)
def K52r3:zF:=(zC (.tmp 4) (zE (.con (.int .i64 0))) zK)
theorem res52:Try.f52.results.toList=[.tmp 4]:=by kernel_rfl
def K52:K:=(zG (zD K52r0 [2,4]) (zG (zG (zD K52r1 [13]) (zv (.tmp 13) (zG (zD K52r2 [4]) jI) zw)) (zG (zD K52r3 [4]) jI)))
theorem enter52 (cl:zS) (a0 a1:AV) (s:St):zj Try.prog X cl 52 [a0,a1] s Try.f52=jh Try.prog Try.f52 (K52 cl ⟨52,none,Try.f52.ntmps,X 52⟩ (zQ 0 [a0,a1] .nil) [] s) :=
  zX (b:=Try.f52.body.getD .skip) (by kernel_rfl) (by kernel_rfl) (by kernel_rfl) (by kernel_rfl) (by kernel_rfl)
end
end Go.Proofs.Ytoklbkgcclkejaa.code
set_option maxRecDepth 100000
namespace Go.Proofs.Ytoklbkgcclkejaa.code
open Go.Abs
noncomputable section
def K43r0:zF:=(zC (.tmp 2) (yB (tag 30) (.tmp 0)) (zC (.tmp 4) (zE (.con (.int .i64 0))) zK))
def K43r1:zF:=(zC (.tmp 12) (zJ (some 8) (.tmp 2)) (zz (.tmp 13) (.con (.func 55 [] [])) [(.tmp 12)] (zC (.tmp 14) (zE (.tmp 1)) (zC (.tmp 15) (kUn jA (.tmp 14)) (zz (.tmp 16) (.con (.func 62 [] [])) [(.tmp 15),(.con (.int .i64 0)),(.con (.int .i64 24))] (zC (.tmp 17) (jB [(.int .i64 0),(.int .i64 0)] 2 [(0,1,(.tmp 13)),(1,1,(.tmp 16))]) (zz (.tmp 18) (.con (.func 51 [] [])) [(.tmp 17)] (zC (.tmp 5) (zE (.tmp 18)) zK))))))))
def K43r2:zF:=(zC (.tmp 19) (zE (.tmp 5)) (zC (.tmp 20) (za vt (.tmp 19) (.con (.int .i64 0))) zK))
def K43r3:zF:=(zC (.tmp 21) (zE (.tmp 5)) (zC (.tmp 4) (zE (.tmp 21)) zK))
def K43r4:zF:=(zC (.tmp 22) (zJ (some 8) (.tmp 2)) (zz (.tmp 23) (.con (.func 44 [] [])) [(.tmp 22)] (zC (.tmp 6) (zE (.tmp 23)) zK)))
def K43r5:zF:=(zC (.tmp 24) (zE (.tmp 1)) (zC (.tmp 25) (kUn jA (.tmp 24)) (zC (.tmp 26) (zE (.con (.int .i64 0))) zK)))
def K43r6:zF:=(zC (.tmp 27) (za yL (.tmp 26) (.tmp 25)) zK)
def K43r7:zF:=(zC (.tmp 28) (zE (.tmp 26)) (zC (.tmp 29) (jG (jR 3) (.tmp 24) (.tmp 26)) (zC (.tmp 30) (zJ (some 3) (.tmp 29)) (zC (.tmp 8) (jO [(.int .i64 0),(.int .i64 0),(.int .i64 0)] (tag 51)) (zC (.tmp 7) (zE (.tmp 28)) (zC .none (jC 3 (.tmp 8) (.tmp 30)) zK))))))
def K43r8:zF:=(yM [] (zC (.tmp 31) (zE (.tmp 6)) (zC (.tmp 32) (zE (.tmp 1)) (zC (.tmp 33) (zE (.tmp 7)) (zC (.tmp 34) (Zo (yS 3) (.tmp 32) none (some (.tmp 33))) (zC (.tmp 35) (zJ (some 3) (.tmp 8)) (zz (.tmp 36) (.con (.func 63 [] [])) [(.tmp 31),(.tmp 34),(.tmp 35)] (zC (.tmp 9) (zE (.tmp 36)) zK))))))))
def K43r9:zF:=(zC (.tmp 37) (zE (.tmp 9)) (zC (.tmp 38) (za vt (.tmp 37) (.con (.int .i64 0))) zK))
def K43r10:zF:=(zC (.tmp 39) (zE (.tmp 9)) (zC (.tmp 4) (zE (.tmp 39)) zK))
def K43r11:zF:=(zC (.tmp 40) (za jH (.tmp 26) (.con (.int .i64 1))) (zC (.tmp 26) (zE (.tmp 40)) zK))
def K43l0:K:=(zG (zD K43r6 [27]) (zG (zv (.tmp 27) zw (jz 0)) (zG (zd 1 (zG (zD K43r7 [8,7]) (zG (zr K43r8 [9]) (zG (zD K43r9 [38]) (zv (.tmp 38) (zG (zD K43r10 [4]) jI) zw))))) (zD K43r11 [26]))))
def K43r12:zF:=(zC (.tmp 41) (kUn (zY 7) (.tmp 2)) (zC (.tmp 42) (zJ none (.tmp 41)) (zC (.tmp 43) (kUn jA (.tmp 42)) (zC (.tmp 44) (zE (.con (.int .i64 0))) zK))))
def K43r13:zF:=(zC (.tmp 45) (za yL (.tmp 44) (.tmp 43)) zK)
def K43r14:zF:=(zC (.tmp 46) (zE (.tmp 44)) (zC (.tmp 47) (jG (jR 6) (.tmp 42) (.tmp 44)) (zC (.tmp 48) (zJ (some 6) (.tmp 47)) (zC (.tmp 11) (jO [(.int .i64 0),(.int .i64 0),(.bool false),.nilslice,(.int .i64 0),(.int .i64 0)] (tag 49)) (zC (.tmp 10) (zE (.tmp 46)) (zC .none (jC 6 (.tmp 11) (.tmp 48)) zK))))))
def K43r15:zF:=(yM [] (zC (.tmp 49) (zE (.tmp 1)) (zC (.tmp 50) (zE (.tmp 10)) (jf (some [52]) (.tmp 51) (.con (.func 64 [] [])) [(.tmp 49),(.tmp 50)] (zC (.tmp 52) (kUn (zY 5) (.tmp 11)) (zC (.tmp 53) (zJ none (.tmp 52)) (zC (.tmp 54) (YO (.tmp 51) (.tmp 53)) zK)))))))
def K43r16:zF:=(zC (.tmp 4) (zE (.con (.int .i64 13))) zK)
def K43r17:zF:=(zC (.tmp 55) (za jH (.tmp 44) (.con (.int .i64 1))) (zC (.tmp 44) (zE (.tmp 55)) zK))
def K43l1:K:=(zG (zD K43r13 [45]) (zG (zv (.tmp 45) zw (jz 2)) (zG (zd 3 (zG (zD K43r14 [11,10]) (zG (zr K43r15 [54]) (zv (.tmp 54) (zG (zD K43r16 [4]) jI) zw)))) (zD K43r17 [44]))))
def K43r18:zF:=(zC (.tmp 4) (zE (.con (.int .i64 0))) zK)
theorem res43:Try.f43.results.toList=[.tmp 4]:=by kernel_rfl
def K43:K:=(zG (zD K43r0 [2,4]) (zG (zG (zD K43r1 [5]) (zG (zD K43r2 [20]) (zv (.tmp 20) (zG (zD K43r3 [4]) jI) zw))) (zG (zD K43r4 [6]) (zG (zG (zD K43r5 [24,25,26]) (zd 0 (jx K43l0))) (zG (zG (zD K43r12 [42,43,44]) (zd 2 (jx K43l1))) (zG (zD K43r18 [4]) jI))))))
theorem enter43 (cl:zS) (a0 a1:AV) (s:St):zj Try.prog X cl 43 [a0,a1] s Try.f43=jh Try.prog Try.f43 (K43 cl ⟨43,none,Try.f43.ntmps,X 43⟩ (zQ 0 [a0,a1] .nil) [] s) :=
  zX (b:=Try.f43.body.getD .skip) (by kernel_rfl) (by kernel_rfl) (by kernel_rfl) (by kernel_rfl) (by kernel_rfl)
def K44r0:zF:=(zC (.tmp 1) (yB (tag 30) (.tmp 0)) (zC (.tmp 2) (zE (.con .nilptr)) zK))
def K44r1:zF:=(yM [] (zC (.tmp 4) (zJ (some 8) (.tmp 1)) (zC (.tmp 5) (zJ (some 8) (.tmp 1)) (jf (some [1]) (.tmp 6) (.con (.func 65 [] [])) [(.tmp 5)] (zC (.tmp 7) (yR [(.int .i64 0),(.int .i64 0),.nilslice,.nilslice,(.int .i64 0),(.int .i64 0),.nilslice,.nilslice,(.bool false),(.bool false),(.int .i64 0),(.bool false),(.bool false),(.int .i64 0),(.bool false),(.bool false),(.int .i64 0),(.bool false),(.bool false),(.int .i64 0),(.bool false),(.bool false),(.int .i64 0),(.bool false),(.bool false),(.int .i64 0),(.bool false),(.bool false),(.int .i64 0),(.bool false),(.bool false),(.int .i64 0),(.bool false),(.bool false),(.int .i64 0),(.bool false),(.bool false),(.int .i64 0),(.bool false),(.bool false),(.int .i64 0),(.bool false),(.bool false),(.int .i64 0),(.bool false),(.bool false),(.int .i64 0),(.bool false),(.bool false),(.int .i64 0),(.bool false),(.bool false),(.int .i64 0),(.bool false),(.bool false),(.int .i64 0),(.bool false),(.bool false),(.int .i64 0),(.bool false),(.bool false),(.int .i64 0),(.bool false),(.bool false),(.int .i64 0),(.bool false),(.bool false),(.int .i64 0),(.bool false),(.bool false),(.int .i64 0),(.bool false),(.bool false),(.int .i64 0),(.bool false),(.bool false),(.int .i64 0),(.bool false),(.bool false),(.int .i64 0),.nilslice] [(0,8,(.tmp 4)),(8,72,(.tmp 6))]) (zC (.tmp 8) (yB (tag 109) (.tmp 7)) (zC (.tmp 3) (zE (.tmp 8)) zK)))))))
def K44r2:zF:=(zC (.tmp 9) (zE (.tmp 3)) (zC (.tmp 10) (zE (.tmp 3)) (zC (.tmp 11) (JG 66 [(.tmp 10)] []) (zC (.tmp 12) (zE (.tmp 3)) (zC (.tmp 13) (JG 67 [(.tmp 12)] []) (zC (.tmp 14) (zE (.tmp 3)) (zC (.tmp 15) (JG 68 [(.tmp 14)] []) (zC (.tmp 16) (zE (.tmp 3)) (zC (.tmp 17) (JG 69 [(.tmp 16)] []) (zC (.tmp 18) (zE (.tmp 3)) (zC (.tmp 19) (JG 70 [(.tmp 18)] []) (zC (.tmp 20) (zE (.tmp 3)) (zC (.tmp 21) (JG 71 [(.tmp 20)] []) (zC (.tmp 22) (jB [.nilfunc,.nilfunc,.nilfunc,.nilfunc,.nilfunc,.nilfunc] 6 [(0,1,(.tmp 11)),(1,1,(.tmp 13)),(2,1,(.tmp 15)),(3,1,(.tmp 17)),(4,1,(.tmp 19)),(5,1,(.tmp 21))]) (zC (.tmp 23) (kUn wZ (.tmp 9)) (zC (.tmp 24) (kUn (zY 80) (.tmp 23)) (zC .none (jC 1 (.tmp 24) (.tmp 22)) zK)))))))))))))))))
def K44r3:zF:=(zC (.tmp 25) (zE (.tmp 3)) (zC (.tmp 2) (zE (.tmp 25)) zK))
theorem res44:Try.f44.results.toList=[.tmp 2]:=by kernel_rfl
def K44:K:=(zG (zD K44r0 [1,2]) (zG (zr K44r1 [3]) (zG (zD K44r2 []) (zG (zD K44r3 [2]) jI))))
theorem enter44 (cl:zS) (a0:AV) (s:St):zj Try.prog X cl 44 [a0] s Try.f44=jh Try.prog Try.f44 (K44 cl ⟨44,none,Try.f44.ntmps,X 44⟩ (zQ 0 [a0] .nil) [] s) :=
  zX (b:=Try.f44.body.getD .skip) (by kernel_rfl) (by kernel_rfl) (by kernel_rfl) (by kernel_rfl) (by kernel_rfl)
def K65r0:zF:=(zC (.tmp 1) (yB (tag 30) (.tmp 0)) (zC (.tmp 2) (jO [(.bool false),(.bool false),(.int .i64 0),(.bool false),(.bool false),(.int .i64 0),(.bool false),(.bool false),(.int .i64 0),(.bool false),(.bool false),(.int .i64 0),(.bool false),(.bool false),(.int .i64 0),(.bool false),(.bool false),(.int .i64 0),(.bool false),(.bool false),(.int .i64 0),(.bool false),(.bool false),(.int .i64 0),(.bool false),(.bool false),(.int .i64 0),(.bool false),(.bool false),(.int .i64 0),(.bool false),(.bool false),(.int .i64 0),(.bool false),(.bool false),(.int .i64 0),(.bool false),(.bool false),(.int .i64 0),(.bool false),(.bool false),(.int .i64 0),(.bool false),(.bool false),(.int .i64 0),(.bool false),(.bool false),(.int .i64 0),(.bool false),(.bool false),(.int .i64 0),(.bool false),(.bool false),(.int .i64 0),(.bool false),(.bool false),(.int .i64 0),(.bool false),(.bool false),(.int .i64 0),(.bool false),(.bool false),(.int .i64 0),(.bool false),(.bool false),(.int .i64 0),(.bool false),(.bool false),(.int .i64 0),(.bool false),(.bool false),(.int .i64 0)] (tag 105)) zK))
def K65r1:zF:=(zC (.tmp 3) (jO [(.bool false),(.bool false),(.int .i64 0),(.bool false),(.bool false),(.int .i64 0),(.bool false),(.bool false),(.int .i64 0),(.bool false),(.bool false),(.int .i64 0),(.bool false),(.bool false),(.int .i64 0),(.bool false),(.bool false),(.int .i64 0),(.bool false),(.bool false),(.int .i64 0),(.bool false),(.bool false),(.int .i64 0),(.bool false),(.bool false),(.int .i64 0),(.bool false),(.bool false),(.int .i64 0),(.bool false),(.bool false),(.int .i64 0),(.bool false),(.bool false),(.int .i64 0),(.bool false),(.bool false),(.int .i64 0),(.bool false),(.bool false),(.int .i64 0),(.bool false),(.bool false),(.int .i64 0),(.bool false),(.bool false),(.int .i64 0),(.bool false),(.bool false),(.int .i64 0),(.bool false),(.bool false),(.int .i64 0),(.bool false),(.bool false),(.int .i64 0),(.bool false),(.bool false),(.int .i64 0),(.bool false),(.bool false),(.int .i64 0),(.bool false),(.bool false),(.int .i64 0),(.bool false),(.bool false),(.int .i64 0),(.bool false),(.bool false),(.int .i64 0)] (tag 105)) zK)
def K65r2:zF:=(zC (.tmp 9) (zJ (some 8) (.tmp 1)) (zz (.tmp 10) (.con (.func 53 [] [])) [(.tmp 9)] zK))
def K65r3:zF:=(zC (.tmp 35) (kUn (zY 2) (.tmp 1)) (zC (.tmp 36) (zJ none (.tmp 35)) (zC (.tmp 37) (kUn jA (.tmp 36)) (zC (.tmp 38) (zE (.con (.int .i64 0))) zK))))
def K65r4:zF:=(zC (.tmp 39) (za yL (.tmp 38) (.tmp 37)) zK)
def K65r5:zF:=(zC (.tmp 40) (jG (jR 2) (.tmp 36) (.tmp 38)) (zC (.tmp 41) (zJ (some 2) (.tmp 40)) (zC (.tmp 6) (jO [(.int .i64 0),(.int .i64 0)] (tag 27)) (zC .none (jC 2 (.tmp 6) (.tmp 41)) zK))))
def K65r6:zF:=(yM [] (zC (.tmp 42) (kUn (zY 1) (.tmp 6)) (zC (.tmp 43) (zJ none (.tmp 42)) (zC (.tmp 44) (kUn (zY 0) (.tmp 6)) (zC (.tmp 45) (zJ none (.tmp 44)) (zC (.tmp 46) (jG (ixaA 4 18) (.tmp 3) (.tmp 43)) (zC (.tmp 47) (jG (ixaA 6 3) (.tmp 46) (.tmp 45)) (zC (.tmp 48) (kUn (zY 0) (.tmp 47)) (zC .none (jC 1 (.tmp 48) (.con (.bool true))) zK)))))))))
def K65r7:zF:=(zC (.tmp 49) (za jH (.tmp 38) (.con (.int .i64 1))) (zC (.tmp 38) (zE (.tmp 49)) zK))
def K65l0:K:=(zG (zD K65r4 [39]) (zG (zv (.tmp 39) zw (jz 2)) (zG (zd 3 (zG (zD K65r5 [6]) (zr K65r6 []))) (zD K65r7 [38]))))
def K65r8:zF:=(zC (.tmp 50) (kUn (zY 3) (.tmp 1)) (zC (.tmp 51) (zJ none (.tmp 50)) (zC (.tmp 52) (kUn jA (.tmp 51)) (zC (.tmp 53) (zE (.con (.int .i64 0))) zK))))
def K65r9:zF:=(zC (.tmp 54) (za yL (.tmp 53) (.tmp 52)) zK)
def K65r10:zF:=(zC (.tmp 55) (jG (jR 2) (.tmp 51) (.tmp 53)) (zC (.tmp 56) (zJ (some 2) (.tmp 55)) (zC (.tmp 8) (jO [(.int .i64 0),(.int .i64 0)] (tag 27)) (zC .none (jC 2 (.tmp 8) (.tmp 56)) zK))))
def K65r11:zF:=(yM [] (zC (.tmp 57) (kUn (zY 1) (.tmp 8)) (zC (.tmp 58) (zJ none (.tmp 57)) (zC (.tmp 59) (kUn (zY 0) (.tmp 8)) (zC (.tmp 60) (zJ none (.tmp 59)) (zC (.tmp 61) (jG (ixaA 4 18) (.tmp 3) (.tmp 58)) (zC (.tmp 62) (jG (ixaA 6 3) (.tmp 61) (.tmp 60)) (zC (.tmp 63) (kUn (zY 1) (.tmp 62)) (zC .none (jC 1 (.tmp 63) (.con (.bool true))) zK)))))))))
def K65r12:zF:=(zC (.tmp 64) (za jH (.tmp 53) (.con (.int .i64 1))) (zC (.tmp 53) (zE (.tmp 64)) zK))
def K65l1:K:=(zG (zD K65r9 [54]) (zG (zv (.tmp 54) zw (jz 4)) (zG (zd 5 (zG (zD K65r10 [8]) (zr K65r11 []))) (zD K65r12 [53]))))
def K65r13:zF:=(zC (.tmp 65) (zJ (some 72) (.tmp 3)) (zC .none (jC 72 (.tmp 2) (.tmp 65)) zK))
theorem res65:Try.f65.results.toList=[.cell 2 105]:=by kernel_rfl
def K65:K:=(zG (zD K65r0 [1,2]) (zG (zD K65r1 [3]) (zG (zG (zD K65r2 [10]) (zd 0 (we (.tmp 10) [11] (yO Try.f65 0).1 (yO Try.f65 0).2))) (zG (zG (zD K65r3 [36,37,38]) (zd 2 (jx K65l0))) (zG (zG (zD K65r8 [51,52,53]) (zd 4 (jx K65l1))) (zG (zD K65r13 []) jI))))))
theorem enter65 (cl:zS) (a0:AV) (s:St):zj Try.prog X cl 65 [a0] s Try.f65=jh Try.prog Try.f65 (K65 cl ⟨65,none,Try.f65.ntmps,X 65⟩ (zQ 0 [a0] .nil) [] s) :=
  zX (b:=Try.f65.body.getD .skip) (by kernel_rfl) (by kernel_rfl) (by kernel_rfl) (by kernel_rfl) (by kernel_rfl)
def K65a0r0:zF:=(zC (.tmp 4) (jO [(.int .i64 0),(.int .i64 0)] (tag 27)) (zC .none (jC 2 (.tmp 4) (.tmp 11)) zK))
def K65a0:K:=(zD K65a0r0 [4])
theorem code65a0:jY Try.prog (X 65) Try.f65.ntmps (yO Try.f65 0).1=some K65a0:=by kernel_rfl
def K65b0r0:zF:=(yM [] (zC (.tmp 12) (kUn (zY 1) (.tmp 4)) (zC (.tmp 13) (zJ none (.tmp 12)) (zC (.tmp 14) (kUn (zY 0) (.tmp 4)) (zC (.tmp 15) (zJ none (.tmp 14)) (zC (.tmp 16) (kUn (zY 1) (.tmp 4)) (zC (.tmp 17) (zJ none (.tmp 16)) (zC (.tmp 18) (kUn (zY 4) (.tmp 1)) (zC (.tmp 19) (kUn (zY 1) (.tmp 18)) (zC (.tmp 20) (zJ none (.tmp 19)) (zC (.tmp 21) (za Yf (.tmp 17) (.tmp 20)) (zC (.tmp 22) (zJ (some 8) (.tmp 1)) (jf (some [12,14,16,19,25,28]) (.tmp 23) (.con (.func 91 [] [])) [(.tmp 22)] (zC (.tmp 24) (za aMul (.tmp 21) (.tmp 23)) (zC (.tmp 25) (kUn (zY 0) (.tmp 4)) (zC (.tmp 26) (zJ none (.tmp 25)) (zC (.tmp 27) (kUn (zY 4) (.tmp 1)) (zC (.tmp 28) (kUn (zY 0) (.tmp 27)) (zC (.tmp 29) (zJ none (.tmp 28)) (zC (.tmp 30) (za Yf (.tmp 26) (.tmp 29)) (zC (.tmp 31) (za jH (.tmp 24) (.tmp 30)) (zC (.tmp 32) (jG (ixaA 4 18) (.tmp 3) (.tmp 13)) (zC (.tmp 33) (jG (ixaA 6 3) (.tmp 32) (.tmp 15)) (zC (.tmp 34) (kUn (zY 2) (.tmp 33)) (zC .none (jC 1 (.tmp 34) (.tmp 31)) zK)))))))))))))))))))))))))
def K65b0:K:=(zd 1 (zr K65b0r0 []))
theorem code65b0:jY Try.prog (X 65) Try.f65.ntmps (yO Try.f65 0).2=some K65b0:=by kernel_rfl
def K53r0:zF:=(zC (.tmp 1) (yB (tag 30) (.tmp 0)) (zC (.tmp 2) (zE (.con .nilfunc)) zK))
def K53r1:zF:=(zC (.tmp 3) (JG 75 [] [(.tmp 1)]) (zC (.tmp 2) (zE (.tmp 3)) zK))
theorem res53:Try.f53.results.toList=[.tmp 2]:=by kernel_rfl
def K53:K:=(zG (zD K53r0 [1,2]) (zG (zD K53r1 [2]) jI))
theorem enter53 (cl:zS) (a0:AV) (s:St):zj Try.prog X cl 53 [a0] s Try.f53=jh Try.prog Try.f53 (K53 cl ⟨53,none,Try.f53.ntmps,X 53⟩ (zQ 0 [a0] .nil) [] s) :=
  zX (b:=Try.f53.body.getD .skip) (by kernel_rfl) (by kernel_rfl) (by kernel_rfl) (by kernel_rfl) (by kernel_rfl)
def K75r0:zF:=(zC (.tmp 5) (kUn (zY 1) (.tmp 1)) (zC (.tmp 6) (zJ none (.tmp 5)) (zC (.tmp 7) (zE (.con (.int .i64 0))) zK)))
def K75r1:zF:=(zC (.tmp 8) (za yL (.tmp 7) (.tmp 6)) zK)
def K75r2:zF:=(zC (.tmp 9) (zE (.tmp 7)) (zC (.tmp 3) (zE (.tmp 9)) zK))
def K75r3:zF:=(zC (.tmp 10) (kUn (zY 0) (.tmp 1)) (zC (.tmp 11) (zJ none (.tmp 10)) (zC (.tmp 12) (zE (.con (.int .i64 0))) zK)))
def K75r4:zF:=(zC (.tmp 13) (za yL (.tmp 12) (.tmp 11)) zK)
def K75r5:zF:=(zC (.tmp 14) (zE (.tmp 12)) (zC (.tmp 4) (zE (.tmp 14)) zK))
def K75r6:zF:=(zC (.tmp 15) (zE (.tmp 0)) (zC (.tmp 16) (zE (.tmp 4)) (zC (.tmp 17) (zE (.tmp 3)) (zC (.tmp 18) (yR [(.int .i64 0),(.int .i64 0)] [(0,1,(.tmp 16)),(1,1,(.tmp 17))]) (zz (.tmp 19) (.tmp 15) [(.tmp 18)] (zC (.tmp 20) (kUn notA (.tmp 19)) zK))))))
def K75r7:zF:=(zC (.tmp 21) (za jH (.tmp 12) (.con (.int .i64 1))) (zC (.tmp 12) (zE (.tmp 21)) zK))
def K75l0:K:=(zG (zD K75r4 [13]) (zG (zv (.tmp 13) zw (jz 2)) (zG (zd 3 (zG (zD K75r5 [4]) (zG (zD K75r6 [20]) (zv (.tmp 20) jI zw)))) (zD K75r7 [12]))))
def K75r8:zF:=(zC (.tmp 22) (za jH (.tmp 7) (.con (.int .i64 1))) (zC (.tmp 7) (zE (.tmp 22)) zK))
def K75l1:K:=(zG (zD K75r1 [8]) (zG (zv (.tmp 8) zw (jz 0)) (zG (zd 1 (zG (zD K75r2 [3]) (zG (zD K75r3 [11,12]) (zd 2 (jx K75l0))))) (zD K75r8 [7]))))
theorem res75:Try.f75.results.toList=[]:=by kernel_rfl
def K75:K:=(zG (zD K75r0 [6,7]) (zd 0 (jx K75l1)))
theorem enter75 (cl:zS) (a0 a1:AV) (s:St):zj Try.prog X cl 75 [a0,a1] s Try.f75=jh Try.prog Try.f75 (K75 cl ⟨75,none,Try.f75.ntmps,X 75⟩ (zQ 0 [a0,a1] .nil) [] s) :=
  zX (b:=Try.f75.body.getD .skip) (by kernel_rfl) (by kernel_rfl) (by kernel_rfl) (by kernel_rfl) (by kernel_rfl)
def K72r0:zF:=(zC (.tmp 3) (yB (tag 51) (.tmp 1)) (zC (.tmp 4) (jO [(.bool false),(.bool false),(.int .i64 0)] (tag 102)) zK))
def K72r1:zF:=(yM [] (zC (.tmp 5) (zE (.tmp 0)) (zC (.tmp 6) (kUn (zY 0) (.tmp 3)) (zC (.tmp 7) (kUn (zY 1) (.tmp 6)) (zC (.tmp 8) (zJ none (.tmp 7)) (zC (.tmp 9) (kUn (zY 0) (.tmp 3)) (zC (.tmp 10) (kUn (zY 0) (.tmp 9)) (zC (.tmp 11) (zJ none (.tmp 10)) (zC (.tmp 12) (kUn wZ (.tmp 5)) (zC (.tmp 13) (kUn (zY 8) (.tmp 12)) (zC (.tmp 14) (jG (ixaA 4 18) (.tmp 13) (.tmp 8)) (zC (.tmp 15) (jG (ixaA 6 3) (.tmp 14) (.tmp 11)) (zC (.tmp 16) (zJ (some 3) (.tmp 15)) (zC .none (jC 3 (.tmp 4) (.tmp 16)) zK))))))))))))))
theorem res72:Try.f72.results.toList=[.cell 4 102]:=by kernel_rfl
def K72:K:=(zG (zD K72r0 [3,4]) (zG (zr K72r1 []) jI))
theorem enter72 (cl:zS) (a0 a1:AV) (s:St):zj Try.prog X cl 72 [a0,a1] s Try.f72=jh Try.prog Try.f72 (K72 cl ⟨72,none,Try.f72.ntmps,X 72⟩ (zQ 0 [a0,a1] .nil) [] s) :=
  zX (b:=Try.f72.body.getD .skip) (by kernel_rfl) (by kernel_rfl) (by kernel_rfl) (by kernel_rfl) (by kernel_rfl)
def K74r0:zF:=(zC (.tmp 3) (yB (tag 51) (.tmp 1)) (zC (.tmp 4) (jO [(.int .i64 0),(.int .i64 0),(.bool false),.nilslice,(.int .i64 0),(.int .i64 0)] (tag 49)) zK))
def K74r1:zF:=(yM [] (zC (.tmp 5) (zE (.tmp 0)) (zC (.tmp 6) (kUn wZ (.tmp 5)) (zC (.tmp 7) (kUn (zY 0) (.tmp 6)) (zC (.tmp 8) (kUn (zY 7) (.tmp 7)) (zC (.tmp 9) (zJ none (.tmp 8)) (zC (.tmp 10) (kUn (zY 2) (.tmp 3)) (zC (.tmp 11) (zJ none (.tmp 10)) (zC (.tmp 12) (jG (jR 6) (.tmp 9) (.tmp 11)) (zC (.tmp 13) (zJ (some 6) (.tmp 12)) (zC .none (jC 6 (.tmp 4) (.tmp 13)) zK)))))))))))
theorem res74:Try.f74.results.toList=[.cell 4 49]:=by kernel_rfl
def K74:K:=(zG (zD K74r0 [3,4]) (zG (zr K74r1 []) jI))
theorem enter74 (cl:zS) (a0 a1:AV) (s:St):zj Try.prog X cl 74 [a0,a1] s Try.f74=jh Try.prog Try.f74 (K74 cl ⟨74,none,Try.f74.ntmps,X 74⟩ (zQ 0 [a0,a1] .nil) [] s) :=
  zX (b:=Try.f74.body.getD .skip) (by kernel_rfl) (by kernel_rfl) (by kernel_rfl) (by kernel_rfl) (by kernel_rfl)
def K63r0:zF:=(zC (.tmp 5) (yB (tag 51) (.tmp 2)) (zC (.tmp 6) (zE (.con (.int .i64 0))) zK))
def K63r1:zF:=(zC (.tmp 10) (zE (.tmp 0)) (zC (.tmp 11) (kUn wZ (.tmp 10)) (zC (.tmp 12) (kUn (zY 80) (.tmp 11)) (zC (.tmp 13) (zJ none (.tmp 12)) (zC (.tmp 14) (kUn jA (.tmp 13)) (zC (.tmp 15) (zE (.con (.int .i64 0))) zK))))))
def K63r2:zF:=(zC (.tmp 16) (za yL (.tmp 15) (.tmp 14)) zK)
def K63r3:zF:=(zC (.tmp 17) (jG (jR 1) (.tmp 13) (.tmp 15)) (zC (.tmp 18) (zJ none (.tmp 17)) (zC (.tmp 8) (zE (.tmp 18)) zK)))
def K63r4:zF:=(zC (.tmp 19) (zE (.tmp 8)) (zC (.tmp 20) (zE (.tmp 1)) (zC (.tmp 21) (zJ (some 3) (.tmp 5)) (zz (.tmp 22) (.tmp 19) [(.tmp 20),(.tmp 21)] (zC (.tmp 9) (zE (.tmp 22)) zK)))))
def K63r5:zF:=(zC (.tmp 23) (zE (.tmp 9)) (zC (.tmp 24) (za vt (.tmp 23) (.con (.int .i64 0))) zK))
def K63r6:zF:=(zC (.tmp 25) (zE (.tmp 9)) (zC (.tmp 6) (zE (.tmp 25)) zK))
def K63r7:zF:=(zC (.tmp 26) (za jH (.tmp 15) (.con (.int .i64 1))) (zC (.tmp 15) (zE (.tmp 26)) zK))
def K63l0:K:=(zG (zD K63r2 [16]) (zG (zv (.tmp 16) zw (jz 0)) (zG (zd 1 (zG (zD K63r3 [8]) (zG (zD K63r4 [9]) (zG (zD K63r5 [24]) (zv (.tmp 24) (zG (zD K63r6 [6]) jI) zw))))) (zD K63r7 [15]))))
def K63r8:zF:=(zC (.tmp 6) (zE (.con (.int .i64 0))) zK)
theorem res63:Try.f63.results.toList=[.tmp 6]:=by kernel_rfl
def K63:K:=(zG (zD K63r0 [5,6]) (zG (zG (zD K63r1 [13,14,15]) (zd 0 (jx K63l0))) (zG (zD K63r8 [6]) jI)))
theorem enter63 (cl:zS) (a0 a1 a2:AV) (s:St):zj Try.prog X cl 63 [a0,a1,a2] s Try.f63=jh Try.prog Try.f63 (K63 cl ⟨63,none,Try.f63.ntmps,X 63⟩ (zQ 0 [a0,a1,a2] .nil) [] s) :=
  zX (b:=Try.f63.body.getD .skip) (by kernel_rfl) (by kernel_rfl) (by kernel_rfl) (by kernel_rfl) (by kernel_rfl)
def K66r0:zF:=(zC (.tmp 5) (yB (tag 51) (.tmp 2)) (zC (.tmp 6) (zE (.con (.int .i64 0))) zK))
def K66r1:zF:=(yM [] (zC (.tmp 7) (zE (.tmp 0)) (zC (.tmp 8) (kUn wZ (.tmp 7)) (zC (.tmp 9) (kUn (zY 0) (.tmp 8)) (zC (.tmp 10) (zJ (some 8) (.tmp 9)) (zC (.tmp 11) (kUn (zY 0) (.tmp 5)) (zC (.tmp 12) (zJ (some 2) (.tmp 11)) (zz (.tmp 13) (.con (.func 92 [] [])) [(.tmp 10),(.tmp 12)] (zC (.tmp 6) (zE (.tmp 13)) zK)))))))))
theorem res66:Try.f66.results.toList=[.tmp 6]:=by kernel_rfl
def K66:K:=(zG (zD K66r0 [5,6]) (zG (zr K66r1 [6]) jI))
theorem enter66 (cl:zS) (a0 a1 a2:AV) (s:St):zj Try.prog X cl 66 [a0,a1,a2] s Try.f66=jh Try.prog Try.f66 (K66 cl ⟨66,none,Try.f66.ntmps,X 66⟩ (zQ 0 [a0,a1,a2] .nil) [] s) :=
  zX (b:=Try.f66.body.getD .skip) (by kernel_rfl) (by kernel_rfl) (by kernel_rfl) (by kernel_rfl) (by kernel_rfl)
def K67r0:zF:=(zC (.tmp 5) (yB (tag 51) (.tmp 2)) (zC (.tmp 6) (zE (.con (.int .i64 0))) zK))
def K67r1:zF:=(zC (.tmp 7) (zE (.tmp 0)) (zC (.tmp 8) (zJ (some 3) (.tmp 5)) (zz (.tmp 9) (.con (.func 72 [] [])) [(.tmp 7),(.tmp 8)] (zC (.tmp 10) (kUn (fldA none 1) (.tmp 9)) zK))))
def K67r2:zF:=(zC (.tmp 6) (zE (.con (.int .i64 11))) zK)
def K67r3:zF:=(zC (.tmp 6) (zE (.con (.int .i64 0))) zK)
theorem res67:Try.f67.results.toList=[.tmp 6]:=by kernel_rfl
def K67:K:=(zG (zD K67r0 [5,6]) (zG (zG (zD K67r1 [10]) (zv (.tmp 10) (zG (zD K67r2 [6]) jI) zw)) (zG (zD K67r3 [6]) jI)))
theorem enter67 (cl:zS) (a0 a1 a2:AV) (s:St):zj Try.prog X cl 67 [a0,a1,a2] s Try.f67=jh Try.prog Try.f67 (K67 cl ⟨67,none,Try.f67.ntmps,X 67⟩ (zQ 0 [a0,a1,a2] .nil) [] s) :=
  zX (b:=Try.f67.body.getD .skip) (by kernel_rfl) (by kernel_rfl) (by kernel_rfl) (by kernel_rfl) (by kernel_rfl)
def K68r0:zF:=(zC (.tmp 5) (yB (tag 51) (.tmp 2)) (zC (.tmp 6) (zE (.con (.int .i64 0))) zK))
def K68r1:zF:=(yM [] (zC (.tmp 7) (zE (.tmp 0)) (zC (.tmp 8) (kUn wZ (.tmp 7)) (zC (.tmp 9) (kUn (zY 0) (.tmp 8)) (zC (.tmp 10) (zJ (some 8) (.tmp 9)) (zC (.tmp 11) (kUn (zY 2) (.tmp 5)) (zC (.tmp 12) (zJ none (.tmp 11)) (zz (.tmp 13) (.con (.func 52 [] [])) [(.tmp 10),(.tmp 12)] (zC (.tmp 6) (zE (.tmp 13)) zK)))))))))
theorem res68:Try.f68.results.toList=[.tmp 6]:=by kernel_rfl
def K68:K:=(zG (zD K68r0 [5,6]) (zG (zr K68r1 [6]) jI))
theorem enter68 (cl:zS) (a0 a1 a2:AV) (s:St):zj Try.prog X cl 68 [a0,a1,a2] s Try.f68=jh Try.prog Try.f68 (K68 cl ⟨68,none,Try.f68.ntmps,X 68⟩ (zQ 0 [a0,a1,a2] .nil) [] s) :=
  zX (b:=Try.f68.body.getD .skip) (by kernel_rfl) (by kernel_rfl) (by kernel_rfl) (by kernel_rfl) (by kernel_rfl)
def K69r0:zF:=(zC (.tmp 5) (yB (tag 51) (.tmp 2)) (zC (.tmp 6) (zE (.con (.int .i64 0))) zK))
def K69r1:zF:=(zC (.tmp 9) (zE (.tmp 1)) (zC (.tmp 10) (kUn jA (.tmp 9)) (zC (.tmp 11) (zE (.con (.int .i64 0))) zK)))
def K69r2:zF:=(zC (.tmp 12) (za yL (.tmp 11) (.tmp 10)) zK)
def K69r3:zF:=(zC (.tmp 13) (jG (jR 3) (.tmp 9) (.tmp 11)) (zC (.tmp 14) (zJ (some 3) (.tmp 13)) (zC (.tmp 8) (jO [(.int .i64 0),(.int .i64 0),(.int .i64 0)] (tag 51)) (zC .none (jC 3 (.tmp 8) (.tmp 14)) zK))))
def K69r4:zF:=(zC (.tmp 15) (kUn (zY 0) (.tmp 8)) (zC (.tmp 16) (zJ (some 2) (.tmp 15)) (zC (.tmp 17) (kUn (zY 0) (.tmp 5)) (zC (.tmp 18) (zJ (some 2) (.tmp 17)) (zC (.tmp 19) (kEql (.row [(0,none,.int),(1,none,.int)]) false (.tmp 16) (.tmp 18)) zK)))))
def K69r5:zF:=(zC (.tmp 6) (zE (.con (.int .i64 4))) zK)
def K69r6:zF:=(zC (.tmp 20) (za jH (.tmp 11) (.con (.int .i64 1))) (zC (.tmp 11) (zE (.tmp 20)) zK))
def K69l0:K:=(zG (zD K69r2 [12]) (zG (zv (.tmp 12) zw (jz 0)) (zG (zd 1 (zG (zD K69r3 [8]) (zG (zD K69r4 [19]) (zv (.tmp 19) (zG (zD K69r5 [6]) jI) zw)))) (zD K69r6 [11]))))
def K69r7:zF:=(zC (.tmp 6) (zE (.con (.int .i64 0))) zK)
theorem res69:Try.f69.results.toList=[.tmp 6]:=by kernel_rfl
def K69:K:=(zG (zD K69r0 [5,6]) (zG (zG (zD K69r1 [9,10,11]) (zd 0 (jx K69l0))) (zG (zD K69r7 [6]) jI)))
theorem enter69 (cl:zS) (a0 a1 a2:AV) (s:St):zj Try.prog X cl 69 [a0,a1,a2] s Try.f69=jh Try.prog Try.f69 (K69 cl ⟨69,none,Try.f69.ntmps,X 69⟩ (zQ 0 [a0,a1,a2] .nil) [] s) :=
  zX (b:=Try.f69.body.getD .skip) (by kernel_rfl) (by kernel_rfl) (by kernel_rfl) (by kernel_rfl) (by kernel_rfl)
def K70r0:zF:=(zC (.tmp 5) (yB (tag 51) (.tmp 2)) (zC (.tmp 6) (zE (.con (.int .i64 0))) zK))
def K70r1s10:zF:=(zC (.tmp 17) (yN (.tmp 11) (.tmp 16) (.con (.bool false))) zK)
def K70r1s9:zF:=(oIf 11 true (zC (.tmp 16) (kUn notA (.tmp 15)) K70r1s10) (zZ (.tmp 16) K70r1s10))
def K70r1s8:zF:=(oIf 11 true (zC (.tmp 15) (kUn (fldA none 0) (.tmp 14)) K70r1s9) (zZ (.tmp 15) K70r1s9))
def K70r1s7:zF:=(oIf 11 true (zz (.tmp 14) (.con (.func 72 [] [])) [(.tmp 12),(.tmp 13)] K70r1s8) (zZ (.tmp 14) K70r1s8))
def K70r1s6:zF:=(oIf 11 true (zC (.tmp 13) (zJ (some 3) (.tmp 5)) K70r1s7) (zZ (.tmp 13) K70r1s7))
def K70r1:zF:=(zC (.tmp 7) (zE (.tmp 0)) (zC (.tmp 8) (zJ (some 3) (.tmp 5)) (zz (.tmp 9) (.con (.func 74 [] [])) [(.tmp 7),(.tmp 8)] (zC (.tmp 10) (kUn (fldA none 2) (.tmp 9)) (zC (.tmp 11) (zE (.tmp 10)) (oIf 11 true (zC (.tmp 12) (zE (.tmp 0)) K70r1s6) (zZ (.tmp 12) K70r1s6)))))))
def K70r2:zF:=(zC (.tmp 6) (zE (.con (.int .i64 7))) zK)
def K70r3:zF:=(zC (.tmp 6) (zE (.con (.int .i64 0))) zK)
theorem res70:Try.f70.results.toList=[.tmp 6]:=by kernel_rfl
def K70:K:=(zG (zD K70r0 [5,6]) (zG (zG (zD K70r1 [17]) (zv (.tmp 17) (zG (zD K70r2 [6]) jI) zw)) (zG (zD K70r3 [6]) jI)))
theorem enter70 (cl:zS) (a0 a1 a2:AV) (s:St):zj Try.prog X cl 70 [a0,a1,a2] s Try.f70=jh Try.prog Try.f70 (K70 cl ⟨70,none,Try.f70.ntmps,X 70⟩ (zQ 0 [a0,a1,a2] .nil) [] s) :=
  zX (b:=Try.f70.body.getD .skip) (by kernel_rfl) (by kernel_rfl) (by kernel_rfl) (by kernel_rfl) (by kernel_rfl)
def K71r0:zF:=(zC (.tmp 5) (yB (tag 51) (.tmp 2)) (zC (.tmp 6) (zE (.con (.int .i64 0))) zK))
def K71r1:zF:=(zC (.tmp 9) (zE (.tmp 1)) (zC (.tmp 10) (kUn jA (.tmp 9)) (zC (.tmp 11) (zE (.con (.int .i64 0))) zK)))
def K71r2:zF:=(zC (.tmp 12) (za yL (.tmp 11) (.tmp 10)) zK)
def K71r3:zF:=(zC (.tmp 13) (jG (jR 3) (.tmp 9) (.tmp 11)) (zC (.tmp 14) (zJ (some 3) (.tmp 13)) (zC (.tmp 8) (jO [(.int .i64 0),(.int .i64 0),(.int .i64 0)] (tag 51)) (zC .none (jC 3 (.tmp 8) (.tmp 14)) zK))))
def K71r4:zF:=(yM [] (zC (.tmp 15) (kUn (zY 0) (.tmp 5)) (zC (.tmp 16) (zJ (some 2) (.tmp 15)) (zC (.tmp 17) (kUn (zY 0) (.tmp 8)) (zC (.tmp 18) (zJ (some 2) (.tmp 17)) (jf (some [5,24,8,32]) (.tmp 19) (.con (.func 93 [] [])) [(.tmp 16),(.tmp 18)] (zC (.tmp 20) (zE (.tmp 0)) (zC (.tmp 21) (zJ (some 3) (.tmp 5)) (jf (some [24,8,32]) (.tmp 22) (.con (.func 74 [] [])) [(.tmp 20),(.tmp 21)] (zC (.tmp 23) (kUn (fldA none 3) (.tmp 22)) (zC (.tmp 24) (kUn (zY 2) (.tmp 8)) (zC (.tmp 25) (zJ none (.tmp 24)) (zC (.tmp 26) (jG (jR 1) (.tmp 23) (.tmp 25)) (zC (.tmp 27) (zJ none (.tmp 26)) (zC (.tmp 28) (zE (.tmp 0)) (zC (.tmp 29) (zJ (some 3) (.tmp 8)) (jf (some [24,26,32]) (.tmp 30) (.con (.func 74 [] [])) [(.tmp 28),(.tmp 29)] (zC (.tmp 31) (kUn (fldA none 3) (.tmp 30)) (zC (.tmp 32) (kUn (zY 2) (.tmp 5)) (zC (.tmp 33) (zJ none (.tmp 32)) (zC (.tmp 34) (jG (jR 1) (.tmp 31) (.tmp 33)) (zC (.tmp 35) (zJ none (.tmp 34)) (zC (.tmp 36) (gi maxA (.tmp 27) [(.tmp 35)]) (zC (.tmp 37) (za yL (.tmp 19) (.tmp 36)) zK))))))))))))))))))))))))
def K71r5:zF:=(zC (.tmp 6) (zE (.con (.int .i64 9))) zK)
def K71r6:zF:=(zC (.tmp 38) (za jH (.tmp 11) (.con (.int .i64 1))) (zC (.tmp 11) (zE (.tmp 38)) zK))
def K71l0:K:=(zG (zD K71r2 [12]) (zG (zv (.tmp 12) zw (jz 0)) (zG (zd 1 (zG (zD K71r3 [8]) (zG (zr K71r4 [37]) (zv (.tmp 37) (zG (zD K71r5 [6]) jI) zw)))) (zD K71r6 [11]))))
def K71r7:zF:=(zC (.tmp 6) (zE (.con (.int .i64 0))) zK)
theorem res71:Try.f71.results.toList=[.tmp 6]:=by kernel_rfl
def K71:K:=(zG (zD K71r0 [5,6]) (zG (zG (zD K71r1 [9,10,11]) (zd 0 (jx K71l0))) (zG (zD K71r7 [6]) jI)))
theorem enter71 (cl:zS) (a0 a1 a2:AV) (s:St):zj Try.prog X cl 71 [a0,a1,a2] s Try.f71=jh Try.prog Try.f71 (K71 cl ⟨71,none,Try.f71.ntmps,X 71⟩ (zQ 0 [a0,a1,a2] .nil) [] s) :=
  zX (b:=Try.f71.body.getD .skip) (by kernel_rfl) (by kernel_rfl) (by kernel_rfl) (by kernel_rfl) (by kernel_rfl)
def K93r0:zF:=(zC (.tmp 2) (yB (tag 27) (.tmp 0)) (zC (.tmp 3) (yB (tag 27) (.tmp 1)) (zC (.tmp 4) (zE (.con (.int .i64 0))) zK)))
def K93r1:zF:=(zC (.tmp 5) (kUn (zY 0) (.tmp 2)) (zC (.tmp 6) (zJ none (.tmp 5)) (zC (.tmp 7) (kUn (zY 0) (.tmp 3)) (zC (.tmp 8) (zJ none (.tmp 7)) (zC (.tmp 9) (za yl (.tmp 6) (.tmp 8)) (zC (.tmp 10) (kUn (zY 0) (.tmp 3)) (zC (.tmp 11) (zJ none (.tmp 10)) (zC (.tmp 12) (kUn (zY 0) (.tmp 2)) (zC (.tmp 13) (zJ none (.tmp 12)) (zC (.tmp 14) (za yl (.tmp 11) (.tmp 13)) (zC (.tmp 15) (gi maxA (.tmp 9) [(.tmp 14)]) (zC (.tmp 16) (kUn (zY 1) (.tmp 2)) (zC (.tmp 17) (zJ none (.tmp 16)) (zC (.tmp 18) (kUn (zY 1) (.tmp 3)) (zC (.tmp 19) (zJ none (.tmp 18)) (zC (.tmp 20) (za yl (.tmp 17) (.tmp 19)) (zC (.tmp 21) (kUn (zY 1) (.tmp 3)) (zC (.tmp 22) (zJ none (.tmp 21)) (zC (.tmp 23) (kUn (zY 1) (.tmp 2)) (zC (.tmp 24) (zJ none (.tmp 23)) (zC (.tmp 25) (za yl (.tmp 22) (.tmp 24)) (zC (.tmp 26) (gi maxA (.tmp 20) [(.tmp 25)]) (zC (.tmp 27) (za jH (.tmp 15) (.tmp 26)) (zC (.tmp 4) (zE (.tmp 27)) zK))))))))))))))))))))))))
theorem res93:Try.f93.results.toList=[.tmp 4]:=by kernel_rfl
def K93:K:=(zG (zD K93r0 [2,3,4]) (zG (zD K93r1 [4]) jI))
theorem enter93 (cl:zS) (a0 a1:AV) (s:St):zj Try.prog X cl 93 [a0,a1] s Try.f93=jh Try.prog Try.f93 (K93 cl ⟨93,none,Try.f93.ntmps,X 93⟩ (zQ 0 [a0,a1] .nil) [] s) :=
  zX (b:=Try.f93.body.getD .skip) (by kernel_rfl) (by kernel_rfl) (by kernel_rfl) (by kernel_rfl) (by kernel_rfl)
def K64r0:zF:=(zC (.tmp 4) (zE (.con (.int .i64 0))) zK)
def K64r1:zF:=(zC (.tmp 5) (zE (.con (.int .i64 0))) zK)
def K64r2:zF:=(zC (.tmp 8) (zE (.tmp 0)) (zC (.tmp 9) (kUn jA (.tmp 8)) (zC (.tmp 10) (zE (.con (.int .i64 0))) zK)))
def K64r3:zF:=(zC (.tmp 11) (za yL (.tmp 10) (.tmp 9)) zK)
def K64r4:zF:=(zC (.tmp 12) (jG (jR 3) (.tmp 8) (.tmp 10)) (zC (.tmp 13) (zJ (some 3) (.tmp 12)) (zC (.tmp 7) (jO [(.int .i64 0),(.int .i64 0),(.int .i64 0)] (tag 51)) (zC .none (jC 3 (.tmp 7) (.tmp 13)) zK))))
def K64r5:zF:=(zC (.tmp 14) (kUn (zY 2) (.tmp 7)) (zC (.tmp 15) (zJ none (.tmp 14)) (zC (.tmp 16) (zE (.tmp 1)) (zC (.tmp 17) (za aEql (.tmp 15) (.tmp 16)) zK))))
def K64r6:zF:=(zC (.tmp 18) (zE (.tmp 5)) (zC (.tmp 19) (za jH (.tmp 18) (.con (.int .i64 1))) (zC (.tmp 5) (zE (.tmp 19)) zK)))
def K64r7:zF:=(zC (.tmp 20) (za jH (.tmp 10) (.con (.int .i64 1))) (zC (.tmp 10) (zE (.tmp 20)) zK))
def K64l0:K:=(zG (zD K64r3 [11]) (zG (zv (.tmp 11) zw (jz 0)) (zG (zd 1 (zG (zD K64r4 [7]) (zG (zD K64r5 [17]) (zv (.tmp 17) (zD K64r6 [5]) zw)))) (zD K64r7 [10]))))
def K64r8:zF:=(zC (.tmp 21) (zE (.tmp 5)) (zC (.tmp 4) (zE (.tmp 21)) zK))
theorem res64:Try.f64.results.toList=[.tmp 4]:=by kernel_rfl
def K64:K:=(zG (zD K64r0 [4]) (zG (zD K64r1 [5]) (zG (zG (zD K64r2 [8,9,10]) (zd 0 (jx K64l0))) (zG (zD K64r8 [4]) jI))))
theorem enter64 (cl:zS) (a0 a1:AV) (s:St):zj Try.prog X cl 64 [a0,a1] s Try.f64=jh Try.prog Try.f64 (K64 cl ⟨64,none,Try.f64.ntmps,X 64⟩ (zQ 0 [a0,a1] .nil) [] s) :=
  zX (b:=Try.f64.body.getD .skip) (by kernel_rfl) (by kernel_rfl) (by kernel_rfl) (by kernel_rfl) (by kernel_rfl)
end
end Go.Proofs.Ytoklbkgcclkejaa.code
set_option maxRecDepth 100000
namespace Go.Proofs.Ytoklbkgcclkejaa.code
open Go.Abs
noncomputable section
def K14r0:zF:=(zC (.tmp 2) (yB (tag 30) (.tmp 0)) (zC (.tmp 4) (zE (.con (.int .i64 0))) (zC (.tmp 5) (zE (.con (.int .i64 0))) zK)))
def K14r1:zF:=(zC (.tmp 7) (zJ (some 8) (.tmp 2)) (zC (.tmp 8) (zE (.tmp 1)) (zz (.tmp 9) (.con (.func 43 [] [])) [(.tmp 7),(.tmp 8)] (zC (.tmp 6) (zE (.tmp 9)) zK))))
def K14r2:zF:=(zC (.tmp 10) (zE (.tmp 6)) (zC (.tmp 11) (za vt (.tmp 10) (.con (.int .i64 0))) zK))
def K14r3:zF:=(zC (.tmp 12) (zE (.tmp 6)) (zC (.tmp 4) (zE (.con (.int .i64 0))) (zC (.tmp 5) (zE (.tmp 12)) zK)))
def K14r4:zF:=(zC (.tmp 13) (zJ (some 8) (.tmp 2)) (zz (.tmp 14) (.con (.func 44 [] [])) [(.tmp 13)] (zC (.tmp 15) (zE (.tmp 1)) (zz (.tmp 16) (.con (.func 46 [] [])) [(.tmp 14),(.tmp 15)] (zC (.tmp 4) (zE (.tmp 16)) (zC (.tmp 5) (zE (.con (.int .i64 0))) zK))))))
theorem res14:Try.f14.results.toList=[.tmp 4,.tmp 5]:=by kernel_rfl
def K14:K:=(zG (zD K14r0 [2,4,5]) (zG (zG (zD K14r1 [6]) (zG (zD K14r2 [11]) (zv (.tmp 11) (zG (zD K14r3 [4,5]) jI) zw))) (zG (zD K14r4 [4,5]) jI)))
theorem enter14 (cl:zS) (a0 a1:AV) (s:St):zj Try.prog X cl 14 [a0,a1] s Try.f14=jh Try.prog Try.f14 (K14 cl ⟨14,none,Try.f14.ntmps,X 14⟩ (zQ 0 [a0,a1] .nil) [] s) :=
  zX (b:=Try.f14.body.getD .skip) (by kernel_rfl) (by kernel_rfl) (by kernel_rfl) (by kernel_rfl) (by kernel_rfl)
def K45r0:zF:=(zC (.tmp 4) (zE (.con .nilslice)) zK)
def K45r1:zF:=(zC (.tmp 9) (zE (.tmp 0)) (zC (.tmp 10) (kUn wZ (.tmp 9)) (zC (.tmp 11) (kUn (zY 0) (.tmp 10)) (zC (.tmp 12) (kUn (zY 6) (.tmp 11)) (zC (.tmp 13) (zJ none (.tmp 12)) (zC (.tmp 14) (kUn jA (.tmp 13)) (zC (.tmp 15) (kMake [(.int .i64 0),(.int .i64 0)] 16 (.tmp 14) (.tmp 14)) (zC (.tmp 5) (zE (.tmp 15)) zK))))))))
def K45r2:zF:=(zC (.tmp 16) (zE (.tmp 1)) (zC (.tmp 17) (kUn jA (.tmp 16)) (zC (.tmp 18) (zE (.con (.int .i64 0))) zK)))
def K45r3:zF:=(zC (.tmp 19) (za yL (.tmp 18) (.tmp 17)) zK)
def K45r4:zF:=(zC (.tmp 20) (jG (jR 3) (.tmp 16) (.tmp 18)) (zC (.tmp 21) (zJ (some 3) (.tmp 20)) (zC (.tmp 7) (jO [(.int .i64 0),(.int .i64 0),(.int .i64 0)] (tag 51)) (zC .none (jC 3 (.tmp 7) (.tmp 21)) zK))))
def K45r5:zF:=(zC (.tmp 22) (zE (.tmp 0)) (zC (.tmp 23) (zJ (some 3) (.tmp 7)) (zz (.tmp 24) (.con (.func 72 [] [])) [(.tmp 22),(.tmp 23)] (zC (.tmp 25) (kUn (fldA none 2) (.tmp 24)) (zC (.tmp 8) (zE (.tmp 25)) zK)))))
def K45r6:zF:=(yM [] (zC (.tmp 26) (zE (.tmp 5)) (zC (.tmp 27) (zE (.tmp 8)) (zC (.tmp 28) (zE (.tmp 5)) (zC (.tmp 29) (zE (.tmp 8)) (zC (.tmp 30) (jG (jR 2) (.tmp 28) (.tmp 29)) (zC (.tmp 31) (zJ (some 2) (.tmp 30)) (zC (.tmp 32) (zE (.tmp 0)) (zC (.tmp 33) (zJ (some 3) (.tmp 7)) (jf (some [30]) (.tmp 34) (.con (.func 74 [] [])) [(.tmp 32),(.tmp 33)] (zC (.tmp 35) (kUn (fldA (some 2) 0) (.tmp 34)) (zC (.tmp 36) (jB [(.int .i64 0),(.int .i64 0),(.int .i64 0),(.int .i64 0)] 2 [(0,2,(.tmp 31)),(2,2,(.tmp 35))]) (zz (.tmp 37) (.con (.func 73 [] [])) [(.tmp 36)] (zC (.tmp 38) (jG (jR 2) (.tmp 26) (.tmp 27)) (zC .none (jC 2 (.tmp 38) (.tmp 37)) zK)))))))))))))))
def K45r7:zF:=(zC (.tmp 39) (za jH (.tmp 18) (.con (.int .i64 1))) (zC (.tmp 18) (zE (.tmp 39)) zK))
def K45l0:K:=(zG (zD K45r3 [19]) (zG (zv (.tmp 19) zw (jz 0)) (zG (zd 1 (zG (zD K45r4 [7]) (zG (zD K45r5 [8]) (zr K45r6 [])))) (zD K45r7 [18]))))
def K45r8:zF:=(zC (.tmp 40) (zE (.tmp 5)) (zC (.tmp 4) (zE (.tmp 40)) zK))
theorem res45:Try.f45.results.toList=[.tmp 4]:=by kernel_rfl
def K45:K:=(zG (zD K45r0 [4]) (zG (zD K45r1 [5]) (zG (zG (zD K45r2 [16,17,18]) (zd 0 (jx K45l0))) (zG (zD K45r8 [4]) jI))))
theorem enter45 (cl:zS) (a0 a1:AV) (s:St):zj Try.prog X cl 45 [a0,a1] s Try.f45=jh Try.prog Try.f45 (K45 cl ⟨45,none,Try.f45.ntmps,X 45⟩ (zQ 0 [a0,a1] .nil) [] s) :=
  zX (b:=Try.f45.body.getD .skip) (by kernel_rfl) (by kernel_rfl) (by kernel_rfl) (by kernel_rfl) (by kernel_rfl)
def K46r0:zF:=(zC (.tmp 4) (zE (.con (.int .i64 0))) zK)
def K46r1:zF:=(zC (.tmp 5) (zE (.con (.int .i64 1))) zK)
def K46r2:zF:=(zC (.tmp 8) (zE (.tmp 0)) (zC (.tmp 9) (zE (.tmp 1)) (zz (.tmp 10) (.con (.func 45 [] [])) [(.tmp 8),(.tmp 9)] (zC (.tmp 11) (kUn jA (.tmp 10)) (zC (.tmp 12) (zE (.con (.int .i64 0))) zK)))))
def K46r3:zF:=(zC (.tmp 13) (za yL (.tmp 12) (.tmp 11)) zK)
def K46r4:zF:=(zC (.tmp 14) (zE (.tmp 12)) (zC (.tmp 15) (jG (jR 2) (.tmp 10) (.tmp 12)) (zC (.tmp 16) (zJ (some 2) (.tmp 15)) (zC (.tmp 7) (jO [(.int .i64 0),(.int .i64 0)] (tag 44)) (zC (.tmp 6) (zE (.tmp 14)) (zC .none (jC 2 (.tmp 7) (.tmp 16)) zK))))))
def K46r5:zF:=(yM [] (zC (.tmp 17) (kUn (zY 0) (.tmp 7)) (zC (.tmp 18) (zJ none (.tmp 17)) (zC (.tmp 19) (zE (.tmp 0)) (zC (.tmp 20) (kUn wZ (.tmp 19)) (zC (.tmp 21) (kUn (zY 0) (.tmp 20)) (zC (.tmp 22) (kUn (zY 6) (.tmp 21)) (zC (.tmp 23) (zJ none (.tmp 22)) (zC (.tmp 24) (zE (.tmp 6)) (zC (.tmp 25) (jG (jR 1) (.tmp 23) (.tmp 24)) (zC (.tmp 26) (zJ none (.tmp 25)) (zC (.tmp 27) (YO (.tmp 18) (.tmp 26)) zK))))))))))))
def K46r6:zF:=(zC (.tmp 4) (zE (.con (.int .i64 2))) zK)
def K46r7:zF:=(yM [] (zC (.tmp 28) (kUn (zY 1) (.tmp 7)) (zC (.tmp 29) (zJ none (.tmp 28)) (zC (.tmp 30) (zE (.tmp 0)) (zC (.tmp 31) (kUn wZ (.tmp 30)) (zC (.tmp 32) (kUn (zY 0) (.tmp 31)) (zC (.tmp 33) (kUn (zY 6) (.tmp 32)) (zC (.tmp 34) (zJ none (.tmp 33)) (zC (.tmp 35) (zE (.tmp 6)) (zC (.tmp 36) (jG (jR 1) (.tmp 34) (.tmp 35)) (zC (.tmp 37) (zJ none (.tmp 36)) (zC (.tmp 38) (YO (.tmp 29) (.tmp 37)) zK))))))))))))
def K46r8:zF:=(zC (.tmp 5) (zE (.con (.int .i64 3))) zK)
def K46r9:zF:=(zC (.tmp 39) (za jH (.tmp 12) (.con (.int .i64 1))) (zC (.tmp 12) (zE (.tmp 39)) zK))
def K46l0:K:=(zG (zD K46r3 [13]) (zG (zv (.tmp 13) zw (jz 0)) (zG (zd 1 (zG (zD K46r4 [7,6]) (zG (zG (zr K46r5 [27]) (zv (.tmp 27) (zG (zD K46r6 [4]) jI) zw)) (zG (zr K46r7 [38]) (zv (.tmp 38) (zD K46r8 [5]) zw))))) (zD K46r9 [12]))))
def K46r10:zF:=(zC (.tmp 40) (zE (.tmp 5)) (zC (.tmp 4) (zE (.tmp 40)) zK))
theorem res46:Try.f46.results.toList=[.tmp 4]:=by kernel_rfl
def K46:K:=(zG (zD K46r0 [4]) (zG (zD K46r1 [5]) (zG (zG (zD K46r2 [10,11,12]) (zd 0 (jx K46l0))) (zG (zD K46r10 [4]) jI))))
theorem enter46 (cl:zS) (a0 a1:AV) (s:St):zj Try.prog X cl 46 [a0,a1] s Try.f46=jh Try.prog Try.f46 (K46 cl ⟨46,none,Try.f46.ntmps,X 46⟩ (zQ 0 [a0,a1] .nil) [] s) :=
  zX (b:=Try.f46.body.getD .skip) (by kernel_rfl) (by kernel_rfl) (by kernel_rfl) (by kernel_rfl) (by kernel_rfl)
def K73r0:zF:=(zC (.tmp 2) (jO [(.int .i64 0),(.int .i64 0)] (tag 44)) zK)
def K73r1:zF:=(zC (.tmp 3) (jO [(.int .i64 0),(.int .i64 0)] (tag 44)) zK)
def K73r2:zF:=(zC (.tmp 6) (zE (.tmp 0)) (zC (.tmp 7) (kUn jA (.tmp 6)) (zC (.tmp 8) (zE (.con (.int .i64 0))) zK)))
def K73r3:zF:=(zC (.tmp 9) (za yL (.tmp 8) (.tmp 7)) zK)
def K73r4:zF:=(zC (.tmp 10) (jG (jR 2) (.tmp 6) (.tmp 8)) (zC (.tmp 11) (zJ (some 2) (.tmp 10)) (zC (.tmp 5) (jO [(.int .i64 0),(.int .i64 0)] (tag 44)) (zC .none (jC 2 (.tmp 5) (.tmp 11)) zK))))
def K73r5:zF:=(zC (.tmp 12) (kUn (zY 0) (.tmp 3)) (zC (.tmp 13) (zJ none (.tmp 12)) (zC (.tmp 14) (kUn (zY 0) (.tmp 5)) (zC (.tmp 15) (zJ none (.tmp 14)) (zC (.tmp 16) (za jH (.tmp 13) (.tmp 15)) (zC (.tmp 17) (kUn (zY 0) (.tmp 3)) (zC .none (jC 1 (.tmp 17) (.tmp 16)) zK)))))))
def K73r6:zF:=(zC (.tmp 18) (kUn (zY 1) (.tmp 3)) (zC (.tmp 19) (zJ none (.tmp 18)) (zC (.tmp 20) (kUn (zY 1) (.tmp 5)) (zC (.tmp 21) (zJ none (.tmp 20)) (zC (.tmp 22) (za jH (.tmp 19) (.tmp 21)) (zC (.tmp 23) (kUn (zY 1) (.tmp 3)) (zC .none (jC 1 (.tmp 23) (.tmp 22)) zK)))))))
def K73r7:zF:=(zC (.tmp 24) (za jH (.tmp 8) (.con (.int .i64 1))) (zC (.tmp 8) (zE (.tmp 24)) zK))
def K73l0:K:=(zG (zD K73r3 [9]) (zG (zv (.tmp 9) zw (jz 0)) (zG (zd 1 (zG (zD K73r4 [5]) (zG (zD K73r5 []) (zD K73r6 [])))) (zD K73r7 [8]))))
def K73r8:zF:=(zC (.tmp 25) (zJ (some 2) (.tmp 3)) (zC .none (jC 2 (.tmp 2) (.tmp 25)) zK))
theorem res73:Try.f73.results.toList=[.cell 2 44]:=by kernel_rfl
def K73:K:=(zG (zD K73r0 [2]) (zG (zD K73r1 [3]) (zG (zG (zD K73r2 [6,7,8]) (zd 0 (jx K73l0))) (zG (zD K73r8 []) jI))))
theorem enter73 (cl:zS) (a0:AV) (s:St):zj Try.prog X cl 73 [a0] s Try.f73=jh Try.prog Try.f73 (K73 cl ⟨73,none,Try.f73.ntmps,X 73⟩ (zQ 0 [a0] .nil) [] s) :=
  zX (b:=Try.f73.body.getD .skip) (by kernel_rfl) (by kernel_rfl) (by kernel_rfl) (by kernel_rfl) (by kernel_rfl)
end
end Go.Proofs.Ytoklbkgcclkejaa.code
set_option maxRecDepth 100000
namespace Go.Proofs.Ytoklbkgcclkejaa.code
open Go.Abs
noncomputable section
def K39r0:zF:=(zC (.tmp 2) (zE (.con (.int .u64 0))) zK)
def K39r1:zF:=(zC (.tmp 4) (zE (.tmp 0)) (zC (.tmp 5) (zE (.tmp 0)) (zC (.tmp 6) (kUn wZ (.tmp 5)) (zC (.tmp 7) (kUn (zY 0) (.tmp 6)) (zC (.tmp 8) (zJ none (.tmp 7)) (zC (.tmp 9) (za jH (.tmp 8) (.con (.int .u64 11562461410679940143))) (zC (.tmp 10) (kUn wZ (.tmp 4)) (zC (.tmp 11) (kUn (zY 0) (.tmp 10)) (zC .none (jC 1 (.tmp 11) (.tmp 9)) zK)))))))))
def K39r2:zF:=(zC (.tmp 12) (zE (.tmp 0)) (zC (.tmp 13) (kUn wZ (.tmp 12)) (zC (.tmp 14) (kUn (zY 0) (.tmp 13)) (zC (.tmp 15) (zJ none (.tmp 14)) (zC (.tmp 3) (zE (.tmp 15)) zK)))))
def K39r3:zF:=(zC (.tmp 16) (zE (.tmp 3)) (zC (.tmp 17) (zE (.tmp 3)) (zC (.tmp 18) (kShr (.tmp 17) (.con (.int .u64 30))) (zC (.tmp 19) (za aXor (.tmp 16) (.tmp 18)) (zC (.tmp 20) (za aMul (.tmp 19) (.con (.int .u64 13787848793156543929))) (zC (.tmp 3) (zE (.tmp 20)) zK))))))
def K39r4:zF:=(zC (.tmp 21) (zE (.tmp 3)) (zC (.tmp 22) (zE (.tmp 3)) (zC (.tmp 23) (kShr (.tmp 22) (.con (.int .u64 27))) (zC (.tmp 24) (za aXor (.tmp 21) (.tmp 23)) (zC (.tmp 25) (za aMul (.tmp 24) (.con (.int .u64 10723151780598845931))) (zC (.tmp 3) (zE (.tmp 25)) zK))))))
def K39r5:zF:=(zC (.tmp 26) (zE (.tmp 3)) (zC (.tmp 27) (zE (.tmp 3)) (zC (.tmp 28) (kShr (.tmp 27) (.con (.int .u64 31))) (zC (.tmp 29) (za aXor (.tmp 26) (.tmp 28)) (zC (.tmp 2) (zE (.tmp 29)) zK)))))
theorem res39:Try.f39.results.toList=[.tmp 2]:=by kernel_rfl
def K39:K:=(zG (zD K39r0 [2]) (zG (zD K39r1 []) (zG (zD K39r2 [3]) (zG (zD K39r3 [3]) (zG (zD K39r4 [3]) (zG (zD K39r5 [2]) jI))))))
theorem enter39 (cl:zS) (a0:AV) (s:St):zj Try.prog X cl 39 [a0] s Try.f39=jh Try.prog Try.f39 (K39 cl ⟨39,none,Try.f39.ntmps,X 39⟩ (zQ 0 [a0] .nil) [] s) :=
  zX (b:=Try.f39.body.getD .skip) (by kernel_rfl) (by kernel_rfl) (by kernel_rfl) (by kernel_rfl) (by kernel_rfl)
def K25r0:zF:=(zC (.tmp 4) (zE (.con (.int .i64 0))) zK)
def K25r1:zF:=(zC (.tmp 5) (zE (.tmp 1)) (zC (.tmp 6) (za yL (.tmp 5) (.con (.int .i64 2))) zK))
def K25r2:zF:=(zC (.tmp 4) (zE (.con (.int .i64 0))) zK)
def K25r3:zF:=(zC (.tmp 7) (zE (.tmp 0)) (zz (.tmp 8) (.con (.func 39 [] [])) [(.tmp 7)] (zC (.tmp 9) (kShr (.tmp 8) (.con (.int .u64 2))) (zC (.tmp 10) (zE (.tmp 1)) (zC (.tmp 11) (kUn (cviA .u64) (.tmp 10)) (zC (.tmp 12) (za aRem (.tmp 9) (.tmp 11)) (zC (.tmp 13) (kUn (cviA .i64) (.tmp 12)) (zC (.tmp 4) (zE (.tmp 13)) zK))))))))
theorem res25:Try.f25.results.toList=[.tmp 4]:=by kernel_rfl
def K25:K:=(zG (zD K25r0 [4]) (zG (zG (zD K25r1 [6]) (zv (.tmp 6) (zG (zD K25r2 [4]) jI) zw)) (zG (zD K25r3 [4]) jI)))
theorem enter25 (cl:zS) (a0 a1:AV) (s:St):zj Try.prog X cl 25 [a0,a1] s Try.f25=jh Try.prog Try.f25 (K25 cl ⟨25,none,Try.f25.ntmps,X 25⟩ (zQ 0 [a0,a1] .nil) [] s) :=
  zX (b:=Try.f25.body.getD .skip) (by kernel_rfl) (by kernel_rfl) (by kernel_rfl) (by kernel_rfl) (by kernel_rfl)
def K35r0:zF:=(zC (.tmp 6) (zE (.con (.int .i64 0))) zK)
def K35r1:zF:=(zC (.tmp 7) (zE (.tmp 1)) (zC (.tmp 8) (zE (.tmp 0)) (zC (.tmp 9) (zE (.tmp 2)) (zC (.tmp 10) (zE (.tmp 1)) (zC (.tmp 11) (za yl (.tmp 9) (.tmp 10)) (zC (.tmp 12) (za jH (.tmp 11) (.con (.int .i64 1))) (zz (.tmp 13) (.con (.func 25 [] [])) [(.tmp 8),(.tmp 12)] (zC (.tmp 14) (za jH (.tmp 7) (.tmp 13)) (zC (.tmp 6) (zE (.tmp 14)) zK)))))))))
theorem res35:Try.f35.results.toList=[.tmp 6]:=by kernel_rfl
def K35:K:=(zG (zD K35r0 [6]) (zG (zD K35r1 [6]) jI))
theorem enter35 (cl:zS) (a0 a1 a2:AV) (s:St):zj Try.prog X cl 35 [a0,a1,a2] s Try.f35=jh Try.prog Try.f35 (K35 cl ⟨35,none,Try.f35.ntmps,X 35⟩ (zQ 0 [a0,a1,a2] .nil) [] s) :=
  zX (b:=Try.f35.body.getD .skip) (by kernel_rfl) (by kernel_rfl) (by kernel_rfl) (by kernel_rfl) (by kernel_rfl)
def K22r0:zF:=(zC (.tmp 4) (zE (.con (.bool false))) zK)
def K22r1:zF:=(zC (.tmp 5) (zE (.tmp 0)) (zC (.tmp 6) (zE (.tmp 1)) (zz (.tmp 7) (.con (.func 25 [] [])) [(.tmp 5),(.tmp 6)] (zC (.tmp 8) (za aEql (.tmp 7) (.con (.int .i64 0))) (zC (.tmp 4) (zE (.tmp 8)) zK)))))
theorem res22:Try.f22.results.toList=[.tmp 4]:=by kernel_rfl
def K22:K:=(zG (zD K22r0 [4]) (zG (zD K22r1 [4]) jI))
theorem enter22 (cl:zS) (a0 a1:AV) (s:St):zj Try.prog X cl 22 [a0,a1] s Try.f22=jh Try.prog Try.f22 (K22 cl ⟨22,none,Try.f22.ntmps,X 22⟩ (zQ 0 [a0,a1] .nil) [] s) :=
  zX (b:=Try.f22.body.getD .skip) (by kernel_rfl) (by kernel_rfl) (by kernel_rfl) (by kernel_rfl) (by kernel_rfl)
def K34r0:zF:=(zC (.tmp 4) (zE (.con (.int .i64 0))) zK)
def K34r1:zF:=(zC (.tmp 5) (zE (.tmp 1)) (zC (.tmp 6) (kUn jA (.tmp 5)) (zC (.tmp 7) (za aEql (.tmp 6) (.con (.int .i64 0))) zK)))
def K34r2:zF:=(zC (.tmp 4) (zE (.con (.int .i64 0))) zK)
def K34r3:zF:=(zC (.tmp 8) (zE (.tmp 1)) (zC (.tmp 9) (zE (.tmp 0)) (zC (.tmp 10) (zE (.tmp 1)) (zC (.tmp 11) (kUn jA (.tmp 10)) (zz (.tmp 12) (.con (.func 25 [] [])) [(.tmp 9),(.tmp 11)] (zC (.tmp 13) (jG (jR 1) (.tmp 8) (.tmp 12)) (zC (.tmp 14) (zJ none (.tmp 13)) (zC (.tmp 4) (zE (.tmp 14)) zK))))))))
theorem res34:Try.f34.results.toList=[.tmp 4]:=by kernel_rfl
def K34:K:=(zG (zD K34r0 [4]) (zG (zG (zD K34r1 [7]) (zv (.tmp 7) (zG (zD K34r2 [4]) jI) zw)) (zG (zD K34r3 [4]) jI)))
theorem enter34 (cl:zS) (a0 a1:AV) (s:St):zj Try.prog X cl 34 [a0,a1] s Try.f34=jh Try.prog Try.f34 (K34 cl ⟨34,none,Try.f34.ntmps,X 34⟩ (zQ 0 [a0,a1] .nil) [] s) :=
  zX (b:=Try.f34.body.getD .skip) (by kernel_rfl) (by kernel_rfl) (by kernel_rfl) (by kernel_rfl) (by kernel_rfl)
def K41r0:zF:=(zC (.tmp 6) (jO [(.int .i64 0),(.int .i64 0)] (tag 44)) zK)
def K41r1:zF:=(zC (.tmp 9) (zE (.tmp 0)) (zC (.tmp 10) (zE (.tmp 1)) (zC (.tmp 11) (zE (.tmp 2)) (zz (.tmp 12) (.con (.func 35 [] [])) [(.tmp 9),(.tmp 10),(.tmp 11)] (zC (.tmp 7) (zE (.tmp 12)) zK)))))
def K41r2:zF:=(zC (.tmp 13) (zE (.tmp 0)) (zC (.tmp 14) (zE (.tmp 7)) (zC (.tmp 15) (zE (.tmp 2)) (zC (.tmp 16) (zE (.tmp 7)) (zC (.tmp 17) (za jH (.tmp 16) (.con (.int .i64 4))) (zC (.tmp 18) (gi minA (.tmp 15) [(.tmp 17)]) (zC (.tmp 19) (zE (.tmp 2)) (zC (.tmp 20) (jB [(.int .i64 0),(.int .i64 0),(.int .i64 0)] 3 [(0,1,(.tmp 14)),(1,1,(.tmp 18)),(2,1,(.tmp 19))]) (zz (.tmp 21) (.con (.func 34 [] [])) [(.tmp 13),(.tmp 20)] (zC (.tmp 8) (zE (.tmp 21)) zK))))))))))
def K41r3:zF:=(zC (.tmp 22) (zE (.tmp 7)) (zC (.tmp 23) (zE (.tmp 0)) (zC (.tmp 24) (zE (.tmp 7)) (zC (.tmp 25) (zE (.tmp 8)) (zz (.tmp 26) (.con (.func 35 [] [])) [(.tmp 23),(.tmp 24),(.tmp 25)] (zC (.tmp 27) (yR [(.int .i64 0),(.int .i64 0)] [(0,1,(.tmp 22)),(1,1,(.tmp 26))]) (zC .none (jC 2 (.tmp 6) (.tmp 27)) zK)))))))
theorem res41:Try.f41.results.toList=[.cell 6 44]:=by kernel_rfl
def K41:K:=(zG (zD K41r0 [6]) (zG (zD K41r1 [7]) (zG (zD K41r2 [8]) (zG (zD K41r3 []) jI))))
theorem enter41 (cl:zS) (a0 a1 a2:AV) (s:St):zj Try.prog X cl 41 [a0,a1,a2] s Try.f41=jh Try.prog Try.f41 (K41 cl ⟨41,none,Try.f41.ntmps,X 41⟩ (zQ 0 [a0,a1,a2] .nil) [] s) :=
  zX (b:=Try.f41.body.getD .skip) (by kernel_rfl) (by kernel_rfl) (by kernel_rfl) (by kernel_rfl) (by kernel_rfl)
end
end Go.Proofs.Ytoklbkgcclkejaa.code
set_option maxRecDepth 100000
namespace Go.Proofs.Ytoklbkgcclkejaa.code
open Go.Abs
noncomputable section
def K11r0:zF:=(zC (.tmp 8) (jO [(.int .i64 0),(.int .i64 0),.nilslice,.nilslice,(.int .i64 0),(.int .i64 0),.nilslice,.nilslice] (tag 30)) zK)
def K11r1:zF:=(zC (.tmp 17) (zE (.tmp 0)) (zC (.tmp 18) (zE (.tmp 1)) (zz (.tmp 19) (.con (.func 35 [] [])) [(.tmp 17),(.con (.int .i64 1)),(.tmp 18)] (zC (.tmp 20) (zE (.tmp 0)) (zC (.tmp 21) (zE (.tmp 2)) (zz (.tmp 22) (.con (.func 35 [] [])) [(.tmp 20),(.con (.int .i64 1)),(.tmp 21)] (zC (.tmp 23) (yR [(.int .i64 0),(.int .i64 0),.nilslice,.nilslice,(.int .i64 0),(.int .i64 0),.nilslice,.nilslice] [(0,1,(.tmp 19)),(1,1,(.tmp 22))]) (zC (.tmp 9) (jO [(.int .i64 0),(.int .i64 0),.nilslice,.nilslice,(.int .i64 0),(.int .i64 0),.nilslice,.nilslice] (tag 30)) (zC .none (jC 8 (.tmp 9) (.tmp 23)) zK)))))))))
def K11r2:zF:=(yM [] (zC (.tmp 24) (zE (.tmp 0)) (zC (.tmp 25) (kUn (zY 0) (.tmp 9)) (zC (.tmp 26) (zJ none (.tmp 25)) (jf (some [29]) (.tmp 27) (.con (.func 35 [] [])) [(.tmp 24),(.con (.int .i64 1)),(.tmp 26)] (zC (.tmp 28) (zE (.tmp 0)) (zC (.tmp 29) (kUn (zY 1) (.tmp 9)) (zC (.tmp 30) (zJ none (.tmp 29)) (zz (.tmp 31) (.con (.func 35 [] [])) [(.tmp 28),(.con (.int .i64 1)),(.tmp 30)] (zC (.tmp 32) (yR [(.int .i64 0),(.int .i64 0)] [(0,1,(.tmp 27)),(1,1,(.tmp 31))]) (zC (.tmp 33) (kUn (zY 4) (.tmp 9)) (zC .none (jC 2 (.tmp 33) (.tmp 32)) zK))))))))))))
def K11r3:zF:=(zC (.tmp 34) (zJ (some 8) (.tmp 9)) (zz (.tmp 35) (.con (.func 40 [] [])) [(.tmp 34)] (zC (.tmp 10) (zE (.tmp 35)) zK)))
def K11r4:zF:=(zC (.tmp 11) (zE (.con (.int .i64 0))) zK)
def K11r5:zF:=(zC (.tmp 36) (zE (.tmp 11)) (zC (.tmp 37) (zE (.tmp 10)) (zC (.tmp 38) (kUn jA (.tmp 37)) (zC (.tmp 39) (za yL (.tmp 36) (.tmp 38)) zK))))
def K11r6:zF:=(zC (.tmp 42) (zE (.tmp 0)) (zz (.tmp 43) (.con (.func 22 [] [])) [(.tmp 42),(.con (.int .i64 2))] zK))
def K11r7:zF:=(yM [] (zC (.tmp 44) (kUn (zY 2) (.tmp 9)) (zC (.tmp 45) (zJ none (.tmp 44)) (zC (.tmp 46) (zE (.tmp 10)) (zC (.tmp 47) (zE (.tmp 11)) (zC (.tmp 48) (jG (jR 2) (.tmp 46) (.tmp 47)) (zC (.tmp 49) (zJ (some 2) (.tmp 48)) (zC (.tmp 50) (jB [(.int .i64 0),(.int .i64 0)] 1 [(0,2,(.tmp 49))]) (zC (.tmp 51) (jG (jV false 2 16 (tag 27)) (.tmp 45) (.tmp 50)) (zC (.tmp 52) (kUn (zY 2) (.tmp 9)) (zC .none (jC 1 (.tmp 52) (.tmp 51)) zK)))))))))))
def K11r8:zF:=(zC (.tmp 53) (zE (.tmp 0)) (zz (.tmp 54) (.con (.func 22 [] [])) [(.tmp 53),(.con (.int .i64 7))] zK))
def K11r9:zF:=(yM [] (zC (.tmp 55) (kUn (zY 3) (.tmp 9)) (zC (.tmp 56) (zJ none (.tmp 55)) (zC (.tmp 57) (zE (.tmp 10)) (zC (.tmp 58) (zE (.tmp 11)) (zC (.tmp 59) (jG (jR 2) (.tmp 57) (.tmp 58)) (zC (.tmp 60) (zJ (some 2) (.tmp 59)) (zC (.tmp 61) (jB [(.int .i64 0),(.int .i64 0)] 1 [(0,2,(.tmp 60))]) (zC (.tmp 62) (jG (jV false 2 16 (tag 27)) (.tmp 56) (.tmp 61)) (zC (.tmp 63) (kUn (zY 3) (.tmp 9)) (zC .none (jC 1 (.tmp 63) (.tmp 62)) zK)))))))))))
def K11r10:zF:=(zC (.tmp 40) (zE (.tmp 11)) (zC (.tmp 41) (za jH (.tmp 40) (.con (.int .i64 1))) (zC (.tmp 11) (zE (.tmp 41)) zK)))
def K11l0:K:=(zG (zG (zD K11r5 [39]) (zv (.tmp 39) zw (jz 0))) (zG (zd 1 (zG (zG (zD K11r6 [43]) (zv (.tmp 43) (zr K11r7 []) zw)) (zG (zD K11r8 [54]) (zv (.tmp 54) (zr K11r9 []) zw)))) (zD K11r10 [11])))
def K11r11:zF:=(zC (.tmp 64) (zJ (some 8) (.tmp 9)) (zz (.tmp 65) (.con (.func 36 [] [])) [(.tmp 64)] (zC (.tmp 12) (zE (.tmp 65)) zK)))
def K11r12:zF:=(zC (.tmp 66) (zE (.tmp 12)) (zC (.tmp 67) (YO (.tmp 66) (.con (.int .i64 0))) zK))
def K11r13:zF:=(yM [] (zC (.tmp 70) (kUn (zY 6) (.tmp 9)) (zC (.tmp 71) (zJ none (.tmp 70)) (zC (.tmp 72) (zE (.tmp 0)) (zC (.tmp 73) (zE (.tmp 0)) (jf (some [70]) (.tmp 74) (.con (.func 25 [] [])) [(.tmp 73),(.con (.int .i64 40))] (zC (.tmp 75) (zE (.tmp 0)) (jf (some [70]) (.tmp 76) (.con (.func 25 [] [])) [(.tmp 75),(.con (.int .i64 120))] (zC (.tmp 77) (jB [(.int .i64 0),(.int .i64 0),(.int .i64 0)] 3 [(0,1,(.tmp 74)),(1,1,(.tmp 76)),(2,1,(.con (.int .i64 300)))]) (jf (some [70]) (.tmp 78) (.con (.func 34 [] [])) [(.tmp 72),(.tmp 77)] (zC (.tmp 79) (jB [(.int .i64 0)] 1 [(0,1,(.tmp 78))]) (zC (.tmp 80) (jG (jV false 1 8 (tag 3)) (.tmp 71) (.tmp 79)) (zC (.tmp 81) (kUn (zY 6) (.tmp 9)) (zC .none (jC 1 (.tmp 81) (.tmp 80)) zK))))))))))))))
def K11r14:zF:=(zC (.tmp 68) (zE (.tmp 12)) (zC (.tmp 69) (za yl (.tmp 68) (.con (.int .i64 1))) (zC (.tmp 12) (zE (.tmp 69)) zK)))
def K11l1:K:=(zG (zG (zD K11r12 [67]) (zv (.tmp 67) zw (jz 2))) (zG (zd 3 (zr K11r13 [])) (zD K11r14 [12])))
def K11r15:zF:=(zC (.tmp 82) (zE (.tmp 0)) (zC (.tmp 83) (zE (.tmp 3)) (zz (.tmp 84) (.con (.func 35 [] [])) [(.tmp 82),(.con (.int .i64 1)),(.tmp 83)] (zC (.tmp 13) (zE (.tmp 84)) zK))))
def K11r16:zF:=(zC (.tmp 14) (zE (.con (.int .i64 0))) zK)
def K11r17:zF:=(zC (.tmp 85) (zE (.tmp 14)) (zC (.tmp 86) (zE (.tmp 13)) (zC (.tmp 87) (za yL (.tmp 85) (.tmp 86)) zK)))
def K11r18:zF:=(zC (.tmp 90) (zE (.tmp 0)) (zC (.tmp 91) (zE (.tmp 0)) (zC (.tmp 92) (jB [(.int .i64 0),(.int .i64 0)] 2 [(0,1,(.con (.int .i64 5))),(1,1,(.con (.int .i64 60)))]) (zz (.tmp 93) (.con (.func 34 [] [])) [(.tmp 91),(.tmp 92)] (zz (.tmp 94) (.con (.func 41 [] [])) [(.tmp 90),(.con (.int .i64 0)),(.tmp 93)] (zC (.tmp 95) (zE (.tmp 0)) (zz (.tmp 96) (.con (.func 22 [] [])) [(.tmp 95),(.con (.int .i64 3))] (zC (.tmp 97) (zE (.tmp 0)) (zz (.tmp 98) (.con (.func 25 [] [])) [(.tmp 97),(.con (.int .i64 50))] (zC (.tmp 99) (zE (.tmp 0)) (zz (.tmp 100) (.con (.func 35 [] [])) [(.tmp 99),(.con (.int .i64 1)),(.con (.int .i64 5))] (zC (.tmp 101) (yR [(.int .i64 0),(.int .i64 0),(.bool false),.nilslice,(.int .i64 0),(.int .i64 0)] [(0,2,(.tmp 94)),(2,1,(.tmp 96)),(4,1,(.tmp 98)),(5,1,(.tmp 100))]) (zC (.tmp 15) (jO [(.int .i64 0),(.int .i64 0),(.bool false),.nilslice,(.int .i64 0),(.int .i64 0)] (tag 49)) (zC .none (jC 6 (.tmp 15) (.tmp 101)) zK))))))))))))))
def K11r19:zF:=(zC (.tmp 16) (zE (.con (.int .i64 0))) zK)
def K11r20:zF:=(zC (.tmp 102) (zE (.tmp 16)) (zC (.tmp 103) (zE (.tmp 13)) (zC (.tmp 104) (za yL (.tmp 102) (.tmp 103)) zK)))
def K11r21:zF:=(yM [] (zC (.tmp 107) (kUn (zY 3) (.tmp 15)) (zC (.tmp 108) (zJ none (.tmp 107)) (zC (.tmp 109) (zE (.tmp 0)) (zC (.tmp 110) (zE (.tmp 0)) (jf (some [107]) (.tmp 111) (.con (.func 25 [] [])) [(.tmp 110),(.con (.int .i64 4))] (zC (.tmp 112) (jB [(.int .i64 0),(.int .i64 0),(.int .i64 0)] 3 [(0,1,(.con (.int .i64 0))),(1,1,(.con (.int .i64 0))),(2,1,(.tmp 111))]) (jf (some [107]) (.tmp 113) (.con (.func 34 [] [])) [(.tmp 109),(.tmp 112)] (zC (.tmp 114) (jB [(.int .i64 0)] 1 [(0,1,(.tmp 113))]) (zC (.tmp 115) (jG (jV false 1 8 (tag 3)) (.tmp 108) (.tmp 114)) (zC (.tmp 116) (kUn (zY 3) (.tmp 15)) (zC .none (jC 1 (.tmp 116) (.tmp 115)) zK))))))))))))
def K11r22:zF:=(zC (.tmp 105) (zE (.tmp 16)) (zC (.tmp 106) (za jH (.tmp 105) (.con (.int .i64 1))) (zC (.tmp 16) (zE (.tmp 106)) zK)))
def K11l2:K:=(zG (zG (zD K11r20 [104]) (zv (.tmp 104) zw (jz 6))) (zG (zd 7 (zr K11r21 [])) (zD K11r22 [16])))
def K11r23:zF:=(zC (.tmp 117) (kUn (zY 7) (.tmp 9)) (zC (.tmp 118) (zJ none (.tmp 117)) (zC (.tmp 119) (zJ (some 6) (.tmp 15)) (zC (.tmp 120) (jB [(.int .i64 0),(.int .i64 0),(.bool false),.nilslice,(.int .i64 0),(.int .i64 0)] 1 [(0,6,(.tmp 119))]) (zC (.tmp 121) (jG (jV false 6 64 (tag 49)) (.tmp 118) (.tmp 120)) (zC (.tmp 122) (kUn (zY 7) (.tmp 9)) (zC .none (jC 1 (.tmp 122) (.tmp 121)) zK)))))))
def K11r24:zF:=(zC (.tmp 88) (zE (.tmp 14)) (zC (.tmp 89) (za jH (.tmp 88) (.con (.int .i64 1))) (zC (.tmp 14) (zE (.tmp 89)) zK)))
def K11l3:K:=(zG (zG (zD K11r17 [87]) (zv (.tmp 87) zw (jz 4))) (zG (zd 5 (zG (zD K11r18 [15]) (zG (zG (zD K11r19 [16]) (zd 6 (jx K11l2))) (zD K11r23 [])))) (zD K11r24 [14])))
def K11r25:zF:=(zC (.tmp 123) (zJ (some 8) (.tmp 9)) (zC .none (jC 8 (.tmp 8) (.tmp 123)) zK))
theorem res11:Try.f11.results.toList=[.cell 8 30]:=by kernel_rfl
def K11:K:=(zG (zD K11r0 [8]) (zG (zD K11r1 [9]) (zG (zr K11r2 []) (zG (zD K11r3 [10]) (zG (zG (zD K11r4 [11]) (zd 0 (jx K11l0))) (zG (zG (zD K11r11 [12]) (zd 2 (jx K11l1))) (zG (zD K11r15 [13]) (zG (zG (zD K11r16 [14]) (zd 4 (jx K11l3))) (zG (zD K11r25 []) jI)))))))))
theorem enter11 (cl:zS) (a0 a1 a2 a3:AV) (s:St):zj Try.prog X cl 11 [a0,a1,a2,a3] s Try.f11=jh Try.prog Try.f11 (K11 cl ⟨11,none,Try.f11.ntmps,X 11⟩ (zQ 0 [a0,a1,a2,a3] .nil) [] s) :=
  zX (b:=Try.f11.body.getD .skip) (by kernel_rfl) (by kernel_rfl) (by kernel_rfl) (by kernel_rfl) (by kernel_rfl)
def K40r0:zF:=(zC (.tmp 1) (yB (tag 30) (.tmp 0)) (zC (.tmp 2) (zE (.con .nilslice)) zK))
def K40r1:zF:=(zC (.tmp 3) (zE (.con .nilslice)) zK)
def K40r2:zF:=(zC (.tmp 4) (zE (.con (.int .i64 0))) zK)
def K40r3:zF:=(zC (.tmp 6) (zE (.tmp 4)) (zC (.tmp 7) (kUn (zY 1) (.tmp 1)) (zC (.tmp 8) (zJ none (.tmp 7)) (zC (.tmp 9) (za yL (.tmp 6) (.tmp 8)) zK))))
def K40r4:zF:=(zC (.tmp 5) (zE (.con (.int .i64 0))) zK)
def K40r5:zF:=(zC (.tmp 12) (zE (.tmp 5)) (zC (.tmp 13) (kUn (zY 0) (.tmp 1)) (zC (.tmp 14) (zJ none (.tmp 13)) (zC (.tmp 15) (za yL (.tmp 12) (.tmp 14)) zK))))
def K40r6:zF:=(zC (.tmp 18) (zE (.tmp 3)) (zC (.tmp 19) (zE (.tmp 5)) (zC (.tmp 20) (zE (.tmp 4)) (zC (.tmp 21) (yR [(.int .i64 0),(.int .i64 0)] [(0,1,(.tmp 19)),(1,1,(.tmp 20))]) (zC (.tmp 22) (jB [(.int .i64 0),(.int .i64 0)] 1 [(0,2,(.tmp 21))]) (zC (.tmp 23) (jG (jV false 2 16 (tag 27)) (.tmp 18) (.tmp 22)) (zC (.tmp 3) (zE (.tmp 23)) zK)))))))
def K40r7:zF:=(zC (.tmp 16) (zE (.tmp 5)) (zC (.tmp 17) (za jH (.tmp 16) (.con (.int .i64 1))) (zC (.tmp 5) (zE (.tmp 17)) zK)))
def K40l0:K:=(zG (zG (zD K40r5 [15]) (zv (.tmp 15) zw (jz 2))) (zG (zd 3 (zD K40r6 [3])) (zD K40r7 [5])))
def K40r8:zF:=(zC (.tmp 10) (zE (.tmp 4)) (zC (.tmp 11) (za jH (.tmp 10) (.con (.int .i64 1))) (zC (.tmp 4) (zE (.tmp 11)) zK)))
def K40l1:K:=(zG (zG (zD K40r3 [9]) (zv (.tmp 9) zw (jz 0))) (zG (zd 1 (zG (zD K40r4 [5]) (zd 2 (jx K40l0)))) (zD K40r8 [4])))
def K40r9:zF:=(zC (.tmp 24) (zE (.tmp 3)) (zC (.tmp 2) (zE (.tmp 24)) zK))
theorem res40:Try.f40.results.toList=[.tmp 2]:=by kernel_rfl
def K40:K:=(zG (zD K40r0 [1,2]) (zG (zD K40r1 [3]) (zG (zG (zD K40r2 [4]) (zd 0 (jx K40l1))) (zG (zD K40r9 [2]) jI))))
theorem enter40 (cl:zS) (a0:AV) (s:St):zj Try.prog X cl 40 [a0] s Try.f40=jh Try.prog Try.f40 (K40 cl ⟨40,none,Try.f40.ntmps,X 40⟩ (zQ 0 [a0] .nil) [] s) :=
  zX (b:=Try.f40.body.getD .skip) (by kernel_rfl) (by kernel_rfl) (by kernel_rfl) (by kernel_rfl) (by kernel_rfl)
def K36r0:zF:=(zC (.tmp 1) (yB (tag 30) (.tmp 0)) (zC (.tmp 2) (zE (.con (.int .i64 0))) zK))
def K36r1:zF:=(zC (.tmp 3) (zJ (some 8) (.tmp 1)) (zC (.tmp 4) (kUn (zY 0) (.tmp 1)) (zC (.tmp 5) (zJ none (.tmp 4)) (zC (.tmp 6) (za yl (.tmp 5) (.con (.int .i64 1))) (zC (.tmp 7) (kUn (zY 1) (.tmp 1)) (zC (.tmp 8) (zJ none (.tmp 7)) (zC (.tmp 9) (za yl (.tmp 8) (.con (.int .i64 1))) (zC (.tmp 10) (yR [(.int .i64 0),(.int .i64 0)] [(0,1,(.tmp 6)),(1,1,(.tmp 9))]) (zz (.tmp 11) (.con (.func 47 [] [])) [(.tmp 3),(.tmp 10)] (zC (.tmp 12) (za jH (.tmp 11) (.con (.int .i64 1))) (zC (.tmp 2) (zE (.tmp 12)) zK)))))))))))
theorem res36:Try.f36.results.toList=[.tmp 2]:=by kernel_rfl
def K36:K:=(zG (zD K36r0 [1,2]) (zG (zD K36r1 [2]) jI))
theorem enter36 (cl:zS) (a0:AV) (s:St):zj Try.prog X cl 36 [a0] s Try.f36=jh Try.prog Try.f36 (K36 cl ⟨36,none,Try.f36.ntmps,X 36⟩ (zQ 0 [a0] .nil) [] s) :=
  zX (b:=Try.f36.body.getD .skip) (by kernel_rfl) (by kernel_rfl) (by kernel_rfl) (by kernel_rfl) (by kernel_rfl)
def K47r0:zF:=(zC (.tmp 2) (yB (tag 30) (.tmp 0)) (zC (.tmp 3) (yB (tag 27) (.tmp 1)) (zC (.tmp 4) (zE (.con (.int .i64 0))) zK)))
def K47r1:zF:=(zC (.tmp 6) (kUn (zY 0) (.tmp 2)) (zC (.tmp 7) (zJ none (.tmp 6)) (zC (.tmp 8) (kUn (zY 4) (.tmp 2)) (zC (.tmp 9) (kUn (zY 0) (.tmp 8)) (zC (.tmp 10) (zJ none (.tmp 9)) (zC (.tmp 11) (za jH (.tmp 7) (.tmp 10)) (zC (.tmp 12) (za yl (.tmp 11) (.con (.int .i64 1))) (zC (.tmp 13) (kUn (zY 4) (.tmp 2)) (zC (.tmp 14) (kUn (zY 0) (.tmp 13)) (zC (.tmp 15) (zJ none (.tmp 14)) (zC (.tmp 16) (za Yf (.tmp 12) (.tmp 15)) (zC (.tmp 5) (zE (.tmp 16)) zK))))))))))))
def K47r2:zF:=(yM [] (zC (.tmp 17) (kUn (zY 1) (.tmp 3)) (zC (.tmp 18) (zJ none (.tmp 17)) (zC (.tmp 19) (kUn (zY 4) (.tmp 2)) (zC (.tmp 20) (kUn (zY 1) (.tmp 19)) (zC (.tmp 21) (zJ none (.tmp 20)) (zC (.tmp 22) (za Yf (.tmp 18) (.tmp 21)) (zC (.tmp 23) (zE (.tmp 5)) (zC (.tmp 24) (za aMul (.tmp 22) (.tmp 23)) (zC (.tmp 25) (kUn (zY 0) (.tmp 3)) (zC (.tmp 26) (zJ none (.tmp 25)) (zC (.tmp 27) (kUn (zY 4) (.tmp 2)) (zC (.tmp 28) (kUn (zY 0) (.tmp 27)) (zC (.tmp 29) (zJ none (.tmp 28)) (zC (.tmp 30) (za Yf (.tmp 26) (.tmp 29)) (zC (.tmp 31) (za jH (.tmp 24) (.tmp 30)) (zC (.tmp 4) (zE (.tmp 31)) zK)))))))))))))))))
theorem res47:Try.f47.results.toList=[.tmp 4]:=by kernel_rfl
def K47:K:=(zG (zD K47r0 [2,3,4]) (zG (zD K47r1 [5]) (zG (zr K47r2 [4]) jI)))
theorem enter47 (cl:zS) (a0 a1:AV) (s:St):zj Try.prog X cl 47 [a0,a1] s Try.f47=jh Try.prog Try.f47 (K47 cl ⟨47,none,Try.f47.ntmps,X 47⟩ (zQ 0 [a0,a1] .nil) [] s) :=
  zX (b:=Try.f47.body.getD .skip) (by kernel_rfl) (by kernel_rfl) (by kernel_rfl) (by kernel_rfl) (by kernel_rfl)
end
end Go.Proofs.Ytoklbkgcclkejaa.code
set_option maxRecDepth 100000
namespace Go.Proofs.Ytoklbkgcclkejaa.code
open Go.Abs
noncomputable section
def K99r0:zF:=(zC (.tmp 2) (yB (tag 30) (.tmp 0)) (zC (.tmp 3) (yB (tag 27) (.tmp 1)) (zC (.tmp 4) (zE (.con (.bool false))) zK)))
def K99r1s13:zF:=(zC (.tmp 18) (yN (.tmp 11) (.tmp 17) (.con (.bool false))) (zC (.tmp 4) (zE (.tmp 18)) zK))
def K99r1s12:zF:=(oIf 11 true (zz (.tmp 17) (.con (.func 87 [] [])) [(.tmp 13),(.con (.int .i64 0)),(.tmp 16)] K99r1s13) (zZ (.tmp 17) K99r1s13))
def K99r1s11:zF:=(oIf 11 true (zC (.tmp 16) (za yl (.tmp 15) (.con (.int .i64 1))) K99r1s12) (zZ (.tmp 16) K99r1s12))
def K99r1s10:zF:=(oIf 11 true (zC (.tmp 15) (zJ none (.tmp 14)) K99r1s11) (zZ (.tmp 15) K99r1s11))
def K99r1s9:zF:=(oIf 11 true (zC (.tmp 14) (kUn (zY 1) (.tmp 2)) K99r1s10) (zZ (.tmp 14) K99r1s10))
def K99r1s8:zF:=(oIf 11 true (zC (.tmp 13) (zJ none (.tmp 12)) K99r1s9) (zZ (.tmp 13) K99r1s9))
def K99r1:zF:=(zC (.tmp 5) (kUn (zY 0) (.tmp 3)) (zC (.tmp 6) (zJ none (.tmp 5)) (zC (.tmp 7) (kUn (zY 0) (.tmp 2)) (zC (.tmp 8) (zJ none (.tmp 7)) (zC (.tmp 9) (za yl (.tmp 8) (.con (.int .i64 1))) (zz (.tmp 10) (.con (.func 87 [] [])) [(.tmp 6),(.con (.int .i64 0)),(.tmp 9)] (zC (.tmp 11) (zE (.tmp 10)) (oIf 11 true (zC (.tmp 12) (kUn (zY 1) (.tmp 3)) K99r1s8) (zZ (.tmp 12) K99r1s8)))))))))
theorem res99:Try.f99.results.toList=[.tmp 4]:=by kernel_rfl
def K99:K:=(zG (zD K99r0 [2,3,4]) (zG (zD K99r1 [4]) jI))
theorem enter99 (cl:zS) (a0 a1:AV) (s:St):zj Try.prog X cl 99 [a0,a1] s Try.f99=jh Try.prog Try.f99 (K99 cl ⟨99,none,Try.f99.ntmps,X 99⟩ (zQ 0 [a0,a1] .nil) [] s) :=
  zX (b:=Try.f99.body.getD .skip) (by kernel_rfl) (by kernel_rfl) (by kernel_rfl) (by kernel_rfl) (by kernel_rfl)
def K100r0:zF:=(zC (.tmp 3) (yB (tag 27) (.tmp 1)) (zC (.tmp 4) (zE (.con (.bool false))) zK))
def K100r1:zF:=(zC (.tmp 5) (zE (.con (.int .i64 0))) zK)
def K100r2:zF:=(zC (.tmp 6) (zE (.tmp 5)) (zC (.tmp 7) (zE (.tmp 0)) (zC (.tmp 8) (kUn jA (.tmp 7)) (zC (.tmp 9) (za yL (.tmp 6) (.tmp 8)) zK))))
def K100r3:zF:=(yM [] (zC (.tmp 12) (zE (.tmp 0)) (zC (.tmp 13) (zE (.tmp 5)) (zC (.tmp 14) (jG (jR 2) (.tmp 12) (.tmp 13)) (zC (.tmp 15) (zJ (some 2) (.tmp 14)) (zC (.tmp 16) (zJ (some 2) (.tmp 3)) (zC (.tmp 17) (kEql (.row [(0,none,.int),(1,none,.int)]) false (.tmp 15) (.tmp 16)) zK)))))))
def K100r4:zF:=(zC (.tmp 4) (zE (.con (.bool true))) zK)
def K100r5:zF:=(zC (.tmp 10) (zE (.tmp 5)) (zC (.tmp 11) (za jH (.tmp 10) (.con (.int .i64 1))) (zC (.tmp 5) (zE (.tmp 11)) zK)))
def K100l0:K:=(zG (zG (zD K100r2 [9]) (zv (.tmp 9) zw (jz 0))) (zG (zd 1 (zG (zr K100r3 [17]) (zv (.tmp 17) (zG (zD K100r4 [4]) jI) zw))) (zD K100r5 [5])))
def K100r6:zF:=(zC (.tmp 4) (zE (.con (.bool false))) zK)
theorem res100:Try.f100.results.toList=[.tmp 4]:=by kernel_rfl
def K100:K:=(zG (zD K100r0 [3,4]) (zG (zG (zD K100r1 [5]) (zd 0 (jx K100l0))) (zG (zD K100r6 [4]) jI)))
theorem enter100 (cl:zS) (a0 a1:AV) (s:St):zj Try.prog X cl 100 [a0,a1] s Try.f100=jh Try.prog Try.f100 (K100 cl ⟨100,none,Try.f100.ntmps,X 100⟩ (zQ 0 [a0,a1] .nil) [] s) :=
  zX (b:=Try.f100.body.getD .skip) (by kernel_rfl) (by kernel_rfl) (by kernel_rfl) (by kernel_rfl) (by kernel_rfl)
def K87r0:zF:=(zC (.tmp 6) (zE (.con (.bool false))) zK)
def K87r1s7:zF:=(zC (.tmp 14) (yN (.tmp 10) (.tmp 13) (.con (.bool false))) (zC (.tmp 6) (zE (.tmp 14)) zK))
def K87r1s6:zF:=(oIf 10 true (zC (.tmp 13) (za aLeq (.tmp 11) (.tmp 12)) K87r1s7) (zZ (.tmp 13) K87r1s7))
def K87r1s5:zF:=(oIf 10 true (zC (.tmp 12) (zE (.tmp 2)) K87r1s6) (zZ (.tmp 12) K87r1s6))
def K87r1:zF:=(zC (.tmp 7) (zE (.tmp 0)) (zC (.tmp 8) (zE (.tmp 1)) (zC (.tmp 9) (za aGeq (.tmp 7) (.tmp 8)) (zC (.tmp 10) (zE (.tmp 9)) (oIf 10 true (zC (.tmp 11) (zE (.tmp 0)) K87r1s5) (zZ (.tmp 11) K87r1s5))))))
theorem res87:Try.f87.results.toList=[.tmp 6]:=by kernel_rfl
def K87:K:=(zG (zD K87r0 [6]) (zG (zD K87r1 [6]) jI))
theorem enter87 (cl:zS) (a0 a1 a2:AV) (s:St):zj Try.prog X cl 87 [a0,a1,a2] s Try.f87=jh Try.prog Try.f87 (K87 cl ⟨87,none,Try.f87.ntmps,X 87⟩ (zQ 0 [a0,a1,a2] .nil) [] s) :=
  zX (b:=Try.f87.body.getD .skip) (by kernel_rfl) (by kernel_rfl) (by kernel_rfl) (by kernel_rfl) (by kernel_rfl)
def K61r0:zF:=(zC (.tmp 2) (yB (tag 30) (.tmp 0)) (zC (.tmp 4) (zE (.con (.int .i64 0))) zK))
def K61r1:zF:=(zC (.tmp 9) (zE (.tmp 1)) (zC (.tmp 10) (kUn jA (.tmp 9)) (zC (.tmp 11) (YO (.tmp 10) (.con (.int .i64 24))) zK)))
def K61r2:zF:=(zC (.tmp 4) (zE (.con (.int .i64 6))) zK)
def K61r3:zF:=(zC (.tmp 12) (kUn (zY 7) (.tmp 2)) (zC (.tmp 13) (zJ none (.tmp 12)) (zC (.tmp 14) (kUn jA (.tmp 13)) (zC (.tmp 15) (kMake [(.int .i64 0)] 8 (.tmp 14) (.tmp 14)) (zC (.tmp 5) (zE (.tmp 15)) zK)))))
def K61r4:zF:=(zC (.tmp 6) (zE (.con (.int .i64 0))) zK)
def K61r5:zF:=(zC (.tmp 16) (zE (.tmp 6)) (zC (.tmp 17) (zE (.tmp 1)) (zC (.tmp 18) (kUn jA (.tmp 17)) (zC (.tmp 19) (za yL (.tmp 16) (.tmp 18)) zK))))
def K61r6:zF:=(yM [] (zC (.tmp 22) (zJ (some 8) (.tmp 2)) (zC (.tmp 23) (zE (.tmp 1)) (zC (.tmp 24) (zE (.tmp 6)) (zC (.tmp 25) (Zo (yS 3) (.tmp 23) none (some (.tmp 24))) (zC (.tmp 26) (zE (.tmp 1)) (zC (.tmp 27) (zE (.tmp 6)) (zC (.tmp 28) (jG (jR 3) (.tmp 26) (.tmp 27)) (zC (.tmp 29) (zJ (some 3) (.tmp 28)) (zz (.tmp 30) (.con (.func 90 [] [])) [(.tmp 22),(.tmp 25),(.tmp 29)] (zC (.tmp 7) (zE (.tmp 30)) zK)))))))))))
def K61r7:zF:=(zC (.tmp 31) (zE (.tmp 7)) (zC (.tmp 32) (za vt (.tmp 31) (.con (.int .i64 0))) zK))
def K61r8:zF:=(zC (.tmp 33) (zE (.tmp 7)) (zC (.tmp 4) (zE (.tmp 33)) zK))
def K61r9:zF:=(zC (.tmp 34) (zE (.tmp 5)) (zC (.tmp 35) (zE (.tmp 1)) (zC (.tmp 36) (zE (.tmp 6)) (zC (.tmp 37) (jG (jR 3) (.tmp 35) (.tmp 36)) (zC (.tmp 38) (kUn (zY 2) (.tmp 37)) (zC (.tmp 39) (zJ none (.tmp 38)) (zC (.tmp 40) (jG (jR 1) (.tmp 34) (.tmp 39)) (zC (.tmp 41) (zJ none (.tmp 40)) (zC (.tmp 42) (za jH (.tmp 41) (.con (.int .i64 1))) (zC (.tmp 43) (jG (jR 1) (.tmp 34) (.tmp 39)) (zC .none (jC 1 (.tmp 43) (.tmp 42)) zK)))))))))))
def K61r10:zF:=(zC (.tmp 20) (zE (.tmp 6)) (zC (.tmp 21) (za jH (.tmp 20) (.con (.int .i64 1))) (zC (.tmp 6) (zE (.tmp 21)) zK)))
def K61l0:K:=(zG (zG (zD K61r5 [19]) (zv (.tmp 19) zw (jz 0))) (zG (zd 1 (zG (zG (zr K61r6 [7]) (zG (zD K61r7 [32]) (zv (.tmp 32) (zG (zD K61r8 [4]) jI) zw))) (zD K61r9 []))) (zD K61r10 [6])))
def K61r11:zF:=(zC (.tmp 8) (zE (.con (.int .i64 0))) zK)
def K61r12:zF:=(zC (.tmp 44) (zE (.tmp 8)) (zC (.tmp 45) (zE (.tmp 5)) (zC (.tmp 46) (kUn jA (.tmp 45)) (zC (.tmp 47) (za yL (.tmp 44) (.tmp 46)) zK))))
def K61r13:zF:=(yM [] (zC (.tmp 50) (zE (.tmp 5)) (zC (.tmp 51) (zE (.tmp 8)) (zC (.tmp 52) (jG (jR 1) (.tmp 50) (.tmp 51)) (zC (.tmp 53) (zJ none (.tmp 52)) (zC (.tmp 54) (kUn (zY 7) (.tmp 2)) (zC (.tmp 55) (zJ none (.tmp 54)) (zC (.tmp 56) (zE (.tmp 8)) (zC (.tmp 57) (jG (jR 6) (.tmp 55) (.tmp 56)) (zC (.tmp 58) (kUn (zY 5) (.tmp 57)) (zC (.tmp 59) (zJ none (.tmp 58)) (zC (.tmp 60) (YO (.tmp 53) (.tmp 59)) zK))))))))))))
def K61r14:zF:=(zC (.tmp 4) (zE (.con (.int .i64 13))) zK)
def K61r15:zF:=(zC (.tmp 48) (zE (.tmp 8)) (zC (.tmp 49) (za jH (.tmp 48) (.con (.int .i64 1))) (zC (.tmp 8) (zE (.tmp 49)) zK)))
def K61l1:K:=(zG (zG (zD K61r12 [47]) (zv (.tmp 47) zw (jz 2))) (zG (zd 3 (zG (zr K61r13 [60]) (zv (.tmp 60) (zG (zD K61r14 [4]) jI) zw))) (zD K61r15 [8])))
def K61r16:zF:=(zC (.tmp 4) (zE (.con (.int .i64 0))) zK)
theorem res61:Try.f61.results.toList=[.tmp 4]:=by kernel_rfl
def K61:K:=(zG (zD K61r0 [2,4]) (zG (zG (zD K61r1 [11]) (zv (.tmp 11) (zG (zD K61r2 [4]) jI) zw)) (zG (zD K61r3 [5]) (zG (zG (zD K61r4 [6]) (zd 0 (jx K61l0))) (zG (zG (zD K61r11 [8]) (zd 2 (jx K61l1))) (zG (zD K61r16 [4]) jI))))))
theorem enter61 (cl:zS) (a0 a1:AV) (s:St):zj Try.prog X cl 61 [a0,a1] s Try.f61=jh Try.prog Try.f61 (K61 cl ⟨61,none,Try.f61.ntmps,X 61⟩ (zQ 0 [a0,a1] .nil) [] s) :=
  zX (b:=Try.f61.body.getD .skip) (by kernel_rfl) (by kernel_rfl) (by kernel_rfl) (by kernel_rfl) (by kernel_rfl)
def K90r0:zF:=(zC (.tmp 3) (yB (tag 30) (.tmp 0)) (zC (.tmp 5) (yB (tag 51) (.tmp 2)) (zC (.tmp 6) (zE (.con (.int .i64 0))) zK)))
def K90r1:zF:=(zC (.tmp 10) (zJ (some 8) (.tmp 3)) (zC (.tmp 11) (kUn (zY 0) (.tmp 5)) (zC (.tmp 12) (zJ (some 2) (.tmp 11)) (zz (.tmp 13) (.con (.func 99 [] [])) [(.tmp 10),(.tmp 12)] (zC (.tmp 14) (kUn notA (.tmp 13)) zK)))))
def K90r2:zF:=(zC (.tmp 6) (zE (.con (.int .i64 3))) zK)
def K90r3:zF:=(zC (.tmp 15) (kUn (zY 3) (.tmp 3)) (zC (.tmp 16) (zJ none (.tmp 15)) (zC (.tmp 17) (kUn (zY 0) (.tmp 5)) (zC (.tmp 18) (zJ (some 2) (.tmp 17)) (zz (.tmp 19) (.con (.func 100 [] [])) [(.tmp 16),(.tmp 18)] zK)))))
def K90r4:zF:=(zC (.tmp 6) (zE (.con (.int .i64 11))) zK)
def K90r5:zF:=(zC (.tmp 20) (kUn (zY 2) (.tmp 5)) (zC (.tmp 21) (zJ none (.tmp 20)) (zC (.tmp 22) (kUn (zY 7) (.tmp 3)) (zC (.tmp 23) (zJ none (.tmp 22)) (zC (.tmp 24) (kUn jA (.tmp 23)) (zC (.tmp 25) (za yl (.tmp 24) (.con (.int .i64 1))) (zz (.tmp 26) (.con (.func 87 [] [])) [(.tmp 21),(.con (.int .i64 0)),(.tmp 25)] (zC (.tmp 27) (kUn notA (.tmp 26)) zK))))))))
def K90r6:zF:=(zC (.tmp 6) (zE (.con (.int .i64 8))) zK)
def K90r7:zF:=(zC (.tmp 7) (zE (.con (.int .i64 0))) zK)
def K90r8:zF:=(zC (.tmp 28) (zE (.tmp 7)) (zC (.tmp 29) (zE (.tmp 1)) (zC (.tmp 30) (kUn jA (.tmp 29)) (zC (.tmp 31) (za yL (.tmp 28) (.tmp 30)) zK))))
def K90r9:zF:=(yM [] (zC (.tmp 34) (zE (.tmp 1)) (zC (.tmp 35) (zE (.tmp 7)) (zC (.tmp 36) (jG (jR 3) (.tmp 34) (.tmp 35)) (zC (.tmp 37) (kUn (zY 0) (.tmp 36)) (zC (.tmp 38) (zJ (some 2) (.tmp 37)) (zC (.tmp 39) (kUn (zY 0) (.tmp 5)) (zC (.tmp 40) (zJ (some 2) (.tmp 39)) (zC (.tmp 41) (kEql (.row [(0,none,.int),(1,none,.int)]) false (.tmp 38) (.tmp 40)) zK)))))))))
def K90r10:zF:=(zC (.tmp 6) (zE (.con (.int .i64 4))) zK)
def K90r11:zF:=(zC (.tmp 32) (zE (.tmp 7)) (zC (.tmp 33) (za jH (.tmp 32) (.con (.int .i64 1))) (zC (.tmp 7) (zE (.tmp 33)) zK)))
def K90l0:K:=(zG (zG (zD K90r8 [31]) (zv (.tmp 31) zw (jz 0))) (zG (zd 1 (zG (zr K90r9 [41]) (zv (.tmp 41) (zG (zD K90r10 [6]) jI) zw))) (zD K90r11 [7])))
def K90r12s14:zF:=(zC (.tmp 56) (yN (.tmp 49) (.tmp 55) (.con (.bool false))) zK)
def K90r12s13:zF:=(oIf 49 true (zC (.tmp 55) (kUn notA (.tmp 54)) K90r12s14) (zZ (.tmp 55) K90r12s14))
def K90r12s12:zF:=(oIf 49 true (zz (.tmp 54) (.con (.func 100 [] [])) [(.tmp 51),(.tmp 53)] K90r12s13) (zZ (.tmp 54) K90r12s13))
def K90r12s11:zF:=(oIf 49 true (zC (.tmp 53) (zJ (some 2) (.tmp 52)) K90r12s12) (zZ (.tmp 53) K90r12s12))
def K90r12s10:zF:=(oIf 49 true (zC (.tmp 52) (kUn (zY 0) (.tmp 5)) K90r12s11) (zZ (.tmp 52) K90r12s11))
def K90r12s9:zF:=(oIf 49 true (zC (.tmp 51) (zJ none (.tmp 50)) K90r12s10) (zZ (.tmp 51) K90r12s10))
def K90r12:zF:=(zC (.tmp 42) (kUn (zY 7) (.tmp 3)) (zC (.tmp 43) (zJ none (.tmp 42)) (zC (.tmp 44) (kUn (zY 2) (.tmp 5)) (zC (.tmp 45) (zJ none (.tmp 44)) (zC (.tmp 46) (jG (jR 6) (.tmp 43) (.tmp 45)) (zC (.tmp 47) (kUn (zY 2) (.tmp 46)) (zC (.tmp 48) (zJ none (.tmp 47)) (zC (.tmp 49) (zE (.tmp 48)) (oIf 49 true (zC (.tmp 50) (kUn (zY 2) (.tmp 3)) K90r12s9) (zZ (.tmp 50) K90r12s9))))))))))
def K90r13:zF:=(zC (.tmp 6) (zE (.con (.int .i64 7))) zK)
def K90r14:zF:=(zC (.tmp 8) (zE (.con (.int .i64 0))) zK)
def K90r15:zF:=(zC (.tmp 57) (zE (.tmp 8)) (zC (.tmp 58) (zE (.tmp 1)) (zC (.tmp 59) (kUn jA (.tmp 58)) (zC (.tmp 60) (za yL (.tmp 57) (.tmp 59)) zK))))
def K90r16:zF:=(zC (.tmp 63) (zE (.tmp 1)) (zC (.tmp 64) (zE (.tmp 8)) (zC (.tmp 65) (jG (jR 3) (.tmp 63) (.tmp 64)) (zC (.tmp 66) (zJ (some 3) (.tmp 65)) (zC (.tmp 9) (jO [(.int .i64 0),(.int .i64 0),(.int .i64 0)] (tag 51)) (zC .none (jC 3 (.tmp 9) (.tmp 66)) zK))))))
def K90r17:zF:=(yM [] (zC (.tmp 67) (kUn (zY 0) (.tmp 9)) (zC (.tmp 68) (zJ (some 2) (.tmp 67)) (zC (.tmp 69) (kUn (zY 0) (.tmp 5)) (zC (.tmp 70) (zJ (some 2) (.tmp 69)) (jf (some [72,74,77,79,81,83,85,88,90,92]) (.tmp 71) (.con (.func 101 [] [])) [(.tmp 68),(.tmp 70)] (zC (.tmp 72) (kUn (zY 7) (.tmp 3)) (zC (.tmp 73) (zJ none (.tmp 72)) (zC (.tmp 74) (kUn (zY 2) (.tmp 5)) (zC (.tmp 75) (zJ none (.tmp 74)) (zC (.tmp 76) (jG (jR 6) (.tmp 73) (.tmp 75)) (zC (.tmp 77) (kUn (zY 3) (.tmp 76)) (zC (.tmp 78) (zJ none (.tmp 77)) (zC (.tmp 79) (kUn (zY 2) (.tmp 9)) (zC (.tmp 80) (zJ none (.tmp 79)) (zC (.tmp 81) (jG (jR 1) (.tmp 78) (.tmp 80)) (zC (.tmp 82) (zJ none (.tmp 81)) (zC (.tmp 83) (kUn (zY 7) (.tmp 3)) (zC (.tmp 84) (zJ none (.tmp 83)) (zC (.tmp 85) (kUn (zY 2) (.tmp 9)) (zC (.tmp 86) (zJ none (.tmp 85)) (zC (.tmp 87) (jG (jR 6) (.tmp 84) (.tmp 86)) (zC (.tmp 88) (kUn (zY 3) (.tmp 87)) (zC (.tmp 89) (zJ none (.tmp 88)) (zC (.tmp 90) (kUn (zY 2) (.tmp 5)) (zC (.tmp 91) (zJ none (.tmp 90)) (zC (.tmp 92) (jG (jR 1) (.tmp 89) (.tmp 91)) (zC (.tmp 93) (zJ none (.tmp 92)) (zC (.tmp 94) (gi maxA (.tmp 82) [(.tmp 93)]) (zC (.tmp 95) (za yL (.tmp 71) (.tmp 94)) zK))))))))))))))))))))))))))))))
def K90r18:zF:=(zC (.tmp 6) (zE (.con (.int .i64 9))) zK)
def K90r19:zF:=(zC (.tmp 61) (zE (.tmp 8)) (zC (.tmp 62) (za jH (.tmp 61) (.con (.int .i64 1))) (zC (.tmp 8) (zE (.tmp 62)) zK)))
def K90l1:K:=(zG (zG (zD K90r15 [60]) (zv (.tmp 60) zw (jz 2))) (zG (zd 3 (zG (zD K90r16 [9]) (zG (zr K90r17 [95]) (zv (.tmp 95) (zG (zD K90r18 [6]) jI) zw)))) (zD K90r19 [8])))
def K90r20:zF:=(zC (.tmp 6) (zE (.con (.int .i64 0))) zK)
theorem res90:Try.f90.results.toList=[.tmp 6]:=by kernel_rfl
def K90:K:=(zG (zD K90r0 [3,5,6]) (zG (zG (zD K90r1 [14]) (zv (.tmp 14) (zG (zD K90r2 [6]) jI) zw)) (zG (zG (zD K90r3 [19]) (zv (.tmp 19) (zG (zD K90r4 [6]) jI) zw)) (zG (zG (zD K90r5 [27]) (zv (.tmp 27) (zG (zD K90r6 [6]) jI) zw)) (zG (zG (zD K90r7 [7]) (zd 0 (jx K90l0))) (zG (zG (zD K90r12 [56]) (zv (.tmp 56) (zG (zD K90r13 [6]) jI) zw)) (zG (zG (zD K90r14 [8]) (zd 2 (jx K90l1))) (zG (zD K90r20 [6]) jI))))))))
theorem enter90 (cl:zS) (a0 a1 a2:AV) (s:St):zj Try.prog X cl 90 [a0,a1,a2] s Try.f90=jh Try.prog Try.f90 (K90 cl ⟨90,none,Try.f90.ntmps,X 90⟩ (zQ 0 [a0,a1,a2] .nil) [] s) :=
  zX (b:=Try.f90.body.getD .skip) (by kernel_rfl) (by kernel_rfl) (by kernel_rfl) (by kernel_rfl) (by kernel_rfl)
def K101r0:zF:=(zC (.tmp 2) (yB (tag 27) (.tmp 0)) (zC (.tmp 3) (yB (tag 27) (.tmp 1)) (zC (.tmp 4) (zE (.con (.int .i64 0))) zK)))
def K101r1:zF:=(zC (.tmp 5) (kUn (zY 0) (.tmp 2)) (zC (.tmp 6) (zJ none (.tmp 5)) (zC (.tmp 7) (kUn (zY 0) (.tmp 3)) (zC (.tmp 8) (zJ none (.tmp 7)) (zC (.tmp 9) (za yl (.tmp 6) (.tmp 8)) (zC (.tmp 10) (kUn (zY 0) (.tmp 3)) (zC (.tmp 11) (zJ none (.tmp 10)) (zC (.tmp 12) (kUn (zY 0) (.tmp 2)) (zC (.tmp 13) (zJ none (.tmp 12)) (zC (.tmp 14) (za yl (.tmp 11) (.tmp 13)) (zC (.tmp 15) (gi maxA (.tmp 9) [(.tmp 14)]) (zC (.tmp 16) (kUn (zY 1) (.tmp 2)) (zC (.tmp 17) (zJ none (.tmp 16)) (zC (.tmp 18) (kUn (zY 1) (.tmp 3)) (zC (.tmp 19) (zJ none (.tmp 18)) (zC (.tmp 20) (za yl (.tmp 17) (.tmp 19)) (zC (.tmp 21) (kUn (zY 1) (.tmp 3)) (zC (.tmp 22) (zJ none (.tmp 21)) (zC (.tmp 23) (kUn (zY 1) (.tmp 2)) (zC (.tmp 24) (zJ none (.tmp 23)) (zC (.tmp 25) (za yl (.tmp 22) (.tmp 24)) (zC (.tmp 26) (gi maxA (.tmp 20) [(.tmp 25)]) (zC (.tmp 27) (za jH (.tmp 15) (.tmp 26)) (zC (.tmp 4) (zE (.tmp 27)) zK))))))))))))))))))))))))
theorem res101:Try.f101.results.toList=[.tmp 4]:=by kernel_rfl
def K101:K:=(zG (zD K101r0 [2,3,4]) (zG (zD K101r1 [4]) jI))
theorem enter101 (cl:zS) (a0 a1:AV) (s:St):zj Try.prog X cl 101 [a0,a1] s Try.f101=jh Try.prog Try.f101 (K101 cl ⟨101,none,Try.f101.ntmps,X 101⟩ (zQ 0 [a0,a1] .nil) [] s) :=
  zX (b:=Try.f101.body.getD .skip) (by kernel_rfl) (by kernel_rfl) (by kernel_rfl) (by kernel_rfl) (by kernel_rfl)
end
end Go.Proofs.Ytoklbkgcclkejaa.code
set_option maxRecDepth 100000
namespace Go.Proofs.Ytoklbkgcclkejaa.code
open Go.Abs
noncomputable section
end
end Go.Proofs.Ytoklbkgcclkejaa.code
set_option maxRecDepth 100000
namespace Go.Proofs.Ytoklbkgcclkejaa.code
open Go.Abs
noncomputable section
def K23r0:zF:=(zC (.tmp 2) (yB (tag 30) (.tmp 0)) (zC (.tmp 4) (zE (.con (.int .i64 0))) (zC (.tmp 5) (zE (.con (.int .i64 0))) zK)))
def K23r1:zF:=(zC (.tmp 10) (zJ (some 8) (.tmp 2)) (zC (.tmp 11) (zE (.tmp 1)) (zz (.tmp 12) (.con (.func 43 [] [])) [(.tmp 10),(.tmp 11)] (zC (.tmp 6) (zE (.tmp 12)) zK))))
def K23r2:zF:=(zC (.tmp 13) (zE (.tmp 6)) (zC (.tmp 14) (za vt (.tmp 13) (.con (.int .i64 0))) zK))
def K23r3:zF:=(zC (.tmp 15) (zE (.tmp 6)) (zC (.tmp 4) (zE (.con (.int .i64 0))) (zC (.tmp 5) (zE (.tmp 15)) zK)))
def K23r4:zF:=(zC (.tmp 7) (zE (.con (.int .i64 0))) zK)
def K23r5:zF:=(zC (.tmp 16) (zE (.tmp 1)) (zC (.tmp 17) (kUn jA (.tmp 16)) (zC (.tmp 18) (zE (.con (.int .i64 0))) zK)))
def K23r6:zF:=(zC (.tmp 19) (za yL (.tmp 18) (.tmp 17)) zK)
def K23r7:zF:=(zC (.tmp 20) (jG (jR 3) (.tmp 16) (.tmp 18)) (zC (.tmp 21) (zJ (some 3) (.tmp 20)) (zC (.tmp 9) (jO [(.int .i64 0),(.int .i64 0),(.int .i64 0)] (tag 51)) (zC .none (jC 3 (.tmp 9) (.tmp 21)) zK))))
def K23r8:zF:=(zC (.tmp 22) (zE (.tmp 7)) (zC (.tmp 23) (kUn (zY 7) (.tmp 2)) (zC (.tmp 24) (zJ none (.tmp 23)) (zC (.tmp 25) (kUn (zY 2) (.tmp 9)) (zC (.tmp 26) (zJ none (.tmp 25)) (zC (.tmp 27) (jG (jR 6) (.tmp 24) (.tmp 26)) (zC (.tmp 28) (kUn (zY 4) (.tmp 27)) (zC (.tmp 29) (zJ none (.tmp 28)) (zC (.tmp 30) (za jH (.tmp 22) (.tmp 29)) (zC (.tmp 7) (zE (.tmp 30)) zK))))))))))
def K23r9:zF:=(zC (.tmp 31) (za jH (.tmp 18) (.con (.int .i64 1))) (zC (.tmp 18) (zE (.tmp 31)) zK))
def K23l0:K:=(zG (zD K23r6 [19]) (zG (zv (.tmp 19) zw (jz 0)) (zG (zd 1 (zG (zD K23r7 [9]) (zD K23r8 [7]))) (zD K23r9 [18]))))
def K23r10:zF:=(zC (.tmp 32) (zE (.tmp 7)) (zC (.tmp 4) (zE (.tmp 32)) (zC (.tmp 5) (zE (.con (.int .i64 0))) zK)))
theorem res23:Try.f23.results.toList=[.tmp 4,.tmp 5]:=by kernel_rfl
def K23:K:=(zG (zD K23r0 [2,4,5]) (zG (zG (zD K23r1 [6]) (zG (zD K23r2 [14]) (zv (.tmp 14) (zG (zD K23r3 [4,5]) jI) zw))) (zG (zD K23r4 [7]) (zG (zG (zD K23r5 [16,17,18]) (zd 0 (jx K23l0))) (zG (zD K23r10 [4,5]) jI)))))
theorem enter23 (cl:zS) (a0 a1:AV) (s:St):zj Try.prog X cl 23 [a0,a1] s Try.f23=jh Try.prog Try.f23 (K23 cl ⟨23,none,Try.f23.ntmps,X 23⟩ (zQ 0 [a0,a1] .nil) [] s) :=
  zX (b:=Try.f23.body.getD .skip) (by kernel_rfl) (by kernel_rfl) (by kernel_rfl) (by kernel_rfl) (by kernel_rfl)
end
end Go.Proofs.Ytoklbkgcclkejaa.code
set_option maxRecDepth 100000
namespace Go.Proofs.Ytoklbkgcclkejaa.code
open Go.Abs
noncomputable section
def K54r0:zF:=(zC (.tmp 5) (yB (tag 51) (.tmp 2)) (zC (.tmp 6) (zE (.con (.bool false))) zK))
def K54r1s21:zF:=(zC (.tmp 28) (yN (.tmp 23) (.tmp 27) (.con (.bool false))) (zC (.tmp 6) (zE (.tmp 28)) zK))
def K54r1s20:zF:=(oIf 23 true (zz (.tmp 27) (.con (.func 76 [] [])) [(.tmp 24),(.tmp 25),(.tmp 26)] K54r1s21) (zZ (.tmp 27) K54r1s21))
def K54r1s19:zF:=(oIf 23 true (zC (.tmp 26) (zJ (some 3) (.tmp 5)) K54r1s20) (zZ (.tmp 26) K54r1s20))
def K54r1s18:zF:=(oIf 23 true (zC (.tmp 25) (zE (.tmp 1)) K54r1s19) (zZ (.tmp 25) K54r1s19))
def K54r1s15:zF:=(zC (.tmp 22) (yN (.tmp 12) (.tmp 21) (.con (.bool false))) (zC (.tmp 23) (zE (.tmp 22)) (oIf 23 true (zC (.tmp 24) (zE (.tmp 0)) K54r1s18) (zZ (.tmp 24) K54r1s18))))
def K54r1s14:zF:=(oIf 12 true (zC (.tmp 21) (za yL (.tmp 16) (.tmp 20)) K54r1s15) (zZ (.tmp 21) K54r1s15))
def K54r1s13:zF:=(oIf 12 true (zC (.tmp 20) (kUn (fldA none 5) (.tmp 19)) K54r1s14) (zZ (.tmp 20) K54r1s14))
def K54r1s12:zF:=(oIf 12 true (zz (.tmp 19) (.con (.func 74 [] [])) [(.tmp 17),(.tmp 18)] K54r1s13) (zZ (.tmp 19) K54r1s13))
def K54r1s11:zF:=(oIf 12 true (zC (.tmp 18) (zJ (some 3) (.tmp 5)) K54r1s12) (zZ (.tmp 18) K54r1s12))
def K54r1s10:zF:=(oIf 12 true (zC (.tmp 17) (zE (.tmp 0)) K54r1s11) (zZ (.tmp 17) K54r1s11))
def K54r1s9:zF:=(oIf 12 true (jf (some [5]) (.tmp 16) (.con (.func 64 [] [])) [(.tmp 13),(.tmp 15)] K54r1s10) (zZ (.tmp 16) K54r1s10))
def K54r1s8:zF:=(oIf 12 true (zC (.tmp 15) (zJ none (.tmp 14)) K54r1s9) (zZ (.tmp 15) K54r1s9))
def K54r1s7:zF:=(oIf 12 true (zC (.tmp 14) (kUn (zY 2) (.tmp 5)) K54r1s8) (zZ (.tmp 14) K54r1s8))
def K54r1:zF:=(yM [] (zC (.tmp 7) (zE (.tmp 0)) (zC (.tmp 8) (zE (.tmp 1)) (zC (.tmp 9) (zJ (some 3) (.tmp 5)) (zz (.tmp 10) (.con (.func 63 [] [])) [(.tmp 7),(.tmp 8),(.tmp 9)] (zC (.tmp 11) (za aEql (.tmp 10) (.con (.int .i64 0))) (zC (.tmp 12) (zE (.tmp 11)) (oIf 12 true (zC (.tmp 13) (zE (.tmp 1)) K54r1s7) (zZ (.tmp 13) K54r1s7)))))))))
theorem res54:Try.f54.results.toList=[.tmp 6]:=by kernel_rfl
def K54:K:=(zG (zD K54r0 [5,6]) (zG (zr K54r1 [6]) jI))
theorem enter54 (cl:zS) (a0 a1 a2:AV) (s:St):zj Try.prog X cl 54 [a0,a1,a2] s Try.f54=jh Try.prog Try.f54 (K54 cl ⟨54,none,Try.f54.ntmps,X 54⟩ (zQ 0 [a0,a1,a2] .nil) [] s) :=
  zX (b:=Try.f54.body.getD .skip) (by kernel_rfl) (by kernel_rfl) (by kernel_rfl) (by kernel_rfl) (by kernel_rfl)
def K76r0:zF:=(zC (.tmp 5) (yB (tag 51) (.tmp 2)) (zC (.tmp 6) (zE (.con (.bool false))) zK))
def K76r1:zF:=(zC (.tmp 11) (zE (.tmp 0)) (zC (.tmp 12) (zJ (some 3) (.tmp 5)) (zz (.tmp 13) (.con (.func 72 [] [])) [(.tmp 11),(.tmp 12)] (zC (.tmp 14) (kUn (fldA none 2) (.tmp 13)) (zC (.tmp 7) (zE (.tmp 14)) zK)))))
def K76r2:zF:=(zC (.tmp 15) (zE (.tmp 0)) (zC (.tmp 16) (zJ (some 3) (.tmp 5)) (zz (.tmp 17) (.con (.func 74 [] [])) [(.tmp 15),(.tmp 16)] (zC (.tmp 18) (kUn (fldA (some 2) 0) (.tmp 17)) (zC (.tmp 8) (jO [(.int .i64 0),(.int .i64 0)] (tag 44)) (zC .none (jC 2 (.tmp 8) (.tmp 18)) zK))))))
def K76r3:zF:=(zC (.tmp 19) (zE (.tmp 1)) (zC (.tmp 20) (kUn jA (.tmp 19)) (zC (.tmp 21) (zE (.con (.int .i64 0))) zK)))
def K76r4:zF:=(zC (.tmp 22) (za yL (.tmp 21) (.tmp 20)) zK)
def K76r5:zF:=(zC (.tmp 23) (jG (jR 3) (.tmp 19) (.tmp 21)) (zC (.tmp 24) (zJ (some 3) (.tmp 23)) (zC (.tmp 10) (jO [(.int .i64 0),(.int .i64 0),(.int .i64 0)] (tag 51)) (zC .none (jC 3 (.tmp 10) (.tmp 24)) zK))))
def K76r6:zF:=(zC (.tmp 25) (zE (.tmp 0)) (zC (.tmp 26) (zJ (some 3) (.tmp 10)) (zz (.tmp 27) (.con (.func 72 [] [])) [(.tmp 25),(.tmp 26)] (zC (.tmp 28) (kUn (fldA none 2) (.tmp 27)) (zC (.tmp 29) (zE (.tmp 7)) (zC (.tmp 30) (za aEql (.tmp 28) (.tmp 29)) zK))))))
def K76r7:zF:=(yM [] (zC (.tmp 31) (zJ (some 2) (.tmp 8)) (zC (.tmp 32) (zE (.tmp 0)) (zC (.tmp 33) (zJ (some 3) (.tmp 10)) (jf (some [8]) (.tmp 34) (.con (.func 74 [] [])) [(.tmp 32),(.tmp 33)] (zC (.tmp 35) (kUn (fldA (some 2) 0) (.tmp 34)) (zC (.tmp 36) (jB [(.int .i64 0),(.int .i64 0),(.int .i64 0),(.int .i64 0)] 2 [(0,2,(.tmp 31)),(2,2,(.tmp 35))]) (zz (.tmp 37) (.con (.func 73 [] [])) [(.tmp 36)] (zC .none (jC 2 (.tmp 8) (.tmp 37)) zK)))))))))
def K76r8:zF:=(zC (.tmp 38) (za jH (.tmp 21) (.con (.int .i64 1))) (zC (.tmp 21) (zE (.tmp 38)) zK))
def K76l0:K:=(zG (zD K76r4 [22]) (zG (zv (.tmp 22) zw (jz 0)) (zG (zd 1 (zG (zD K76r5 [10]) (zG (zD K76r6 [30]) (zv (.tmp 30) (zr K76r7 []) zw)))) (zD K76r8 [21]))))
def K76r9:zF:=(yM [] (zC (.tmp 39) (kUn (zY 1) (.tmp 8)) (zC (.tmp 40) (zJ none (.tmp 39)) (zC (.tmp 41) (zE (.tmp 0)) (zC (.tmp 42) (kUn wZ (.tmp 41)) (zC (.tmp 43) (kUn (zY 0) (.tmp 42)) (zC (.tmp 44) (kUn (zY 6) (.tmp 43)) (zC (.tmp 45) (zJ none (.tmp 44)) (zC (.tmp 46) (zE (.tmp 7)) (zC (.tmp 47) (jG (jR 1) (.tmp 45) (.tmp 46)) (zC (.tmp 48) (zJ none (.tmp 47)) (zC (.tmp 49) (za aLeq (.tmp 40) (.tmp 48)) (zC (.tmp 6) (zE (.tmp 49)) zK)))))))))))))
theorem res76:Try.f76.results.toList=[.tmp 6]:=by kernel_rfl
def K76:K:=(zG (zD K76r0 [5,6]) (zG (zD K76r1 [7]) (zG (zD K76r2 [8]) (zG (zG (zD K76r3 [19,20,21]) (zd 0 (jx K76l0))) (zG (zr K76r9 [6]) jI)))))
theorem enter76 (cl:zS) (a0 a1 a2:AV) (s:St):zj Try.prog X cl 76 [a0,a1,a2] s Try.f76=jh Try.prog Try.f76 (K76 cl ⟨76,none,Try.f76.ntmps,X 76⟩ (zQ 0 [a0,a1,a2] .nil) [] s) :=
  zX (b:=Try.f76.body.getD .skip) (by kernel_rfl) (by kernel_rfl) (by kernel_rfl) (by kernel_rfl) (by kernel_rfl)
end
end Go.Proofs.Ytoklbkgcclkejaa.code
set_option maxRecDepth 100000
namespace Go.Proofs.Ytoklbkgcclkejaa.code
open Go.Abs
noncomputable section
def K29r0:zF:=(zC (.tmp 1) (yB (tag 30) (.tmp 0)) (zC (.tmp 2) (zE (.con .nilslice)) (zC (.tmp 3) (zE (.con (.int .i64 0))) zK)))
def K29r1:zF:=(zC (.tmp 7) (zJ (some 8) (.tmp 1)) (zz (.tmp 8) (.con (.func 55 [] [])) [(.tmp 7)] (zC (.tmp 4) (zE (.tmp 8)) zK)))
def K29r2:zF:=(zC (.tmp 9) (zE (.tmp 4)) (zC (.tmp 10) (za vt (.tmp 9) (.con (.int .i64 0))) zK))
def K29r3:zF:=(zC (.tmp 11) (zE (.tmp 4)) (zC (.tmp 2) (zE (.con .nilslice)) (zC (.tmp 3) (zE (.tmp 11)) zK)))
def K29r4:zF:=(zC (.tmp 12) (zJ (some 8) (.tmp 1)) (zz (.tmp 13) (.con (.func 44 [] [])) [(.tmp 12)] (zC (.tmp 5) (zE (.tmp 13)) zK)))
def K29r5:zF:=(zC (.tmp 14) (zE (.tmp 5)) (zz (.tmp 15) (.con (.func 56 [] [])) [(.tmp 14)] (zC (.tmp 6) (zE (.tmp 15)) zK)))
def K29r6:zF:=(zC (.tmp 16) (zE (.tmp 6)) (zC (.tmp 17) (kUn jA (.tmp 16)) (zC (.tmp 18) (YO (.tmp 17) (.con (.int .i64 8))) zK)))
def K29r7:zF:=(zC (.tmp 2) (zE (.con .nilslice)) (zC (.tmp 3) (zE (.con (.int .i64 6))) zK))
def K29r8:zF:=(zC (.tmp 19) (zE (.tmp 5)) (zC (.tmp 20) (zE (.tmp 6)) (zz (.tmp 21) (.con (.func 57 [] [])) [(.tmp 19),(.tmp 20)] (zC (.tmp 2) (zE (.tmp 21)) (zC (.tmp 3) (zE (.con (.int .i64 0))) zK)))))
theorem res29:Try.f29.results.toList=[.tmp 2,.tmp 3]:=by kernel_rfl
def K29:K:=(zG (zD K29r0 [1,2,3]) (zG (zG (zD K29r1 [4]) (zG (zD K29r2 [10]) (zv (.tmp 10) (zG (zD K29r3 [2,3]) jI) zw))) (zG (zD K29r4 [5]) (zG (zD K29r5 [6]) (zG (zG (zD K29r6 [18]) (zv (.tmp 18) (zG (zD K29r7 [2,3]) jI) zw)) (zG (zD K29r8 [2,3]) jI))))))
theorem enter29 (cl:zS) (a0:AV) (s:St):zj Try.prog X cl 29 [a0] s Try.f29=jh Try.prog Try.f29 (K29 cl ⟨29,none,Try.f29.ntmps,X 29⟩ (zQ 0 [a0] .nil) [] s) :=
  zX (b:=Try.f29.body.getD .skip) (by kernel_rfl) (by kernel_rfl) (by kernel_rfl) (by kernel_rfl) (by kernel_rfl)
def K56r0:zF:=(zC (.tmp 1) (yB (tag 78) (.tmp 0)) (zC (.tmp 2) (zE (.con .nilslice)) zK))
def K56r1:zF:=(zC (.tmp 3) (jO [.nilslice] (tag 25)) zK)
def K56r2:zF:=(zC (.tmp 5) (zJ none (.tmp 1)) (zC (.tmp 6) (kUn wZ (.tmp 5)) (zC (.tmp 7) (kUn (zY 0) (.tmp 6)) (zC (.tmp 8) (zJ (some 8) (.tmp 7)) (zz (.tmp 9) (.con (.func 53 [] [])) [(.tmp 8)] zK)))))
def K56r3:zF:=(zC (.tmp 27) (zJ none (.tmp 3)) (zC (.tmp 2) (zE (.tmp 27)) zK))
theorem res56:Try.f56.results.toList=[.tmp 2]:=by kernel_rfl
def K56:K:=(zG (zD K56r0 [1,2]) (zG (zD K56r1 [3]) (zG (zG (zD K56r2 [9]) (zd 0 (we (.tmp 9) [10] (yO Try.f56 0).1 (yO Try.f56 0).2))) (zG (zD K56r3 [2]) jI))))
theorem enter56 (cl:zS) (a0:AV) (s:St):zj Try.prog X cl 56 [a0] s Try.f56=jh Try.prog Try.f56 (K56 cl ⟨56,none,Try.f56.ntmps,X 56⟩ (zQ 0 [a0] .nil) [] s) :=
  zX (b:=Try.f56.body.getD .skip) (by kernel_rfl) (by kernel_rfl) (by kernel_rfl) (by kernel_rfl) (by kernel_rfl)
def K56a0r0:zF:=(zC (.tmp 4) (jO [(.int .i64 0),(.int .i64 0)] (tag 27)) (zC .none (jC 2 (.tmp 4) (.tmp 10)) zK))
def K56a0:K:=(zD K56a0r0 [4])
theorem code56a0:jY Try.prog (X 56) Try.f56.ntmps (yO Try.f56 0).1=some K56a0:=by kernel_rfl
def K56b0r0:zF:=(yM [] (zC (.tmp 11) (zJ none (.tmp 1)) (zC (.tmp 12) (kUn (zY 1) (.tmp 4)) (zC (.tmp 13) (zJ none (.tmp 12)) (zC (.tmp 14) (kUn (zY 0) (.tmp 4)) (zC (.tmp 15) (zJ none (.tmp 14)) (zC (.tmp 16) (kUn wZ (.tmp 11)) (zC (.tmp 17) (kUn (zY 8) (.tmp 16)) (zC (.tmp 18) (jG (ixaA 4 18) (.tmp 17) (.tmp 13)) (zC (.tmp 19) (jG (ixaA 6 3) (.tmp 18) (.tmp 15)) (zC (.tmp 20) (kUn (zY 1) (.tmp 19)) (zC (.tmp 21) (zJ none (.tmp 20)) (zC (.tmp 22) (kUn notA (.tmp 21)) zK)))))))))))))
def K56b0r1:zF:=(zC (.tmp 23) (zJ none (.tmp 3)) (zC (.tmp 24) (zJ (some 2) (.tmp 4)) (zC (.tmp 25) (jB [(.int .i64 0),(.int .i64 0)] 1 [(0,2,(.tmp 24))]) (zC (.tmp 26) (jG (jV false 2 16 (tag 27)) (.tmp 23) (.tmp 25)) (zC .none (jC 1 (.tmp 3) (.tmp 26)) zK)))))
def K56b0:K:=(zd 1 (zG (zr K56b0r0 [22]) (zv (.tmp 22) (zD K56b0r1 []) zw)))
theorem code56b0:jY Try.prog (X 56) Try.f56.ntmps (yO Try.f56 0).2=some K56b0:=by kernel_rfl
def K57r0:zF:=(zC (.tmp 2) (yB (tag 78) (.tmp 0)) (zC (.tmp 3) (yB (tag 25) (.tmp 1)) (zC (.tmp 4) (zE (.con .nilslice)) zK)))
def K57r1:zF:=(zC (.tmp 9) (zJ none (.tmp 2)) (zC (.tmp 10) (zJ none (.tmp 3)) (zz (.tmp 11) (.con (.func 81 [] [])) [(.tmp 9),(.tmp 10)] (zC (.tmp 5) (jO [.nilslice] (tag 117)) (zC .none (jC 1 (.tmp 5) (.tmp 11)) zK)))))
def K57r2:zF:=(zC (.tmp 6) (jO [(.int .i64 0),(.int .i64 0)] (tag 120)) zK)
def K57r3:zF:=(zC (.tmp 7) (jO [.nilslice] (tag 32)) zK)
def K57r4:zF:=(zC (.tmp 8) (jO [.nilfunc] (tag 121)) zK)
def K57r5:zF:=(zC (.tmp 12) (JG 82 [] [(.tmp 6),(.tmp 7),(.tmp 5),(.tmp 2),(.tmp 3),(.tmp 8)]) (zC .none (jC 1 (.tmp 8) (.tmp 12)) zK))
def K57r6:zF:=(zC (.tmp 13) (zJ none (.tmp 8)) (zC (.tmp 14) (yR [(.int .i64 0),(.int .i64 0)] []) (zz (.tmp 15) (.tmp 13) [(.con .nilslice),(.tmp 14),(.con (.int .i64 0))] zK)))
def K57r7:zF:=(zC (.tmp 16) (zJ none (.tmp 7)) (zC (.tmp 4) (zE (.tmp 16)) zK))
theorem res57:Try.f57.results.toList=[.tmp 4]:=by kernel_rfl
def K57:K:=(zG (zD K57r0 [2,3,4]) (zG (zD K57r1 [5]) (zG (zD K57r2 [6]) (zG (zD K57r3 [7]) (zG (zD K57r4 [8]) (zG (zD K57r5 []) (zG (zD K57r6 []) (zG (zD K57r7 [4]) jI))))))))
theorem enter57 (cl:zS) (a0 a1:AV) (s:St):zj Try.prog X cl 57 [a0,a1] s Try.f57=jh Try.prog Try.f57 (K57 cl ⟨57,none,Try.f57.ntmps,X 57⟩ (zQ 0 [a0,a1] .nil) [] s) :=
  zX (b:=Try.f57.body.getD .skip) (by kernel_rfl) (by kernel_rfl) (by kernel_rfl) (by kernel_rfl) (by kernel_rfl)
def K82r0:zF:=(zC (.tmp 10) (yB (tag 120) (.tmp 1)) zK)
def K82r1:zF:=(zC (.tmp 15) (zJ (some 2) (.tmp 10)) (zC (.tmp 16) (zJ (some 2) (.tmp 3)) (zz (.tmp 17) (.con (.func 83 [] [])) [(.tmp 15),(.tmp 16)] zK)))
def K82r2:zF:=(yM [] (zC (.tmp 18) (zJ (some 2) (.tmp 10)) (zC (.tmp 19) (zE (.tmp 0)) (jf (some [10]) (.tmp 20) (.con (.func 84 [] [])) [(.tmp 19)] (zC .none (jC 2 (.tmp 3) (.tmp 18)) (zC .none (jC 1 (.tmp 4) (.tmp 20)) zK))))))
def K82r3:zF:=(yM [] (zC (.tmp 21) (zJ (some 2) (.tmp 10)) (zC (.tmp 22) (zJ none (.tmp 5)) (zC (.tmp 23) (zE (.tmp 2)) (zC (.tmp 24) (jG (jR 2) (.tmp 22) (.tmp 23)) (zC (.tmp 25) (zJ (some 2) (.tmp 24)) (jf (some [3]) (.tmp 26) (.con (.func 85 [] [])) [(.tmp 21),(.tmp 25)] (zC (.tmp 27) (zJ (some 2) (.tmp 3)) (zz (.tmp 28) (.con (.func 83 [] [])) [(.tmp 26),(.tmp 27)] (zC (.tmp 29) (kUn notA (.tmp 28)) zK))))))))))
def K82r4:zF:=(zC (.tmp 30) (zJ none (.tmp 6)) (zC (.tmp 31) (kUn wZ (.tmp 30)) (zC (.tmp 32) (kUn (zY 0) (.tmp 31)) (zC (.tmp 33) (kUn (zY 7) (.tmp 32)) (zC (.tmp 34) (zJ none (.tmp 33)) (zC (.tmp 35) (kUn jA (.tmp 34)) (zC (.tmp 36) (zE (.con (.int .i64 0))) zK)))))))
def K82r5:zF:=(zC (.tmp 37) (za yL (.tmp 36) (.tmp 35)) zK)
def K82r6:zF:=(zC (.tmp 38) (zE (.tmp 36)) (zC (.tmp 39) (jG (jR 6) (.tmp 34) (.tmp 36)) (zC (.tmp 40) (zJ (some 6) (.tmp 39)) (zC (.tmp 13) (jO [(.int .i64 0),(.int .i64 0),(.bool false),.nilslice,(.int .i64 0),(.int .i64 0)] (tag 49)) (zC (.tmp 12) (zE (.tmp 38)) (zC .none (jC 6 (.tmp 13) (.tmp 40)) zK))))))
def K82r7:zF:=(zC (.tmp 41) (zJ none (.tmp 7)) (zC (.tmp 42) (zE (.tmp 2)) (zC (.tmp 43) (jG (jR 2) (.tmp 41) (.tmp 42)) (zC (.tmp 44) (zJ (some 2) (.tmp 43)) (zC (.tmp 45) (zE (.tmp 12)) (zC (.tmp 46) (yR [(.int .i64 0),(.int .i64 0),(.int .i64 0)] [(0,2,(.tmp 44)),(2,1,(.tmp 45))]) (zC (.tmp 14) (jO [(.int .i64 0),(.int .i64 0),(.int .i64 0)] (tag 51)) (zC .none (jC 3 (.tmp 14) (.tmp 46)) zK))))))))
def K82r8:zF:=(zC (.tmp 47) (zJ none (.tmp 6)) (zC (.tmp 48) (zE (.tmp 0)) (zC (.tmp 49) (zJ (some 3) (.tmp 14)) (zz (.tmp 50) (.con (.func 54 [] [])) [(.tmp 47),(.tmp 48),(.tmp 49)] zK))))
def K82r9:zF:=(yM [(52,8),(52,10),(52,57)] (zC (.tmp 51) (zJ none (.tmp 8)) (zC (.tmp 52) (zE (.tmp 0)) (zC (.tmp 53) (zJ (some 3) (.tmp 14)) (zC (.tmp 54) (jB [(.int .i64 0),(.int .i64 0),(.int .i64 0)] 1 [(0,3,(.tmp 53))]) (zC (.tmp 55) (jG (jV true 3 24 (tag 51)) (.tmp 52) (.tmp 54)) (zC (.tmp 56) (zJ (some 2) (.tmp 10)) (zC (.tmp 57) (kUn (zY 4) (.tmp 13)) (zC (.tmp 58) (zJ none (.tmp 57)) (zC (.tmp 59) (yR [(.int .i64 0),(.int .i64 0)] [(0,1,(.tmp 58)),(1,1,(.con (.int .i64 1)))]) (jf (some [8]) (.tmp 60) (.con (.func 85 [] [])) [(.tmp 56),(.tmp 59)] (zC (.tmp 61) (zE (.tmp 2)) (zC (.tmp 62) (za jH (.tmp 61) (.con (.int .i64 1))) (zz (.tmp 63) (.tmp 51) [(.tmp 55),(.tmp 60),(.tmp 62)] zK))))))))))))))
def K82r10:zF:=(zC (.tmp 64) (za jH (.tmp 36) (.con (.int .i64 1))) (zC (.tmp 36) (zE (.tmp 64)) zK))
def K82l0:K:=(zG (zD K82r5 [37]) (zG (zv (.tmp 37) zw (jz 0)) (zG (zd 1 (zG (zD K82r6 [13,12]) (zG (zD K82r7 [14]) (zG (zD K82r8 [50]) (zv (.tmp 50) (zr K82r9 []) zw))))) (zD K82r10 [36]))))
def K82r11:zF:=(zC (.tmp 65) (zJ none (.tmp 8)) (zC (.tmp 66) (zE (.tmp 0)) (zC (.tmp 67) (zJ (some 2) (.tmp 10)) (zC (.tmp 68) (zE (.tmp 2)) (zC (.tmp 69) (za jH (.tmp 68) (.con (.int .i64 1))) (zz (.tmp 70) (.tmp 65) [(.tmp 66),(.tmp 67),(.tmp 69)] zK))))))
theorem res82:Try.f82.results.toList=[]:=by kernel_rfl
def K82:K:=(zG (zD K82r0 [10]) (zG (zG (zD K82r1 [17]) (zv (.tmp 17) (zr K82r2 []) zw)) (zG (zG (zr K82r3 [29]) (zv (.tmp 29) jI zw)) (zG (zG (zD K82r4 [34,35,36]) (zd 0 (jx K82l0))) (zD K82r11 [])))))
theorem enter82 (cl:zS) (a0 a1 a2 a3 a4 a5 a6 a7 a8:AV) (s:St):zj Try.prog X cl 82 [a0,a1,a2,a3,a4,a5,a6,a7,a8] s Try.f82=jh Try.prog Try.f82 (K82 cl ⟨82,none,Try.f82.ntmps,X 82⟩ (zQ 0 [a0,a1,a2,a3,a4,a5,a6,a7,a8] .nil) [] s) :=
  zX (b:=Try.f82.body.getD .skip) (by kernel_rfl) (by kernel_rfl) (by kernel_rfl) (by kernel_rfl) (by kernel_rfl)
def K81r0:zF:=(zC (.tmp 2) (yB (tag 78) (.tmp 0)) (zC (.tmp 4) (zE (.con .nilslice)) zK))
def K81r1:zF:=(zC (.tmp 12) (zE (.tmp 1)) (zC (.tmp 13) (kUn jA (.tmp 12)) (zC (.tmp 14) (za jH (.tmp 13) (.con (.int .i64 1))) (zC (.tmp 15) (kMake [(.int .i64 0),(.int .i64 0)] 16 (.tmp 14) (.tmp 14)) (zC (.tmp 5) (jO [.nilslice] (tag 117)) (zC .none (jC 1 (.tmp 5) (.tmp 15)) zK))))))
def K81r2:zF:=(zC (.tmp 16) (zE (.tmp 1)) (zz (.tmp 17) (.con (.func 97 [] [])) [(.tmp 16)] zK))
def K81r3:zF:=(zC (.tmp 56) (zJ none (.tmp 5)) (zC (.tmp 4) (zE (.tmp 56)) zK))
theorem res81:Try.f81.results.toList=[.tmp 4]:=by kernel_rfl
def K81:K:=(zG (zD K81r0 [2,4]) (zG (zD K81r1 [5]) (zG (zG (zD K81r2 [17]) (zd 0 (we (.tmp 17) [18,19] (yO Try.f81 0).1 (yO Try.f81 0).2))) (zG (zD K81r3 [4]) jI))))
theorem enter81 (cl:zS) (a0 a1:AV) (s:St):zj Try.prog X cl 81 [a0,a1] s Try.f81=jh Try.prog Try.f81 (K81 cl ⟨81,none,Try.f81.ntmps,X 81⟩ (zQ 0 [a0,a1] .nil) [] s) :=
  zX (b:=Try.f81.body.getD .skip) (by kernel_rfl) (by kernel_rfl) (by kernel_rfl) (by kernel_rfl) (by kernel_rfl)
def K81a0r0:zF:=(zC (.tmp 6) (zE (.tmp 18)) zK)
def K81a0r1:zF:=(zC (.tmp 7) (jO [(.int .i64 0),(.int .i64 0)] (tag 27)) (zC .none (jC 2 (.tmp 7) (.tmp 19)) zK))
def K81a0:K:=(zG (zD K81a0r0 [6]) (zD K81a0r1 [7]))
theorem code81a0:jY Try.prog (X 81) Try.f81.ntmps (yO Try.f81 0).1=some K81a0:=by kernel_rfl
def K81b0r0:zF:=(zC (.tmp 8) (jO [(.int .i64 0),(.int .i64 0)] (tag 120)) zK)
def K81b0r1:zF:=(zC (.tmp 20) (zJ none (.tmp 2)) (zC (.tmp 21) (kUn wZ (.tmp 20)) (zC (.tmp 22) (kUn (zY 0) (.tmp 21)) (zC (.tmp 23) (kUn (zY 7) (.tmp 22)) (zC (.tmp 24) (zJ none (.tmp 23)) (zC (.tmp 25) (kUn jA (.tmp 24)) (zC (.tmp 26) (zE (.con (.int .i64 0))) zK)))))))
def K81b0r2:zF:=(zC (.tmp 27) (za yL (.tmp 26) (.tmp 25)) zK)
def K81b0r3:zF:=(zC (.tmp 28) (zE (.tmp 26)) (zC (.tmp 29) (jG (jR 6) (.tmp 24) (.tmp 26)) (zC (.tmp 30) (zJ (some 6) (.tmp 29)) (zC (.tmp 10) (jO [(.int .i64 0),(.int .i64 0),(.bool false),.nilslice,(.int .i64 0),(.int .i64 0)] (tag 49)) (zC (.tmp 9) (zE (.tmp 28)) (zC .none (jC 6 (.tmp 10) (.tmp 30)) zK))))))
def K81b0r4:zF:=(zC (.tmp 31) (kUn (zY 4) (.tmp 10)) (zC (.tmp 32) (zJ none (.tmp 31)) (zC (.tmp 33) (yR [(.int .i64 0),(.int .i64 0)] [(0,1,(.tmp 32)),(1,1,(.con (.int .i64 1)))]) (zC (.tmp 11) (jO [(.int .i64 0),(.int .i64 0)] (tag 120)) (zC .none (jC 2 (.tmp 11) (.tmp 33)) zK)))))
def K81b0r5s9:zF:=(zC (.tmp 43) (yN (.tmp 37) (.tmp 42) (.con (.bool false))) zK)
def K81b0r5s8:zF:=(oIf 37 true (zz (.tmp 42) (.con (.func 54 [] [])) [(.tmp 38),(.con .nilslice),(.tmp 41)] K81b0r5s9) (zZ (.tmp 42) K81b0r5s9))
def K81b0r5s7:zF:=(oIf 37 true (zC (.tmp 41) (yR [(.int .i64 0),(.int .i64 0),(.int .i64 0)] [(0,2,(.tmp 39)),(2,1,(.tmp 40))]) K81b0r5s8) (zZ (.tmp 41) K81b0r5s8))
def K81b0r5s6:zF:=(oIf 37 true (zC (.tmp 40) (zE (.tmp 9)) K81b0r5s7) (zZ (.tmp 40) K81b0r5s7))
def K81b0r5s5:zF:=(oIf 37 true (zC (.tmp 39) (zJ (some 2) (.tmp 7)) K81b0r5s6) (zZ (.tmp 39) K81b0r5s6))
def K81b0r5:zF:=(zC (.tmp 34) (zJ (some 2) (.tmp 11)) (zC (.tmp 35) (zJ (some 2) (.tmp 8)) (zz (.tmp 36) (.con (.func 83 [] [])) [(.tmp 34),(.tmp 35)] (zC (.tmp 37) (zE (.tmp 36)) (oIf 37 true (zC (.tmp 38) (zJ none (.tmp 2)) K81b0r5s5) (zZ (.tmp 38) K81b0r5s5))))))
def K81b0r6:zF:=(zC (.tmp 44) (zJ (some 2) (.tmp 11)) (zC .none (jC 2 (.tmp 8) (.tmp 44)) zK))
def K81b0r7:zF:=(zC (.tmp 45) (za jH (.tmp 26) (.con (.int .i64 1))) (zC (.tmp 26) (zE (.tmp 45)) zK))
def K81b0l0:K:=(zG (zD K81b0r2 [27]) (zG (zv (.tmp 27) zw (jz 2)) (zG (zd 3 (zG (zD K81b0r3 [10,9]) (zG (zD K81b0r4 [11]) (zG (zD K81b0r5 [43]) (zv (.tmp 43) (zD K81b0r6 []) zw))))) (zD K81b0r7 [26]))))
def K81b0r8:zF:=(yM [] (zC (.tmp 46) (zJ none (.tmp 5)) (zC (.tmp 47) (zE (.tmp 6)) (zC (.tmp 48) (zJ none (.tmp 5)) (zC (.tmp 49) (zE (.tmp 6)) (zC (.tmp 50) (za jH (.tmp 49) (.con (.int .i64 1))) (zC (.tmp 51) (jG (jR 2) (.tmp 48) (.tmp 50)) (zC (.tmp 52) (zJ (some 2) (.tmp 51)) (zC (.tmp 53) (zJ (some 2) (.tmp 8)) (jf (some [5]) (.tmp 54) (.con (.func 85 [] [])) [(.tmp 52),(.tmp 53)] (zC (.tmp 55) (jG (jR 2) (.tmp 46) (.tmp 47)) (zC .none (jC 2 (.tmp 55) (.tmp 54)) zK))))))))))))
def K81b0:K:=(zd 1 (zG (zD K81b0r0 [8]) (zG (zG (zD K81b0r1 [24,25,26]) (zd 2 (jx K81b0l0))) (zr K81b0r8 []))))
theorem code81b0:jY Try.prog (X 81) Try.f81.ntmps (yO Try.f81 0).2=some K81b0:=by kernel_rfl
def K83r0:zF:=(zC (.tmp 2) (yB (tag 120) (.tmp 0)) (zC (.tmp 3) (yB (tag 120) (.tmp 1)) (zC (.tmp 4) (zE (.con (.bool false))) zK)))
def K83r1s18:zF:=(zC (.tmp 23) (yN (.tmp 10) (.con (.bool true)) (.tmp 22)) (zC (.tmp 4) (zE (.tmp 23)) zK))
def K83r1s17:zF:=(oIf 10 false (zC (.tmp 22) (yN (.tmp 16) (.tmp 21) (.con (.bool false))) K83r1s18) (zZ (.tmp 22) K83r1s18))
def K83r1s16:zF:=(oIf 16 true (zC (.tmp 21) (za yL (.tmp 18) (.tmp 20)) K83r1s17) (zZ (.tmp 21) K83r1s17))
def K83r1s15:zF:=(oIf 16 true (zC (.tmp 20) (zJ none (.tmp 19)) K83r1s16) (zZ (.tmp 20) K83r1s16))
def K83r1s14:zF:=(oIf 16 true (zC (.tmp 19) (kUn (zY 1) (.tmp 3)) K83r1s15) (zZ (.tmp 19) K83r1s15))
def K83r1s13:zF:=(oIf 16 true (zC (.tmp 18) (zJ none (.tmp 17)) K83r1s14) (zZ (.tmp 18) K83r1s14))
def K83r1s12:zF:=(oIf 16 true (zC (.tmp 17) (kUn (zY 1) (.tmp 2)) K83r1s13) (zZ (.tmp 17) K83r1s13))
def K83r1s11:zF:=(oIf 10 false (zC (.tmp 16) (zE (.tmp 15)) K83r1s12) (zZ (.tmp 16) K83r1s12))
def K83r1s10:zF:=(oIf 10 false (zC (.tmp 15) (za aEql (.tmp 12) (.tmp 14)) K83r1s11) (zZ (.tmp 15) K83r1s11))
def K83r1s9:zF:=(oIf 10 false (zC (.tmp 14) (zJ none (.tmp 13)) K83r1s10) (zZ (.tmp 14) K83r1s10))
def K83r1s8:zF:=(oIf 10 false (zC (.tmp 13) (kUn (zY 0) (.tmp 3)) K83r1s9) (zZ (.tmp 13) K83r1s9))
def K83r1s7:zF:=(oIf 10 false (zC (.tmp 12) (zJ none (.tmp 11)) K83r1s8) (zZ (.tmp 12) K83r1s8))
def K83r1:zF:=(zC (.tmp 5) (kUn (zY 0) (.tmp 2)) (zC (.tmp 6) (zJ none (.tmp 5)) (zC (.tmp 7) (kUn (zY 0) (.tmp 3)) (zC (.tmp 8) (zJ none (.tmp 7)) (zC (.tmp 9) (YO (.tmp 6) (.tmp 8)) (zC (.tmp 10) (zE (.tmp 9)) (oIf 10 false (zC (.tmp 11) (kUn (zY 0) (.tmp 2)) K83r1s7) (zZ (.tmp 11) K83r1s7))))))))
theorem res83:Try.f83.results.toList=[.tmp 4]:=by kernel_rfl
def K83:K:=(zG (zD K83r0 [2,3,4]) (zG (zD K83r1 [4]) jI))
theorem enter83 (cl:zS) (a0 a1:AV) (s:St):zj Try.prog X cl 83 [a0,a1] s Try.f83=jh Try.prog Try.f83 (K83 cl ⟨83,none,Try.f83.ntmps,X 83⟩ (zQ 0 [a0,a1] .nil) [] s) :=
  zX (b:=Try.f83.body.getD .skip) (by kernel_rfl) (by kernel_rfl) (by kernel_rfl) (by kernel_rfl) (by kernel_rfl)
def K85r0:zF:=(zC (.tmp 2) (yB (tag 120) (.tmp 0)) (zC (.tmp 3) (yB (tag 120) (.tmp 1)) (zC (.tmp 4) (jO [(.int .i64 0),(.int .i64 0)] (tag 120)) zK)))
def K85r1:zF:=(zC (.tmp 5) (kUn (zY 0) (.tmp 2)) (zC (.tmp 6) (zJ none (.tmp 5)) (zC (.tmp 7) (kUn (zY 0) (.tmp 3)) (zC (.tmp 8) (zJ none (.tmp 7)) (zC (.tmp 9) (za jH (.tmp 6) (.tmp 8)) (zC (.tmp 10) (kUn (zY 1) (.tmp 2)) (zC (.tmp 11) (zJ none (.tmp 10)) (zC (.tmp 12) (kUn (zY 1) (.tmp 3)) (zC (.tmp 13) (zJ none (.tmp 12)) (zC (.tmp 14) (za jH (.tmp 11) (.tmp 13)) (zC (.tmp 15) (yR [(.int .i64 0),(.int .i64 0)] [(0,1,(.tmp 9)),(1,1,(.tmp 14))]) (zC .none (jC 2 (.tmp 4) (.tmp 15)) zK))))))))))))
theorem res85:Try.f85.results.toList=[.cell 4 120]:=by kernel_rfl
def K85:K:=(zG (zD K85r0 [2,3,4]) (zG (zD K85r1 []) jI))
theorem enter85 (cl:zS) (a0 a1:AV) (s:St):zj Try.prog X cl 85 [a0,a1] s Try.f85=jh Try.prog Try.f85 (K85 cl ⟨85,none,Try.f85.ntmps,X 85⟩ (zQ 0 [a0,a1] .nil) [] s) :=
  zX (b:=Try.f85.body.getD .skip) (by kernel_rfl) (by kernel_rfl) (by kernel_rfl) (by kernel_rfl) (by kernel_rfl)
def K84r0:zF:=(zC (.tmp 2) (zE (.con .nilslice)) zK)
def K84r1:zF:=(zC (.tmp 3) (zE (.tmp 0)) (zC (.tmp 4) (kEql .nilS false (.tmp 3) (.con .nilslice)) zK))
def K84r2:zF:=(zC (.tmp 2) (zE (.con .nilslice)) zK)
def K84r3:zF:=(zC (.tmp 5) (jB [] 0 []) (zC (.tmp 6) (zE (.tmp 0)) (zC (.tmp 7) (jG (jV false 3 24 (tag 51)) (.tmp 5) (.tmp 6)) (zC (.tmp 2) (zE (.tmp 7)) zK))))
theorem res84:Try.f84.results.toList=[.tmp 2]:=by kernel_rfl
def K84:K:=(zG (zD K84r0 [2]) (zG (zG (zD K84r1 [4]) (zv (.tmp 4) (zG (zD K84r2 [2]) jI) zw)) (zG (zD K84r3 [2]) jI)))
theorem enter84 (cl:zS) (a0:AV) (s:St):zj Try.prog X cl 84 [a0] s Try.f84=jh Try.prog Try.f84 (K84 cl ⟨84,none,Try.f84.ntmps,X 84⟩ (zQ 0 [a0] .nil) [] s) :=
  zX (b:=Try.f84.body.getD .skip) (by kernel_rfl) (by kernel_rfl) (by kernel_rfl) (by kernel_rfl) (by kernel_rfl)
def K97r0:zF:=(zC (.tmp 1) (yB (tag 25) (.tmp 0)) (zC (.tmp 2) (zE (.con .nilfunc)) zK))
def K97r1:zF:=(zC (.tmp 3) (JG 103 [] [(.tmp 1)]) (zC (.tmp 2) (zE (.tmp 3)) zK))
theorem res97:Try.f97.results.toList=[.tmp 2]:=by kernel_rfl
def K97:K:=(zG (zD K97r0 [1,2]) (zG (zD K97r1 [2]) jI))
theorem enter97 (cl:zS) (a0:AV) (s:St):zj Try.prog X cl 97 [a0] s Try.f97=jh Try.prog Try.f97 (K97 cl ⟨97,none,Try.f97.ntmps,X 97⟩ (zQ 0 [a0] .nil) [] s) :=
  zX (b:=Try.f97.body.getD .skip) (by kernel_rfl) (by kernel_rfl) (by kernel_rfl) (by kernel_rfl) (by kernel_rfl)
def K103r0:zF:=(zC (.tmp 4) (zJ none (.tmp 1)) (zC (.tmp 5) (kUn jA (.tmp 4)) (zC (.tmp 6) (za yl (.tmp 5) (.con (.int .i64 1))) (zC (.tmp 3) (zE (.tmp 6)) zK))))
def K103r1:zF:=(zC (.tmp 7) (zE (.tmp 3)) (zC (.tmp 8) (za aGeq (.tmp 7) (.con (.int .i64 0))) zK))
def K103r2:zF:=(zC (.tmp 11) (zE (.tmp 0)) (zC (.tmp 12) (zE (.tmp 3)) (zC (.tmp 13) (zJ none (.tmp 1)) (zC (.tmp 14) (zE (.tmp 3)) (zC (.tmp 15) (jG (jR 2) (.tmp 13) (.tmp 14)) (zC (.tmp 16) (zJ (some 2) (.tmp 15)) (zz (.tmp 17) (.tmp 11) [(.tmp 12),(.tmp 16)] (zC (.tmp 18) (kUn notA (.tmp 17)) zK))))))))
def K103r3:zF:=(zC (.tmp 9) (zE (.tmp 3)) (zC (.tmp 10) (za yl (.tmp 9) (.con (.int .i64 1))) (zC (.tmp 3) (zE (.tmp 10)) zK)))
def K103l0:K:=(zG (zG (zD K103r1 [8]) (zv (.tmp 8) zw (jz 0))) (zG (zd 1 (zG (zD K103r2 [18]) (zv (.tmp 18) jI zw))) (zD K103r3 [3])))
theorem res103:Try.f103.results.toList=[]:=by kernel_rfl
def K103:K:=(zG (zD K103r0 [3]) (zd 0 (jx K103l0)))
theorem enter103 (cl:zS) (a0 a1:AV) (s:St):zj Try.prog X cl 103 [a0,a1] s Try.f103=jh Try.prog Try.f103 (K103 cl ⟨103,none,Try.f103.ntmps,X 103⟩ (zQ 0 [a0,a1] .nil) [] s) :=
  zX (b:=Try.f103.body.getD .skip) (by kernel_rfl) (by kernel_rfl) (by kernel_rfl) (by kernel_rfl) (by kernel_rfl)
end
end Go.Proofs.Ytoklbkgcclkejaa.code
set_option maxRecDepth 100000
namespace Go.Proofs.Ytoklbkgcclkejaa.code
open Go.Abs
noncomputable section
def K7r2:zF:=(zC (.tmp 21) (zJ (some 8) (.tmp 3)) (zz (.tmp 22) (.con (.func 29 [] [])) [(.tmp 21)] (zC (.tmp 20) (zE (.tmp 22)) (zC (.tmp 23) (kUn (Ja 0) (.tmp 20)) (zC (.tmp 24) (kUn (Ja 1) (.tmp 20)) (zC (.tmp 4) (zE (.tmp 23)) (zC (.tmp 5) (zE (.tmp 24)) zK)))))))
def K7r3:zF:=(zC (.tmp 26) (zJ (some 8) (.tmp 3)) (zC (.tmp 27) (zE (.tmp 4)) (zz (.tmp 28) (.con (.func 14 [] [])) [(.tmp 26),(.tmp 27)] (zC (.tmp 25) (zE (.tmp 28)) (zC (.tmp 29) (kUn (Ja 0) (.tmp 25)) (zC (.tmp 30) (kUn (Ja 1) (.tmp 25)) (zC (.tmp 6) (zE (.tmp 29)) (zC (.tmp 7) (zE (.tmp 30)) zK))))))))
def K7r4:zF:=(zC (.tmp 32) (zJ (some 8) (.tmp 3)) (zC (.tmp 33) (zE (.tmp 4)) (zz (.tmp 34) (.con (.func 23 [] [])) [(.tmp 32),(.tmp 33)] (zC (.tmp 31) (zE (.tmp 34)) (zC (.tmp 35) (kUn (Ja 0) (.tmp 31)) (zC (.tmp 36) (kUn (Ja 1) (.tmp 31)) (zC (.tmp 8) (zE (.tmp 35)) (zC (.tmp 9) (zE (.tmp 36)) zK))))))))
def K7r5s13:zF:=(zC (.tmp 50) (yN (.tmp 47) (.con (.bool true)) (.tmp 49)) zK)
def K7r5s12:zF:=(oIf 47 false (zC (.tmp 49) (za vt (.tmp 48) (.con (.int .i64 1))) K7r5s13) (zZ (.tmp 49) K7r5s13))
def K7r5s9:zF:=(zC (.tmp 46) (yN (.tmp 43) (.con (.bool true)) (.tmp 45)) (zC (.tmp 47) (zE (.tmp 46)) (oIf 47 false (zC (.tmp 48) (zE (.tmp 6)) K7r5s12) (zZ (.tmp 48) K7r5s12))))
def K7r5s8:zF:=(oIf 43 false (zC (.tmp 45) (za vt (.tmp 44) (.con (.int .i64 0))) K7r5s9) (zZ (.tmp 45) K7r5s9))
def K7r5s5:zF:=(zC (.tmp 42) (yN (.tmp 39) (.con (.bool true)) (.tmp 41)) (zC (.tmp 43) (zE (.tmp 42)) (oIf 43 false (zC (.tmp 44) (zE (.tmp 9)) K7r5s8) (zZ (.tmp 44) K7r5s8))))
def K7r5s4:zF:=(oIf 39 false (zC (.tmp 41) (za vt (.tmp 40) (.con (.int .i64 0))) K7r5s5) (zZ (.tmp 41) K7r5s5))
def K7r5:zF:=(zC (.tmp 37) (zE (.tmp 5)) (zC (.tmp 38) (za vt (.tmp 37) (.con (.int .i64 0))) (zC (.tmp 39) (zE (.tmp 38)) (oIf 39 false (zC (.tmp 40) (zE (.tmp 7)) K7r5s4) (zZ (.tmp 40) K7r5s4)))))
def K7r6:zF:=(zC (.tmp 2) (zE (.con (.bool false))) zK)
def K7r7:zF:=(zC (.tmp 51) (zJ (some 8) (.tmp 3)) (zz (.tmp 52) (.con (.func 30 [] [])) [(.tmp 51),(.con .nilslice),(.con (.int .i64 0)),(.con .nilslice)] (zC (.tmp 10) (zE (.tmp 52)) zK)))
def K7r8:zF:=(zC (.tmp 11) (zE (.con (.bool false))) zK)
def K7r9:zF:=(zC (.tmp 12) (zE (.con (.int .i64 0))) zK)
def K7r10:zF:=(zC (.tmp 53) (zE (.tmp 12)) (zC (.tmp 54) (zE (.tmp 10)) (zC (.tmp 55) (kUn jA (.tmp 54)) (zC (.tmp 56) (za yL (.tmp 53) (.tmp 55)) zK))))
def K7r11:zF:=(yM [] (zC (.tmp 60) (zJ (some 8) (.tmp 3)) (zC (.tmp 61) (zE (.tmp 10)) (zC (.tmp 62) (zE (.tmp 12)) (zC (.tmp 63) (jG (jR 1) (.tmp 61) (.tmp 62)) (zC (.tmp 64) (zJ none (.tmp 63)) (zz (.tmp 65) (.con (.func 23 [] [])) [(.tmp 60),(.tmp 64)] (zC (.tmp 59) (zE (.tmp 65)) (zC (.tmp 66) (kUn (Ja 0) (.tmp 59)) (zC (.tmp 67) (kUn (Ja 1) (.tmp 59)) (zC (.tmp 13) (zE (.tmp 66)) (zC (.tmp 14) (zE (.tmp 67)) zK))))))))))))
def K7r12:zF:=(yM [] (zC (.tmp 69) (zJ (some 8) (.tmp 3)) (zC (.tmp 70) (zE (.tmp 10)) (zC (.tmp 71) (zE (.tmp 12)) (zC (.tmp 72) (jG (jR 1) (.tmp 70) (.tmp 71)) (zC (.tmp 73) (zJ none (.tmp 72)) (zz (.tmp 74) (.con (.func 14 [] [])) [(.tmp 69),(.tmp 73)] (zC (.tmp 68) (zE (.tmp 74)) (zC (.tmp 75) (kUn (Ja 0) (.tmp 68)) (zC (.tmp 76) (kUn (Ja 1) (.tmp 68)) (zC (.tmp 15) (zE (.tmp 75)) (zC (.tmp 16) (zE (.tmp 76)) zK))))))))))))
def K7r13s47:zF:=(zC (.tmp 124) (yN (.tmp 92) (.con (.bool true)) (.tmp 123)) zK)
def K7r13s46:zF:=(oIf 92 false (zC (.tmp 123) (yN (.tmp 96) (.tmp 122) (.con (.bool false))) K7r13s47) (zZ (.tmp 123) K7r13s47))
def K7r13s45:zF:=(oIf 96 true (zC (.tmp 122) (yN (.tmp 105) (.con (.bool true)) (.tmp 121)) K7r13s46) (zZ (.tmp 122) K7r13s46))
def K7r13s44:zF:=(oIf 105 false (zC (.tmp 121) (yN (.tmp 114) (.tmp 120) (.con (.bool false))) K7r13s45) (zZ (.tmp 121) K7r13s45))
def K7r13s43:zF:=(oIf 114 true (zz (.tmp 120) (.con (.func 31 [] [])) [(.tmp 118),(.tmp 119)] K7r13s44) (zZ (.tmp 120) K7r13s44))
def K7r13s42:zF:=(oIf 114 true (zC (.tmp 119) (zE (.tmp 4)) K7r13s43) (zZ (.tmp 119) K7r13s43))
def K7r13s41:zF:=(oIf 114 true (zC (.tmp 118) (zJ none (.tmp 117)) K7r13s42) (zZ (.tmp 118) K7r13s42))
def K7r13s40:zF:=(oIf 114 true (zC (.tmp 117) (jG (jR 1) (.tmp 115) (.tmp 116)) K7r13s41) (zZ (.tmp 117) K7r13s41))
def K7r13s39:zF:=(oIf 114 true (zC (.tmp 116) (zE (.tmp 12)) K7r13s40) (zZ (.tmp 116) K7r13s40))
def K7r13s38:zF:=(oIf 114 true (zC (.tmp 115) (zE (.tmp 10)) K7r13s39) (zZ (.tmp 115) K7r13s39))
def K7r13s37:zF:=(oIf 105 false (zC (.tmp 114) (zE (.tmp 113)) K7r13s38) (zZ (.tmp 114) K7r13s38))
def K7r13s36:zF:=(oIf 105 false (zC (.tmp 113) (za aEql (.tmp 110) (.tmp 112)) K7r13s37) (zZ (.tmp 113) K7r13s37))
def K7r13s35:zF:=(oIf 105 false (zC (.tmp 112) (kUn jA (.tmp 111)) K7r13s36) (zZ (.tmp 112) K7r13s36))
def K7r13s34:zF:=(oIf 105 false (zC (.tmp 111) (zE (.tmp 4)) K7r13s35) (zZ (.tmp 111) K7r13s35))
def K7r13s33:zF:=(oIf 105 false (zC (.tmp 110) (kUn jA (.tmp 109)) K7r13s34) (zZ (.tmp 110) K7r13s34))
def K7r13s32:zF:=(oIf 105 false (zC (.tmp 109) (zJ none (.tmp 108)) K7r13s33) (zZ (.tmp 109) K7r13s33))
def K7r13s31:zF:=(oIf 105 false (zC (.tmp 108) (jG (jR 1) (.tmp 106) (.tmp 107)) K7r13s32) (zZ (.tmp 108) K7r13s32))
def K7r13s30:zF:=(oIf 105 false (zC (.tmp 107) (zE (.tmp 12)) K7r13s31) (zZ (.tmp 107) K7r13s31))
def K7r13s29:zF:=(oIf 105 false (zC (.tmp 106) (zE (.tmp 10)) K7r13s30) (zZ (.tmp 106) K7r13s30))
def K7r13s28:zF:=(oIf 96 true (zC (.tmp 105) (zE (.tmp 104)) K7r13s29) (zZ (.tmp 105) K7r13s29))
def K7r13s27:zF:=(oIf 96 true (zC (.tmp 104) (za yL (.tmp 101) (.tmp 103)) K7r13s28) (zZ (.tmp 104) K7r13s28))
def K7r13s26:zF:=(oIf 96 true (zC (.tmp 103) (kUn jA (.tmp 102)) K7r13s27) (zZ (.tmp 103) K7r13s27))
def K7r13s25:zF:=(oIf 96 true (zC (.tmp 102) (zE (.tmp 4)) K7r13s26) (zZ (.tmp 102) K7r13s26))
def K7r13s24:zF:=(oIf 96 true (zC (.tmp 101) (kUn jA (.tmp 100)) K7r13s25) (zZ (.tmp 101) K7r13s25))
def K7r13s23:zF:=(oIf 96 true (zC (.tmp 100) (zJ none (.tmp 99)) K7r13s24) (zZ (.tmp 100) K7r13s24))
def K7r13s22:zF:=(oIf 96 true (zC (.tmp 99) (jG (jR 1) (.tmp 97) (.tmp 98)) K7r13s23) (zZ (.tmp 99) K7r13s23))
def K7r13s21:zF:=(oIf 96 true (zC (.tmp 98) (zE (.tmp 12)) K7r13s22) (zZ (.tmp 98) K7r13s22))
def K7r13s20:zF:=(oIf 96 true (zC (.tmp 97) (zE (.tmp 10)) K7r13s21) (zZ (.tmp 97) K7r13s21))
def K7r13s19:zF:=(oIf 92 false (zC (.tmp 96) (zE (.tmp 95)) K7r13s20) (zZ (.tmp 96) K7r13s20))
def K7r13s18:zF:=(oIf 92 false (zC (.tmp 95) (za aEql (.tmp 93) (.tmp 94)) K7r13s19) (zZ (.tmp 95) K7r13s19))
def K7r13s17:zF:=(oIf 92 false (zC (.tmp 94) (zE (.tmp 8)) K7r13s18) (zZ (.tmp 94) K7r13s18))
def K7r13s14:zF:=(zC (.tmp 91) (yN (.tmp 87) (.con (.bool true)) (.tmp 90)) (zC (.tmp 92) (zE (.tmp 91)) (oIf 92 false (zC (.tmp 93) (zE (.tmp 13)) K7r13s17) (zZ (.tmp 93) K7r13s17))))
def K7r13s13:zF:=(oIf 87 false (zC (.tmp 90) (YO (.tmp 88) (.tmp 89)) K7r13s14) (zZ (.tmp 90) K7r13s14))
def K7r13s12:zF:=(oIf 87 false (zC (.tmp 89) (zE (.tmp 8)) K7r13s13) (zZ (.tmp 89) K7r13s13))
def K7r13s9:zF:=(zC (.tmp 86) (yN (.tmp 83) (.con (.bool true)) (.tmp 85)) (zC (.tmp 87) (zE (.tmp 86)) (oIf 87 false (zC (.tmp 88) (zE (.tmp 13)) K7r13s12) (zZ (.tmp 88) K7r13s12))))
def K7r13s8:zF:=(oIf 83 false (zC (.tmp 85) (za vt (.tmp 84) (.con (.int .i64 1))) K7r13s9) (zZ (.tmp 85) K7r13s9))
def K7r13s5:zF:=(zC (.tmp 82) (yN (.tmp 79) (.con (.bool true)) (.tmp 81)) (zC (.tmp 83) (zE (.tmp 82)) (oIf 83 false (zC (.tmp 84) (zE (.tmp 15)) K7r13s8) (zZ (.tmp 84) K7r13s8))))
def K7r13s4:zF:=(oIf 79 false (zC (.tmp 81) (za vt (.tmp 80) (.con (.int .i64 0))) K7r13s5) (zZ (.tmp 81) K7r13s5))
def K7r13:zF:=(zC (.tmp 77) (zE (.tmp 14)) (zC (.tmp 78) (za vt (.tmp 77) (.con (.int .i64 0))) (zC (.tmp 79) (zE (.tmp 78)) (oIf 79 false (zC (.tmp 80) (zE (.tmp 16)) K7r13s4) (zZ (.tmp 80) K7r13s4)))))
def K7r14:zF:=(zC (.tmp 2) (zE (.con (.bool false))) zK)
def K7r15s8:zF:=(zC (.tmp 133) (yN (.tmp 126) (.con (.bool true)) (.tmp 132)) (zC (.tmp 11) (zE (.tmp 133)) zK))
def K7r15s7:zF:=(oIf 126 false (zz (.tmp 132) (.con (.func 32 [] [])) [(.tmp 130),(.tmp 131)] K7r15s8) (zZ (.tmp 132) K7r15s8))
def K7r15s6:zF:=(oIf 126 false (zC (.tmp 131) (zE (.tmp 4)) K7r15s7) (zZ (.tmp 131) K7r15s7))
def K7r15s5:zF:=(oIf 126 false (zC (.tmp 130) (zJ none (.tmp 129)) K7r15s6) (zZ (.tmp 130) K7r15s6))
def K7r15s4:zF:=(oIf 126 false (zC (.tmp 129) (jG (jR 1) (.tmp 127) (.tmp 128)) K7r15s5) (zZ (.tmp 129) K7r15s5))
def K7r15s3:zF:=(oIf 126 false (zC (.tmp 128) (zE (.tmp 12)) K7r15s4) (zZ (.tmp 128) K7r15s4))
def K7r15:zF:=(zC (.tmp 125) (zE (.tmp 11)) (zC (.tmp 126) (zE (.tmp 125)) (oIf 126 false (zC (.tmp 127) (zE (.tmp 10)) K7r15s3) (zZ (.tmp 127) K7r15s3))))
def K7r16:zF:=(zC (.tmp 57) (zE (.tmp 12)) (zC (.tmp 58) (za jH (.tmp 57) (.con (.int .i64 1))) (zC (.tmp 12) (zE (.tmp 58)) zK)))
def K7l0:K:=(zG (zG (zD K7r10 [56]) (zv (.tmp 56) zw (jz 0))) (zG (zd 1 (zG (zr K7r11 [13,14]) (zG (zr K7r12 [15,16]) (zG (zG (zD K7r13 [124]) (zv (.tmp 124) (zG (zD K7r14 [2]) jI) zw)) (zD K7r15 [11]))))) (zD K7r16 [12])))
def K7r17s3:zF:=(zC (.tmp 137) (yN (.tmp 135) (.tmp 136) (.con (.bool false))) (zC (.tmp 2) (zE (.tmp 137)) zK))
def K7r17:zF:=(zC (.tmp 134) (zE (.tmp 11)) (zC (.tmp 135) (zE (.tmp 134)) (oIf 135 true (zz (.tmp 136) (.con (.func 19 [] [])) [] K7r17s3) (zZ (.tmp 136) K7r17s3))))
theorem res7:Try.f7.results.toList=[.tmp 2]:=by kernel_rfl
def K30r0:zF:=(zC (.tmp 4) (yB (tag 30) (.tmp 0)) (zC (.tmp 8) (zE (.con .nilslice)) zK))
def K30r1:zF:=(zC (.tmp 12) (zJ (some 8) (.tmp 4)) (zz (.tmp 13) (.con (.func 40 [] [])) [(.tmp 12)] (zC (.tmp 9) (zE (.tmp 13)) zK)))
def K30r2:zF:=(zC (.tmp 14) (zE (.tmp 2)) (zC (.tmp 15) (zE (.tmp 9)) (zC (.tmp 16) (kUn jA (.tmp 15)) (zC (.tmp 17) (za aEql (.tmp 14) (.tmp 16)) zK))))
def K30r3:zF:=(zC (.tmp 18) (zE (.tmp 3)) (zC (.tmp 19) (zE (.tmp 1)) (zC (.tmp 20) (jB [.nilslice] 1 [(0,1,(.tmp 19))]) (zC (.tmp 21) (jG (jV false 1 24 (tag 32)) (.tmp 18) (.tmp 20)) (zC (.tmp 8) (zE (.tmp 21)) zK)))))
def K30r4:zF:=(zC (.tmp 22) (zJ (some 8) (.tmp 4)) (zC (.tmp 23) (zE (.tmp 1)) (zC (.tmp 24) (zE (.tmp 2)) (zC (.tmp 25) (za jH (.tmp 24) (.con (.int .i64 1))) (zC (.tmp 26) (zE (.tmp 3)) (zz (.tmp 27) (.con (.func 30 [] [])) [(.tmp 22),(.tmp 23),(.tmp 25),(.tmp 26)] (zC (.tmp 3) (zE (.tmp 27)) zK)))))))
def K30r5:zF:=(zC (.tmp 10) (zE (.con (.int .i64 0))) zK)
def K30r6:zF:=(zC (.tmp 28) (zE (.tmp 10)) (zC (.tmp 29) (kUn (zY 7) (.tmp 4)) (zC (.tmp 30) (zJ none (.tmp 29)) (zC (.tmp 31) (kUn jA (.tmp 30)) (zC (.tmp 32) (za yL (.tmp 28) (.tmp 31)) zK)))))
def K30r7:zF:=(yM [(35,40)] (zC (.tmp 35) (jB [] 0 []) (zC (.tmp 36) (zE (.tmp 1)) (zC (.tmp 37) (jG (jV false 3 24 (tag 51)) (.tmp 35) (.tmp 36)) (zC (.tmp 38) (zE (.tmp 9)) (zC (.tmp 39) (zE (.tmp 2)) (zC (.tmp 40) (jG (jR 2) (.tmp 38) (.tmp 39)) (zC (.tmp 41) (zJ (some 2) (.tmp 40)) (zC (.tmp 42) (zE (.tmp 10)) (zC (.tmp 43) (yR [(.int .i64 0),(.int .i64 0),(.int .i64 0)] [(0,2,(.tmp 41)),(2,1,(.tmp 42))]) (zC (.tmp 44) (jB [(.int .i64 0),(.int .i64 0),(.int .i64 0)] 1 [(0,3,(.tmp 43))]) (zC (.tmp 45) (jG (jV false 3 24 (tag 51)) (.tmp 37) (.tmp 44)) (zC (.tmp 11) (zE (.tmp 45)) zK)))))))))))))
def K30r8:zF:=(zC (.tmp 46) (zJ (some 8) (.tmp 4)) (zC (.tmp 47) (zE (.tmp 11)) (zz (.tmp 48) (.con (.func 58 [] [])) [(.tmp 46),(.tmp 47)] zK)))
def K30r9:zF:=(zC (.tmp 49) (zJ (some 8) (.tmp 4)) (zC (.tmp 50) (zE (.tmp 11)) (zC (.tmp 51) (zE (.tmp 2)) (zC (.tmp 52) (za jH (.tmp 51) (.con (.int .i64 1))) (zC (.tmp 53) (zE (.tmp 3)) (zz (.tmp 54) (.con (.func 30 [] [])) [(.tmp 49),(.tmp 50),(.tmp 52),(.tmp 53)] (zC (.tmp 3) (zE (.tmp 54)) zK)))))))
def K30r10:zF:=(zC (.tmp 33) (zE (.tmp 10)) (zC (.tmp 34) (za jH (.tmp 33) (.con (.int .i64 1))) (zC (.tmp 10) (zE (.tmp 34)) zK)))
def K30l0:K:=(zG (zG (zD K30r6 [32]) (zv (.tmp 32) zw (jz 0))) (zG (zd 1 (zG (zr K30r7 [11]) (zG (zD K30r8 [48]) (zv (.tmp 48) (zD K30r9 [3]) zw)))) (zD K30r10 [10])))
def K30r11:zF:=(zC (.tmp 55) (zE (.tmp 3)) (zC (.tmp 8) (zE (.tmp 55)) zK))
theorem res30:Try.f30.results.toList=[.tmp 8]:=by kernel_rfl
def K30:K:=(zG (zD K30r0 [4,8]) (zG (zD K30r1 [9]) (zG (zG (zD K30r2 [17]) (zv (.tmp 17) (zG (zD K30r3 [8]) jI) zw)) (zG (zD K30r4 [3]) (zG (zG (zD K30r5 [10]) (zd 0 (jx K30l0))) (zG (zD K30r11 [8]) jI))))))
theorem enter30 (cl:zS) (a0 a1 a2 a3:AV) (s:St):zj Try.prog X cl 30 [a0,a1,a2,a3] s Try.f30=jh Try.prog Try.f30 (K30 cl ⟨30,none,Try.f30.ntmps,X 30⟩ (zQ 0 [a0,a1,a2,a3] .nil) [] s) :=
  zX (b:=Try.f30.body.getD .skip) (by kernel_rfl) (by kernel_rfl) (by kernel_rfl) (by kernel_rfl) (by kernel_rfl)
def K58r0:zF:=(zC (.tmp 2) (yB (tag 30) (.tmp 0)) (zC (.tmp 4) (zE (.con (.bool false))) zK))
def K58r1s9:zF:=(zC (.tmp 14) (yN (.tmp 9) (.tmp 13) (.con (.bool false))) (zC (.tmp 4) (zE (.tmp 14)) zK))
def K58r1s8:zF:=(oIf 9 true (zC (.tmp 13) (za aEql (.tmp 12) (.con (.int .i64 1))) K58r1s9) (zZ (.tmp 13) K58r1s9))
def K58r1s7:zF:=(oIf 9 true (zz (.tmp 12) (.con (.func 86 [] [])) [(.tmp 10),(.tmp 11)] K58r1s8) (zZ (.tmp 12) K58r1s8))
def K58r1s6:zF:=(oIf 9 true (zC (.tmp 11) (zE (.tmp 1)) K58r1s7) (zZ (.tmp 11) K58r1s7))
def K58r1:zF:=(zC (.tmp 5) (zJ (some 8) (.tmp 2)) (zC (.tmp 6) (zE (.tmp 1)) (zz (.tmp 7) (.con (.func 61 [] [])) [(.tmp 5),(.tmp 6)] (zC (.tmp 8) (za aEql (.tmp 7) (.con (.int .i64 0))) (zC (.tmp 9) (zE (.tmp 8)) (oIf 9 true (zC (.tmp 10) (zJ (some 8) (.tmp 2)) K58r1s6) (zZ (.tmp 10) K58r1s6)))))))
theorem res58:Try.f58.results.toList=[.tmp 4]:=by kernel_rfl
def K58:K:=(zG (zD K58r0 [2,4]) (zG (zD K58r1 [4]) jI))
theorem enter58 (cl:zS) (a0 a1:AV) (s:St):zj Try.prog X cl 58 [a0,a1] s Try.f58=jh Try.prog Try.f58 (K58 cl ⟨58,none,Try.f58.ntmps,X 58⟩ (zQ 0 [a0,a1] .nil) [] s) :=
  zX (b:=Try.f58.body.getD .skip) (by kernel_rfl) (by kernel_rfl) (by kernel_rfl) (by kernel_rfl) (by kernel_rfl)
def K31r0:zF:=(zC (.tmp 4) (zE (.con (.bool false))) zK)
def K31r1:zF:=(zC (.tmp 5) (zE (.con (.int .i64 0))) zK)
def K31r2:zF:=(zC (.tmp 8) (zE (.tmp 5)) (zC (.tmp 9) (zE (.tmp 0)) (zC (.tmp 10) (kUn jA (.tmp 9)) (zC (.tmp 11) (za yL (.tmp 8) (.tmp 10)) zK))))
def K31r3:zF:=(yM [(6,20)] (zC (.tmp 14) (zE (.tmp 0)) (zC (.tmp 15) (zE (.tmp 5)) (zC (.tmp 16) (jG (jR 3) (.tmp 14) (.tmp 15)) (zC (.tmp 17) (zJ (some 3) (.tmp 16)) (zC (.tmp 18) (zE (.tmp 1)) (zC (.tmp 19) (zE (.tmp 5)) (zC (.tmp 20) (jG (jR 3) (.tmp 18) (.tmp 19)) (zC (.tmp 21) (zJ (some 3) (.tmp 20)) (zC (.tmp 6) (jO [(.int .i64 0),(.int .i64 0),(.int .i64 0)] (tag 51)) (zC (.tmp 7) (jO [(.int .i64 0),(.int .i64 0),(.int .i64 0)] (tag 51)) (zC .none (jC 3 (.tmp 6) (.tmp 17)) (zC .none (jC 3 (.tmp 7) (.tmp 21)) zK)))))))))))))
def K31r4:zF:=(zC (.tmp 23) (kUn (zY 0) (.tmp 6)) (zC (.tmp 24) (kUn (zY 1) (.tmp 23)) (zC (.tmp 25) (zJ none (.tmp 24)) (zC (.tmp 26) (kUn (zY 0) (.tmp 7)) (zC (.tmp 27) (kUn (zY 1) (.tmp 26)) (zC (.tmp 28) (zJ none (.tmp 27)) (zC (.tmp 29) (za vt (.tmp 25) (.tmp 28)) (zC (.tmp 22) (zE (.tmp 29)) zK))))))))
def K31r5:zF:=(zC (.tmp 30) (kUn (zY 0) (.tmp 6)) (zC (.tmp 31) (kUn (zY 1) (.tmp 30)) (zC (.tmp 32) (zJ none (.tmp 31)) (zC (.tmp 33) (kUn (zY 0) (.tmp 7)) (zC (.tmp 34) (kUn (zY 1) (.tmp 33)) (zC (.tmp 35) (zJ none (.tmp 34)) (zC (.tmp 36) (za yL (.tmp 32) (.tmp 35)) (zC (.tmp 4) (zE (.tmp 36)) zK))))))))
def K31r6:zF:=(zC (.tmp 38) (kUn (zY 0) (.tmp 6)) (zC (.tmp 39) (kUn (zY 0) (.tmp 38)) (zC (.tmp 40) (zJ none (.tmp 39)) (zC (.tmp 41) (kUn (zY 0) (.tmp 7)) (zC (.tmp 42) (kUn (zY 0) (.tmp 41)) (zC (.tmp 43) (zJ none (.tmp 42)) (zC (.tmp 44) (za vt (.tmp 40) (.tmp 43)) (zC (.tmp 37) (zE (.tmp 44)) zK))))))))
def K31r7:zF:=(zC (.tmp 45) (kUn (zY 0) (.tmp 6)) (zC (.tmp 46) (kUn (zY 0) (.tmp 45)) (zC (.tmp 47) (zJ none (.tmp 46)) (zC (.tmp 48) (kUn (zY 0) (.tmp 7)) (zC (.tmp 49) (kUn (zY 0) (.tmp 48)) (zC (.tmp 50) (zJ none (.tmp 49)) (zC (.tmp 51) (za yL (.tmp 47) (.tmp 50)) (zC (.tmp 4) (zE (.tmp 51)) zK))))))))
def K31r8:zF:=(zC (.tmp 53) (kUn (zY 2) (.tmp 6)) (zC (.tmp 54) (zJ none (.tmp 53)) (zC (.tmp 55) (kUn (zY 2) (.tmp 7)) (zC (.tmp 56) (zJ none (.tmp 55)) (zC (.tmp 57) (za vt (.tmp 54) (.tmp 56)) (zC (.tmp 52) (zE (.tmp 57)) zK))))))
def K31r9:zF:=(zC (.tmp 58) (kUn (zY 2) (.tmp 6)) (zC (.tmp 59) (zJ none (.tmp 58)) (zC (.tmp 60) (kUn (zY 2) (.tmp 7)) (zC (.tmp 61) (zJ none (.tmp 60)) (zC (.tmp 62) (za yL (.tmp 59) (.tmp 61)) (zC (.tmp 4) (zE (.tmp 62)) zK))))))
def K31r10:zF:=(zC (.tmp 12) (zE (.tmp 5)) (zC (.tmp 13) (za jH (.tmp 12) (.con (.int .i64 1))) (zC (.tmp 5) (zE (.tmp 13)) zK)))
def K31l0:K:=(zG (zG (zD K31r2 [11]) (zv (.tmp 11) zw (jz 0))) (zG (zd 1 (zG (zr K31r3 [6,7]) (zd 2 (zG (zD K31r4 [22]) (zv (.tmp 22) (zG (zD K31r5 [4]) jI) (zG (zD K31r6 [37]) (zv (.tmp 37) (zG (zD K31r7 [4]) jI) (zG (zD K31r8 [52]) (zv (.tmp 52) (zG (zD K31r9 [4]) jI) zw))))))))) (zD K31r10 [5])))
def K31r11:zF:=(zC (.tmp 4) (zE (.con (.bool false))) zK)
theorem res31:Try.f31.results.toList=[.tmp 4]:=by kernel_rfl
def K31:K:=(zG (zD K31r0 [4]) (zG (zG (zD K31r1 [5]) (zd 0 (jx K31l0))) (zG (zD K31r11 [4]) jI)))
theorem enter31 (cl:zS) (a0 a1:AV) (s:St):zj Try.prog X cl 31 [a0,a1] s Try.f31=jh Try.prog Try.f31 (K31 cl ⟨31,none,Try.f31.ntmps,X 31⟩ (zQ 0 [a0,a1] .nil) [] s) :=
  zX (b:=Try.f31.body.getD .skip) (by kernel_rfl) (by kernel_rfl) (by kernel_rfl) (by kernel_rfl) (by kernel_rfl)
def K32r0:zF:=(zC (.tmp 4) (zE (.con (.bool false))) zK)
def K32r1:zF:=(zC (.tmp 7) (zE (.tmp 0)) (zC (.tmp 8) (kUn jA (.tmp 7)) (zC (.tmp 9) (zE (.tmp 1)) (zC (.tmp 10) (kUn jA (.tmp 9)) (zC (.tmp 11) (za aEql (.tmp 8) (.tmp 10)) (zC (.tmp 5) (zE (.tmp 11)) zK))))))
def K32r2:zF:=(zC (.tmp 6) (zE (.con (.int .i64 0))) zK)
def K32r3s6:zF:=(zC (.tmp 18) (yN (.tmp 13) (.tmp 17) (.con (.bool false))) zK)
def K32r3s5:zF:=(oIf 13 true (zC (.tmp 17) (za yL (.tmp 14) (.tmp 16)) K32r3s6) (zZ (.tmp 17) K32r3s6))
def K32r3s4:zF:=(oIf 13 true (zC (.tmp 16) (kUn jA (.tmp 15)) K32r3s5) (zZ (.tmp 16) K32r3s5))
def K32r3s3:zF:=(oIf 13 true (zC (.tmp 15) (zE (.tmp 0)) K32r3s4) (zZ (.tmp 15) K32r3s4))
def K32r3:zF:=(zC (.tmp 12) (zE (.tmp 5)) (zC (.tmp 13) (zE (.tmp 12)) (oIf 13 true (zC (.tmp 14) (zE (.tmp 6)) K32r3s3) (zZ (.tmp 14) K32r3s3))))
def K32r4:zF:=(yM [] (zC (.tmp 21) (zE (.tmp 0)) (zC (.tmp 22) (zE (.tmp 6)) (zC (.tmp 23) (jG (jR 3) (.tmp 21) (.tmp 22)) (zC (.tmp 24) (zJ (some 3) (.tmp 23)) (zC (.tmp 25) (zE (.tmp 1)) (zC (.tmp 26) (zE (.tmp 6)) (zC (.tmp 27) (jG (jR 3) (.tmp 25) (.tmp 26)) (zC (.tmp 28) (zJ (some 3) (.tmp 27)) (zC (.tmp 29) (kEql (.row [(0,(some 2),(.row [(0,none,.int),(1,none,.int)])),(2,none,.int)]) false (.tmp 24) (.tmp 28)) (zC (.tmp 5) (zE (.tmp 29)) zK)))))))))))
def K32r5:zF:=(zC (.tmp 19) (zE (.tmp 6)) (zC (.tmp 20) (za jH (.tmp 19) (.con (.int .i64 1))) (zC (.tmp 6) (zE (.tmp 20)) zK)))
def K32l0:K:=(zG (zG (zD K32r3 [18]) (zv (.tmp 18) zw (jz 0))) (zG (zd 1 (zr K32r4 [5])) (zD K32r5 [6])))
def K32r6:zF:=(zC (.tmp 30) (zE (.tmp 5)) (zC (.tmp 4) (zE (.tmp 30)) zK))
theorem res32:Try.f32.results.toList=[.tmp 4]:=by kernel_rfl
def K32:K:=(zG (zD K32r0 [4]) (zG (zD K32r1 [5]) (zG (zG (zD K32r2 [6]) (zd 0 (jx K32l0))) (zG (zD K32r6 [4]) jI))))
theorem enter32 (cl:zS) (a0 a1:AV) (s:St):zj Try.prog X cl 32 [a0,a1] s Try.f32=jh Try.prog Try.f32 (K32 cl ⟨32,none,Try.f32.ntmps,X 32⟩ (zQ 0 [a0,a1] .nil) [] s) :=
  zX (b:=Try.f32.body.getD .skip) (by kernel_rfl) (by kernel_rfl) (by kernel_rfl) (by kernel_rfl) (by kernel_rfl)
def K86r0:zF:=(zC (.tmp 2) (yB (tag 30) (.tmp 0)) (zC (.tmp 4) (zE (.con (.int .i64 0))) zK))
def K86r1:zF:=(zC (.tmp 5) (zE (.con (.bool true))) (zC (.tmp 6) (zE (.con (.bool true))) zK))
def K86r2:zF:=(zC (.tmp 9) (zJ (some 8) (.tmp 2)) (zC (.tmp 10) (zE (.tmp 1)) (zz (.tmp 11) (.con (.func 98 [] [])) [(.tmp 9),(.tmp 10)] (zC (.tmp 7) (zE (.tmp 11)) zK))))
def K86r3:zF:=(zC (.tmp 8) (zE (.con (.int .i64 0))) zK)
def K86r4:zF:=(zC (.tmp 12) (zE (.tmp 8)) (zC (.tmp 13) (zE (.tmp 7)) (zC (.tmp 14) (kUn jA (.tmp 13)) (zC (.tmp 15) (za yL (.tmp 12) (.tmp 14)) zK))))
def K86r5s27:zF:=(zC (.tmp 45) (yN (.tmp 33) (.tmp 44) (.con (.bool false))) (zC (.tmp 5) (zE (.tmp 31)) (zC (.tmp 6) (zE (.tmp 45)) zK)))
def K86r5s26:zF:=(oIf 33 true (zC (.tmp 44) (za aLeq (.tmp 38) (.tmp 43)) K86r5s27) (zZ (.tmp 44) K86r5s27))
def K86r5s25:zF:=(oIf 33 true (zC (.tmp 43) (zJ none (.tmp 42)) K86r5s26) (zZ (.tmp 43) K86r5s26))
def K86r5s24:zF:=(oIf 33 true (zC (.tmp 42) (jG (jR 1) (.tmp 40) (.tmp 41)) K86r5s25) (zZ (.tmp 42) K86r5s25))
def K86r5s23:zF:=(oIf 33 true (zC (.tmp 41) (zE (.tmp 8)) K86r5s24) (zZ (.tmp 41) K86r5s24))
def K86r5s22:zF:=(oIf 33 true (zC (.tmp 40) (zJ none (.tmp 39)) K86r5s23) (zZ (.tmp 40) K86r5s23))
def K86r5s21:zF:=(oIf 33 true (zC (.tmp 39) (kUn (zY 6) (.tmp 2)) K86r5s22) (zZ (.tmp 39) K86r5s22))
def K86r5s20:zF:=(oIf 33 true (zC (.tmp 38) (zJ none (.tmp 37)) K86r5s21) (zZ (.tmp 38) K86r5s21))
def K86r5s19:zF:=(oIf 33 true (zC (.tmp 37) (kUn (zY 0) (.tmp 36)) K86r5s20) (zZ (.tmp 37) K86r5s20))
def K86r5s18:zF:=(oIf 33 true (zC (.tmp 36) (jG (jR 2) (.tmp 34) (.tmp 35)) K86r5s19) (zZ (.tmp 36) K86r5s19))
def K86r5s17:zF:=(oIf 33 true (zC (.tmp 35) (zE (.tmp 8)) K86r5s18) (zZ (.tmp 35) K86r5s18))
def K86r5s13:zF:=(zC (.tmp 31) (yN (.tmp 19) (.tmp 30) (.con (.bool false))) (zC (.tmp 32) (zE (.tmp 6)) (zC (.tmp 33) (zE (.tmp 32)) (oIf 33 true (zC (.tmp 34) (zE (.tmp 7)) K86r5s17) (zZ (.tmp 34) K86r5s17)))))
def K86r5s12:zF:=(oIf 19 true (zC (.tmp 30) (za aLeq (.tmp 24) (.tmp 29)) K86r5s13) (zZ (.tmp 30) K86r5s13))
def K86r5s11:zF:=(oIf 19 true (zC (.tmp 29) (zJ none (.tmp 28)) K86r5s12) (zZ (.tmp 29) K86r5s12))
def K86r5s10:zF:=(oIf 19 true (zC (.tmp 28) (jG (jR 1) (.tmp 26) (.tmp 27)) K86r5s11) (zZ (.tmp 28) K86r5s11))
def K86r5s9:zF:=(oIf 19 true (zC (.tmp 27) (zE (.tmp 8)) K86r5s10) (zZ (.tmp 27) K86r5s10))
def K86r5s8:zF:=(oIf 19 true (zC (.tmp 26) (zJ none (.tmp 25)) K86r5s9) (zZ (.tmp 26) K86r5s9))
def K86r5s7:zF:=(oIf 19 true (zC (.tmp 25) (kUn (zY 6) (.tmp 2)) K86r5s8) (zZ (.tmp 25) K86r5s8))
def K86r5s6:zF:=(oIf 19 true (zC (.tmp 24) (zJ none (.tmp 23)) K86r5s7) (zZ (.tmp 24) K86r5s7))
def K86r5s5:zF:=(oIf 19 true (zC (.tmp 23) (kUn (zY 1) (.tmp 22)) K86r5s6) (zZ (.tmp 23) K86r5s6))
def K86r5s4:zF:=(oIf 19 true (zC (.tmp 22) (jG (jR 2) (.tmp 20) (.tmp 21)) K86r5s5) (zZ (.tmp 22) K86r5s5))
def K86r5s3:zF:=(oIf 19 true (zC (.tmp 21) (zE (.tmp 8)) K86r5s4) (zZ (.tmp 21) K86r5s4))
def K86r5:zF:=(yM [] (zC (.tmp 18) (zE (.tmp 5)) (zC (.tmp 19) (zE (.tmp 18)) (oIf 19 true (zC (.tmp 20) (zE (.tmp 7)) K86r5s3) (zZ (.tmp 20) K86r5s3)))))
def K86r6:zF:=(zC (.tmp 16) (zE (.tmp 8)) (zC (.tmp 17) (za jH (.tmp 16) (.con (.int .i64 1))) (zC (.tmp 8) (zE (.tmp 17)) zK)))
def K86l0:K:=(zG (zG (zD K86r4 [15]) (zv (.tmp 15) zw (jz 0))) (zG (zd 1 (zr K86r5 [5,6])) (zD K86r6 [8])))
def K86r7:zF:=(zC (.tmp 47) (zE (.tmp 5)) (zC (.tmp 46) (zE (.tmp 47)) zK))
def K86r8:zF:=(zC (.tmp 4) (zE (.con (.int .i64 1))) zK)
def K86r9:zF:=(zC (.tmp 49) (zE (.tmp 6)) (zC (.tmp 48) (zE (.tmp 49)) zK))
def K86r10:zF:=(zC (.tmp 4) (zE (.con (.int .i64 3))) zK)
def K86r11:zF:=(zC (.tmp 4) (zE (.con (.int .i64 2))) zK)
theorem res86:Try.f86.results.toList=[.tmp 4]:=by kernel_rfl
def K86:K:=(zG (zD K86r0 [2,4]) (zG (zD K86r1 [5,6]) (zG (zD K86r2 [7]) (zG (zG (zD K86r3 [8]) (zd 0 (jx K86l0))) (zG (zd 2 (zG (zD K86r7 [46]) (zv (.tmp 46) (zG (zD K86r8 [4]) jI) (zG (zD K86r9 [48]) (zv (.tmp 48) (zG (zD K86r10 [4]) jI) zw))))) (zG (zD K86r11 [4]) jI))))))
theorem enter86 (cl:zS) (a0 a1:AV) (s:St):zj Try.prog X cl 86 [a0,a1] s Try.f86=jh Try.prog Try.f86 (K86 cl ⟨86,none,Try.f86.ntmps,X 86⟩ (zQ 0 [a0,a1] .nil) [] s) :=
  zX (b:=Try.f86.body.getD .skip) (by kernel_rfl) (by kernel_rfl) (by kernel_rfl) (by kernel_rfl) (by kernel_rfl)
def K98r0:zF:=(zC (.tmp 2) (yB (tag 30) (.tmp 0)) (zC (.tmp 4) (zE (.con .nilslice)) zK))
def K98r1:zF:=(zC (.tmp 9) (zJ (some 8) (.tmp 2)) (zz (.tmp 10) (.con (.func 36 [] [])) [(.tmp 9)] (zC (.tmp 11) (kMake [(.int .i64 0),(.int .i64 0)] 16 (.tmp 10) (.tmp 10)) (zC (.tmp 5) (zE (.tmp 11)) zK))))
def K98r2:zF:=(zC (.tmp 6) (zE (.con (.int .i64 0))) zK)
def K98r3:zF:=(zC (.tmp 12) (zE (.tmp 6)) (zC (.tmp 13) (zE (.tmp 1)) (zC (.tmp 14) (kUn jA (.tmp 13)) (zC (.tmp 15) (za yL (.tmp 12) (.tmp 14)) zK))))
def K98r4:zF:=(yM [] (zC (.tmp 18) (zE (.tmp 5)) (zC (.tmp 19) (zJ (some 8) (.tmp 2)) (zC (.tmp 20) (zE (.tmp 1)) (zC (.tmp 21) (zE (.tmp 6)) (zC (.tmp 22) (jG (jR 3) (.tmp 20) (.tmp 21)) (zC (.tmp 23) (kUn (zY 0) (.tmp 22)) (zC (.tmp 24) (zJ (some 2) (.tmp 23)) (jf (some [27,32,34]) (.tmp 25) (.con (.func 47 [] [])) [(.tmp 19),(.tmp 24)] (zC (.tmp 26) (jG (jR 2) (.tmp 18) (.tmp 25)) (zC (.tmp 27) (kUn (zY 7) (.tmp 2)) (zC (.tmp 28) (zJ none (.tmp 27)) (zC (.tmp 29) (zE (.tmp 1)) (zC (.tmp 30) (zE (.tmp 6)) (zC (.tmp 31) (jG (jR 3) (.tmp 29) (.tmp 30)) (zC (.tmp 32) (kUn (zY 2) (.tmp 31)) (zC (.tmp 33) (zJ none (.tmp 32)) (zC (.tmp 34) (jG (jR 6) (.tmp 28) (.tmp 33)) (zC (.tmp 35) (zJ (some 6) (.tmp 34)) (zC (.tmp 8) (jO [(.int .i64 0),(.int .i64 0),(.bool false),.nilslice,(.int .i64 0),(.int .i64 0)] (tag 49)) (zC (.tmp 7) (zE (.tmp 26)) (zC .none (jC 6 (.tmp 8) (.tmp 35)) zK))))))))))))))))))))))
def K98r5:zF:=(yM [(55,51)] (zC (.tmp 36) (zE (.tmp 7)) (zC (.tmp 37) (zE (.tmp 7)) (zC (.tmp 38) (zE (.tmp 7)) (zC (.tmp 39) (kUn wZ (.tmp 38)) (zC (.tmp 40) (kUn (zY 0) (.tmp 39)) (zC (.tmp 41) (zJ none (.tmp 40)) (zC (.tmp 42) (kUn (zY 0) (.tmp 8)) (zC (.tmp 43) (kUn (zY 0) (.tmp 42)) (zC (.tmp 44) (zJ none (.tmp 43)) (zC (.tmp 45) (za jH (.tmp 41) (.tmp 44)) (zC (.tmp 46) (zE (.tmp 7)) (zC (.tmp 47) (kUn wZ (.tmp 46)) (zC (.tmp 48) (kUn (zY 1) (.tmp 47)) (zC (.tmp 49) (zJ none (.tmp 48)) (zC (.tmp 50) (kUn (zY 0) (.tmp 8)) (zC (.tmp 51) (kUn (zY 1) (.tmp 50)) (zC (.tmp 52) (zJ none (.tmp 51)) (zC (.tmp 53) (za jH (.tmp 49) (.tmp 52)) (zC (.tmp 54) (kUn wZ (.tmp 36)) (zC (.tmp 55) (kUn (zY 0) (.tmp 54)) (zC .none (jC 1 (.tmp 55) (.tmp 45)) (zC (.tmp 56) (kUn wZ (.tmp 37)) (zC (.tmp 57) (kUn (zY 1) (.tmp 56)) (zC .none (jC 1 (.tmp 57) (.tmp 53)) zK)))))))))))))))))))))))))
def K98r6:zF:=(zC (.tmp 16) (zE (.tmp 6)) (zC (.tmp 17) (za jH (.tmp 16) (.con (.int .i64 1))) (zC (.tmp 6) (zE (.tmp 17)) zK)))
def K98l0:K:=(zG (zG (zD K98r3 [15]) (zv (.tmp 15) zw (jz 0))) (zG (zd 1 (zG (zr K98r4 [8,7]) (zr K98r5 []))) (zD K98r6 [6])))
def K98r7:zF:=(zC (.tmp 58) (zE (.tmp 5)) (zC (.tmp 4) (zE (.tmp 58)) zK))
theorem res98:Try.f98.results.toList=[.tmp 4]:=by kernel_rfl
def K98:K:=(zG (zD K98r0 [2,4]) (zG (zD K98r1 [5]) (zG (zG (zD K98r2 [6]) (zd 0 (jx K98l0))) (zG (zD K98r7 [4]) jI))))
theorem enter98 (cl:zS) (a0 a1:AV) (s:St):zj Try.prog X cl 98 [a0,a1] s Try.f98=jh Try.prog Try.f98 (K98 cl ⟨98,none,Try.f98.ntmps,X 98⟩ (zQ 0 [a0,a1] .nil) [] s) :=
  zX (b:=Try.f98.body.getD .skip) (by kernel_rfl) (by kernel_rfl) (by kernel_rfl) (by kernel_rfl) (by kernel_rfl)
end
end Go.Proofs.Ytoklbkgcclkejaa.code
