/- The code of functions as the interpreter has it, region by region. -/
import Derived.Test.YtoklbkgcclkejaaAbsTab
import Derived.Test.YtoklbkgcclkejaaAbsWalk
import Derived.KernelRfl
set_option maxRecDepth 100000
namespace Go.Proofs.Ytoklbkgcclkejaa.code
open Go.Abs
noncomputable section
def K51r0:zF:=(zC (.tmp 2) (zE (.con (.int .i64 0))) zK)
def K51r1:zF:=(zC (.tmp 3) (zE (.con (.int .i64 0))) zK)
def K51r2:zF:=(zC (.tmp 6) (zE (.tmp 0)) (zC (.tmp 7) (kUn jH (.tmp 6)) (zC (.tmp 8) (zE (.con (.int .i64 0))) zK)))
def K51r3:zF:=(zC (.tmp 9) (zq vH (.tmp 8) (.tmp 7)) zK)
def K51r4:zF:=(zC (.tmp 10) (jO (yJ 1) (.tmp 6) (.tmp 8)) (zC (.tmp 11) (zL none (.tmp 10)) (zC (.tmp 5) (zE (.tmp 11)) zK)))
def K51r5:zF:=(zC (.tmp 12) (zE (.tmp 5)) (zC (.tmp 13) (zE (.tmp 3)) (zC (.tmp 14) (zq Ya (.tmp 12) (.tmp 13)) zK)))
def K51r6:zF:=(zC (.tmp 15) (zE (.tmp 5)) (zC (.tmp 2) (zE (.tmp 15)) zK))
def K51r7:zF:=(zC (.tmp 16) (zq jK (.tmp 8) (.con (.int .i64 1))) (zC (.tmp 8) (zE (.tmp 16)) zK))
def K51l0:K:=(zH (zD K51r3 [9]) (zH (jG (.tmp 9) jF (yW 0)) (zH (zj 1 (zH (zD K51r4 [5]) (zH (zD K51r5 [14]) (jG (.tmp 14) (zH (zD K51r6 [2]) jT) jF)))) (zD K51r7 [8]))))
def K51r8:zF:=(zC (.tmp 17) (zE (.tmp 3)) (zC (.tmp 2) (zE (.tmp 17)) zK))
theorem res51:Try.f51.results.toList=[.tmp 2]:=by kernel_rfl
def K51:K:=(zH (zD K51r0 [2]) (zH (zD K51r1 [3]) (zH (zH (zD K51r2 [6,7,8]) (zj 0 (yR K51l0))) (zH (zD K51r8 [2]) jT))))
theorem enter51 (cl:zR) (a0:AV) (s:St):za Try.prog X cl 51 [a0] s Try.f51=yF Try.prog Try.f51 (K51 cl ⟨51,none,Try.f51.ntmps,X 51⟩ (zQ 0 [a0] .nil) [] s) :=
  zX (b:=Try.f51.body.getD .skip) (by kernel_rfl) (by kernel_rfl) (by kernel_rfl) (by kernel_rfl) (by kernel_rfl)
def K62r0:zF:=(zC (.tmp 6) (zE (.con (.int .i64 0))) zK)
def K62r1:zF:=(zC (.tmp 8) (zE (.tmp 0)) (zC (.tmp 9) (zE (.tmp 1)) (zC (.tmp 10) (zq vH (.tmp 8) (.tmp 9)) (zC (.tmp 7) (zE (.tmp 10)) zK))))
def K62r2:zF:=(zC (.tmp 6) (zE (.con (.int .i64 7))) zK)
def K62r3:zF:=(zC (.tmp 12) (zE (.tmp 0)) (zC (.tmp 13) (zE (.tmp 2)) (zC (.tmp 14) (kGtr (.tmp 12) (.tmp 13)) (zC (.tmp 11) (zE (.tmp 14)) zK))))
def K62r4:zF:=(zC (.tmp 6) (zE (.con (.int .i64 6))) zK)
def K62r5:zF:=(zC (.tmp 6) (zE (.con (.int .i64 0))) zK)
theorem res62:Try.f62.results.toList=[.tmp 6]:=by kernel_rfl
def K62:K:=(zH (zD K62r0 [6]) (zH (zj 0 (zH (zD K62r1 [7]) (jG (.tmp 7) (zH (zD K62r2 [6]) jT) (zH (zD K62r3 [11]) (jG (.tmp 11) (zH (zD K62r4 [6]) jT) jF))))) (zH (zD K62r5 [6]) jT)))
theorem enter62 (cl:zR) (a0 a1 a2:AV) (s:St):za Try.prog X cl 62 [a0,a1,a2] s Try.f62=yF Try.prog Try.f62 (K62 cl ⟨62,none,Try.f62.ntmps,X 62⟩ (zQ 0 [a0,a1,a2] .nil) [] s) :=
  zX (b:=Try.f62.body.getD .skip) (by kernel_rfl) (by kernel_rfl) (by kernel_rfl) (by kernel_rfl) (by kernel_rfl)
def K102r0:zF:=(zC (.tmp 4) (zE (.con (.int .i64 0))) zK)
def K102r1s6:zF:=(zC (.tmp 11) (vn (.tmp 7) (.con (.bool true)) (.tmp 10)) zK)
def K102r1s5:zF:=(oIf 7 false (zC (.tmp 10) (zq aGeq (.tmp 8) (.tmp 9)) K102r1s6) (jV (.tmp 10) K102r1s6))
def K102r1s4:zF:=(oIf 7 false (zC (.tmp 9) (zE (.tmp 1)) K102r1s5) (jV (.tmp 9) K102r1s5))
def K102r1:zF:=(zC (.tmp 5) (zE (.tmp 0)) (zC (.tmp 6) (zq vH (.tmp 5) (.con (.int .i64 0))) (zC (.tmp 7) (zE (.tmp 6)) (oIf 7 false (zC (.tmp 8) (zE (.tmp 0)) K102r1s4) (jV (.tmp 8) K102r1s4)))))
def K102r2:zF:=(zC (.tmp 4) (zE (.con (.int .i64 3))) zK)
def K102r3:zF:=(zC (.tmp 4) (zE (.con (.int .i64 0))) zK)
theorem res102:Try.f102.results.toList=[.tmp 4]:=by kernel_rfl
def K102:K:=(zH (zD K102r0 [4]) (zH (zH (zD K102r1 [11]) (jG (.tmp 11) (zH (zD K102r2 [4]) jT) jF)) (zH (zD K102r3 [4]) jT)))
theorem enter102 (cl:zR) (a0 a1:AV) (s:St):za Try.prog X cl 102 [a0,a1] s Try.f102=yF Try.prog Try.f102 (K102 cl ⟨102,none,Try.f102.ntmps,X 102⟩ (zQ 0 [a0,a1] .nil) [] s) :=
  zX (b:=Try.f102.body.getD .skip) (by kernel_rfl) (by kernel_rfl) (by kernel_rfl) (by kernel_rfl) (by kernel_rfl)
def K95r0:zF:=(zC (.tmp 3) (yY (tag 44) (.tmp 0)) (zC (.tmp 6) (zE (.con (.int .i64 0))) zK))
def K95r1:zF:=(yz [] (zC (.tmp 8) (kUn (zZ 0) (.tmp 3)) (zC (.tmp 9) (zL none (.tmp 8)) (zC (.tmp 10) (zE (.tmp 1)) (zC (.tmp 11) (zE (.tmp 2)) (jW (some [13]) (.tmp 12) (.con (.func 77 [] [])) [(.tmp 9),(.tmp 10),(.tmp 11)] (zC (.tmp 13) (kUn (zZ 1) (.tmp 3)) (zC (.tmp 14) (zL none (.tmp 13)) (zC (.tmp 15) (zE (.tmp 1)) (zC (.tmp 16) (zE (.tmp 2)) (jC (.tmp 17) (.con (.func 77 [] [])) [(.tmp 14),(.tmp 15),(.tmp 16)] (zC (.tmp 18) (ze [(.int .i64 0),(.int .i64 0)] 2 [(0,1,(.tmp 12)),(1,1,(.tmp 17))]) (jC (.tmp 19) (.con (.func 51 [] [])) [(.tmp 18)] (zC (.tmp 7) (zE (.tmp 19)) zK))))))))))))))
def K95r2:zF:=(zC (.tmp 20) (zE (.tmp 7)) (zC (.tmp 21) (zq Ya (.tmp 20) (.con (.int .i64 0))) zK))
def K95r3:zF:=(zC (.tmp 22) (zE (.tmp 7)) (zC (.tmp 6) (zE (.tmp 22)) zK))
def K95r4:zF:=(zC (.tmp 23) (kUn (zZ 0) (.tmp 3)) (zC (.tmp 24) (zL none (.tmp 23)) (zC (.tmp 25) (kUn (zZ 1) (.tmp 3)) (zC (.tmp 26) (zL none (.tmp 25)) (zC (.tmp 27) (kGtr (.tmp 24) (.tmp 26)) zK)))))
def K95r5:zF:=(zC (.tmp 6) (zE (.con (.int .i64 5))) zK)
def K95r6:zF:=(zC (.tmp 6) (zE (.con (.int .i64 0))) zK)
theorem res95:Try.f95.results.toList=[.tmp 6]:=by kernel_rfl
def K95:K:=(zH (zD K95r0 [3,6]) (zH (zH (zv K95r1 [7]) (zH (zD K95r2 [21]) (jG (.tmp 21) (zH (zD K95r3 [6]) jT) jF))) (zH (zH (zD K95r4 [27]) (jG (.tmp 27) (zH (zD K95r5 [6]) jT) jF)) (zH (zD K95r6 [6]) jT))))
theorem enter95 (cl:zR) (a0 a1 a2:AV) (s:St):za Try.prog X cl 95 [a0,a1,a2] s Try.f95=yF Try.prog Try.f95 (K95 cl ⟨95,none,Try.f95.ntmps,X 95⟩ (zQ 0 [a0,a1,a2] .nil) [] s) :=
  zX (b:=Try.f95.body.getD .skip) (by kernel_rfl) (by kernel_rfl) (by kernel_rfl) (by kernel_rfl) (by kernel_rfl)
def K77r0:zF:=(zC (.tmp 6) (zE (.con (.int .i64 0))) zK)
def K77r1s7:zF:=(zC (.tmp 14) (vn (.tmp 10) (.con (.bool true)) (.tmp 13)) zK)
def K77r1s6:zF:=(oIf 10 false (zC (.tmp 13) (kGtr (.tmp 11) (.tmp 12)) K77r1s7) (jV (.tmp 13) K77r1s7))
def K77r1s5:zF:=(oIf 10 false (zC (.tmp 12) (zE (.tmp 2)) K77r1s6) (jV (.tmp 12) K77r1s6))
def K77r1:zF:=(zC (.tmp 7) (zE (.tmp 0)) (zC (.tmp 8) (zE (.tmp 1)) (zC (.tmp 9) (zq vH (.tmp 7) (.tmp 8)) (zC (.tmp 10) (zE (.tmp 9)) (oIf 10 false (zC (.tmp 11) (zE (.tmp 0)) K77r1s5) (jV (.tmp 11) K77r1s5))))))
def K77r2:zF:=(zC (.tmp 6) (zE (.con (.int .i64 1))) zK)
def K77r3:zF:=(zC (.tmp 6) (zE (.con (.int .i64 0))) zK)
theorem res77:Try.f77.results.toList=[.tmp 6]:=by kernel_rfl
def K77:K:=(zH (zD K77r0 [6]) (zH (zH (zD K77r1 [14]) (jG (.tmp 14) (zH (zD K77r2 [6]) jT) jF)) (zH (zD K77r3 [6]) jT)))
theorem enter77 (cl:zR) (a0 a1 a2:AV) (s:St):za Try.prog X cl 77 [a0,a1,a2] s Try.f77=yF Try.prog Try.f77 (K77 cl ⟨77,none,Try.f77.ntmps,X 77⟩ (zQ 0 [a0,a1,a2] .nil) [] s) :=
  zX (b:=Try.f77.body.getD .skip) (by kernel_rfl) (by kernel_rfl) (by kernel_rfl) (by kernel_rfl) (by kernel_rfl)
def K55r0:zF:=(zC (.tmp 1) (yY (tag 30) (.tmp 0)) (zC (.tmp 2) (zE (.con (.int .i64 0))) zK))
def K55r1:zF:=(yz [] (zC (.tmp 3) (kUn (zZ 0) (.tmp 1)) (zC (.tmp 4) (zL none (.tmp 3)) (jW (some [6,1,10,1,14,1,19]) (.tmp 5) (.con (.func 77 [] [])) [(.tmp 4),(.con (.int .i64 1)),(.con (.int .i64 6))] (zC (.tmp 6) (kUn (zZ 1) (.tmp 1)) (zC (.tmp 7) (zL none (.tmp 6)) (jW (some [1,10,1,14,1,19]) (.tmp 8) (.con (.func 77 [] [])) [(.tmp 7),(.con (.int .i64 1)),(.con (.int .i64 4))] (zC (.tmp 9) (zL (some 8) (.tmp 1)) (zC (.tmp 10) (kUn (zZ 2) (.tmp 1)) (zC (.tmp 11) (zL none (.tmp 10)) (jW (some [1,14,1,19]) (.tmp 12) (.con (.func 78 [] [])) [(.tmp 9),(.tmp 11)] (zC (.tmp 13) (zL (some 8) (.tmp 1)) (zC (.tmp 14) (kUn (zZ 3) (.tmp 1)) (zC (.tmp 15) (zL none (.tmp 14)) (jW (some [1,19]) (.tmp 16) (.con (.func 78 [] [])) [(.tmp 13),(.tmp 15)] (zC (.tmp 17) (zL (some 8) (.tmp 1)) (jW (some [19]) (.tmp 18) (.con (.func 79 [] [])) [(.tmp 17)] (zC (.tmp 19) (kUn (zZ 7) (.tmp 1)) (zC (.tmp 20) (zL none (.tmp 19)) (jC (.tmp 21) (.con (.func 80 [] [])) [(.tmp 20)] (zC (.tmp 22) (ze [(.int .i64 0),(.int .i64 0),(.int .i64 0),(.int .i64 0),(.int .i64 0),(.int .i64 0)] 6 [(0,1,(.tmp 5)),(1,1,(.tmp 8)),(2,1,(.tmp 12)),(3,1,(.tmp 16)),(4,1,(.tmp 18)),(5,1,(.tmp 21))]) (jC (.tmp 23) (.con (.func 51 [] [])) [(.tmp 22)] (zC (.tmp 2) (zE (.tmp 23)) zK)))))))))))))))))))))))
theorem res55:Try.f55.results.toList=[.tmp 2]:=by kernel_rfl
def K55:K:=(zH (zD K55r0 [1,2]) (zH (zv K55r1 [2]) jT))
theorem enter55 (cl:zR) (a0:AV) (s:St):za Try.prog X cl 55 [a0] s Try.f55=yF Try.prog Try.f55 (K55 cl ⟨55,none,Try.f55.ntmps,X 55⟩ (zQ 0 [a0] .nil) [] s) :=
  zX (b:=Try.f55.body.getD .skip) (by kernel_rfl) (by kernel_rfl) (by kernel_rfl) (by kernel_rfl) (by kernel_rfl)
def K78r0:zF:=(zC (.tmp 2) (yY (tag 30) (.tmp 0)) (zC (.tmp 4) (zE (.con (.int .i64 0))) zK))
def K78r1:zF:=(zC (.tmp 10) (zE (.tmp 1)) (zC (.tmp 11) (kUn jH (.tmp 10)) (jC (.tmp 12) (.con (.func 62 [] [])) [(.tmp 11),(.con (.int .i64 0)),(.con (.int .i64 24))] (zC (.tmp 5) (zE (.tmp 12)) zK))))
def K78r2:zF:=(zC (.tmp 13) (zE (.tmp 5)) (zC (.tmp 14) (zq Ya (.tmp 13) (.con (.int .i64 0))) zK))
def K78r3:zF:=(zC (.tmp 15) (zE (.tmp 5)) (zC (.tmp 4) (zE (.tmp 15)) zK))
def K78r4:zF:=(zC (.tmp 16) kMap (zC (.tmp 6) (zE (.tmp 16)) zK))
def K78r5:zF:=(zC (.tmp 17) (zE (.tmp 1)) (zC (.tmp 18) (kUn jH (.tmp 17)) (zC (.tmp 19) (zE (.con (.int .i64 0))) zK)))
def K78r6:zF:=(zC (.tmp 20) (zq vH (.tmp 19) (.tmp 18)) zK)
def K78r7:zF:=(zC (.tmp 21) (jO (yJ 2) (.tmp 17) (.tmp 19)) (zC (.tmp 22) (zL (some 2) (.tmp 21)) (zC (.tmp 8) (jP [(.int .i64 0),(.int .i64 0)] (tag 27)) (zC .none (zz 2 (.tmp 8) (.tmp 22)) zK))))
def K78r8:zF:=(zC (.tmp 23) (zL (some 8) (.tmp 2)) (zC (.tmp 24) (zL (some 2) (.tmp 8)) (jC (.tmp 25) (.con (.func 92 [] [])) [(.tmp 23),(.tmp 24)] (zC (.tmp 9) (zE (.tmp 25)) zK))))
def K78r9:zF:=(zC (.tmp 26) (zE (.tmp 9)) (zC (.tmp 27) (zq Ya (.tmp 26) (.con (.int .i64 0))) zK))
def K78r10:zF:=(zC (.tmp 28) (zE (.tmp 9)) (zC (.tmp 4) (zE (.tmp 28)) zK))
def K78r11:zF:=(zC (.tmp 29) (zE (.tmp 6)) (zC (.tmp 30) (zL (some 2) (.tmp 8)) (zC (.tmp 31) (kLook (.row [(0,none,.int),(1,none,.int)]) (.bool false) false (.tmp 29) (.tmp 30)) zK)))
def K78r12:zF:=(zC (.tmp 4) (zE (.con (.int .i64 4))) zK)
def K78r13:zF:=(zC (.tmp 32) (zE (.tmp 6)) (zC (.tmp 33) (zL (some 2) (.tmp 8)) (zC .none (kUpd (.row [(0,none,.int),(1,none,.int)]) (.tmp 32) (.tmp 33) (.con (.bool true))) zK)))
def K78r14:zF:=(zC (.tmp 34) (zq jK (.tmp 19) (.con (.int .i64 1))) (zC (.tmp 19) (zE (.tmp 34)) zK))
def K78l0:K:=(zH (zD K78r6 [20]) (zH (jG (.tmp 20) jF (yW 0)) (zH (zj 1 (zH (zD K78r7 [8]) (zH (zH (zD K78r8 [9]) (zH (zD K78r9 [27]) (jG (.tmp 27) (zH (zD K78r10 [4]) jT) jF))) (zH (zH (zD K78r11 [31]) (jG (.tmp 31) (zH (zD K78r12 [4]) jT) jF)) (zD K78r13 []))))) (zD K78r14 [19]))))
def K78r15:zF:=(zC (.tmp 4) (zE (.con (.int .i64 0))) zK)
theorem res78:Try.f78.results.toList=[.tmp 4]:=by kernel_rfl
def K78:K:=(zH (zD K78r0 [2,4]) (zH (zH (zD K78r1 [5]) (zH (zD K78r2 [14]) (jG (.tmp 14) (zH (zD K78r3 [4]) jT) jF))) (zH (zD K78r4 [6]) (zH (zH (zD K78r5 [17,18,19]) (zj 0 (yR K78l0))) (zH (zD K78r15 [4]) jT)))))
theorem enter78 (cl:zR) (a0 a1:AV) (s:St):za Try.prog X cl 78 [a0,a1] s Try.f78=yF Try.prog Try.f78 (K78 cl ⟨78,none,Try.f78.ntmps,X 78⟩ (zQ 0 [a0,a1] .nil) [] s) :=
  zX (b:=Try.f78.body.getD .skip) (by kernel_rfl) (by kernel_rfl) (by kernel_rfl) (by kernel_rfl) (by kernel_rfl)
def K92r0:zF:=(zC (.tmp 2) (yY (tag 30) (.tmp 0)) (zC (.tmp 3) (yY (tag 27) (.tmp 1)) (zC (.tmp 4) (zE (.con (.int .i64 0))) zK)))
def K92r1:zF:=(yz [] (zC (.tmp 5) (kUn (zZ 0) (.tmp 3)) (zC (.tmp 6) (zL none (.tmp 5)) (zC (.tmp 7) (kUn (zZ 0) (.tmp 2)) (zC (.tmp 8) (zL none (.tmp 7)) (jW (some [10,12]) (.tmp 9) (.con (.func 102 [] [])) [(.tmp 6),(.tmp 8)] (zC (.tmp 10) (kUn (zZ 1) (.tmp 3)) (zC (.tmp 11) (zL none (.tmp 10)) (zC (.tmp 12) (kUn (zZ 1) (.tmp 2)) (zC (.tmp 13) (zL none (.tmp 12)) (jC (.tmp 14) (.con (.func 102 [] [])) [(.tmp 11),(.tmp 13)] (zC (.tmp 15) (ze [(.int .i64 0),(.int .i64 0)] 2 [(0,1,(.tmp 9)),(1,1,(.tmp 14))]) (jC (.tmp 16) (.con (.func 51 [] [])) [(.tmp 15)] (zC (.tmp 4) (zE (.tmp 16)) zK))))))))))))))
theorem res92:Try.f92.results.toList=[.tmp 4]:=by kernel_rfl
def K92:K:=(zH (zD K92r0 [2,3,4]) (zH (zv K92r1 [4]) jT))
theorem enter92 (cl:zR) (a0 a1:AV) (s:St):za Try.prog X cl 92 [a0,a1] s Try.f92=yF Try.prog Try.f92 (K92 cl ⟨92,none,Try.f92.ntmps,X 92⟩ (zQ 0 [a0,a1] .nil) [] s) :=
  zX (b:=Try.f92.body.getD .skip) (by kernel_rfl) (by kernel_rfl) (by kernel_rfl) (by kernel_rfl) (by kernel_rfl)
def K79r0:zF:=(zC (.tmp 1) (yY (tag 30) (.tmp 0)) (zC (.tmp 2) (zE (.con (.int .i64 0))) zK))
def K79r1:zF:=(yz [] (zC (.tmp 7) (kUn (zZ 4) (.tmp 1)) (zC (.tmp 8) (kUn (zZ 0) (.tmp 7)) (zC (.tmp 9) (zL none (.tmp 8)) (zC (.tmp 10) (kUn (zZ 0) (.tmp 1)) (zC (.tmp 11) (zL none (.tmp 10)) (jW (some [14,16]) (.tmp 12) (.con (.func 77 [] [])) [(.tmp 9),(.con (.int .i64 1)),(.tmp 11)] (zC (.tmp 13) (kUn (zZ 4) (.tmp 1)) (zC (.tmp 14) (kUn (zZ 1) (.tmp 13)) (zC (.tmp 15) (zL none (.tmp 14)) (zC (.tmp 16) (kUn (zZ 1) (.tmp 1)) (zC (.tmp 17) (zL none (.tmp 16)) (jC (.tmp 18) (.con (.func 77 [] [])) [(.tmp 15),(.con (.int .i64 1)),(.tmp 17)] (zC (.tmp 19) (ze [(.int .i64 0),(.int .i64 0)] 2 [(0,1,(.tmp 12)),(1,1,(.tmp 18))]) (jC (.tmp 20) (.con (.func 51 [] [])) [(.tmp 19)] (zC (.tmp 3) (zE (.tmp 20)) zK))))))))))))))))
def K79r2:zF:=(zC (.tmp 21) (zE (.tmp 3)) (zC (.tmp 22) (zq Ya (.tmp 21) (.con (.int .i64 0))) zK))
def K79r3:zF:=(zC (.tmp 23) (zE (.tmp 3)) (zC (.tmp 2) (zE (.tmp 23)) zK))
def K79r4:zF:=(yz [] (zC (.tmp 24) (kUn (zZ 6) (.tmp 1)) (zC (.tmp 25) (zL none (.tmp 24)) (zC (.tmp 26) (kUn jH (.tmp 25)) (zC (.tmp 27) (zL (some 8) (.tmp 1)) (jW (some [24,25]) (.tmp 28) (.con (.func 94 [] [])) [(.tmp 27)] (zC (.tmp 29) (zq Ya (.tmp 26) (.tmp 28)) zK)))))))
def K79r5:zF:=(zC (.tmp 2) (zE (.con (.int .i64 2))) zK)
def K79r6:zF:=(zC (.tmp 30) (kUn (zZ 6) (.tmp 1)) (zC (.tmp 31) (zL none (.tmp 30)) (zC (.tmp 32) (kUn jH (.tmp 31)) (zC (.tmp 33) (zE (.con (.int .i64 0))) zK))))
def K79r7:zF:=(zC (.tmp 34) (zq vH (.tmp 33) (.tmp 32)) zK)
def K79r8:zF:=(zC (.tmp 35) (jO (yJ 1) (.tmp 31) (.tmp 33)) (zC (.tmp 36) (zL none (.tmp 35)) (zC (.tmp 5) (zE (.tmp 36)) zK)))
def K79r9:zF:=(zC (.tmp 37) (zE (.tmp 5)) (jC (.tmp 38) (.con (.func 77 [] [])) [(.tmp 37),(.con (.int .i64 0)),(.con (.int .i64 10000000))] (zC (.tmp 6) (zE (.tmp 38)) zK)))
def K79r10:zF:=(zC (.tmp 39) (zE (.tmp 6)) (zC (.tmp 40) (zq Ya (.tmp 39) (.con (.int .i64 0))) zK))
def K79r11:zF:=(zC (.tmp 41) (zE (.tmp 6)) (zC (.tmp 2) (zE (.tmp 41)) zK))
def K79r12:zF:=(zC (.tmp 42) (zq jK (.tmp 33) (.con (.int .i64 1))) (zC (.tmp 33) (zE (.tmp 42)) zK))
def K79l0:K:=(zH (zD K79r7 [34]) (zH (jG (.tmp 34) jF (yW 0)) (zH (zj 1 (zH (zD K79r8 [5]) (zH (zD K79r9 [6]) (zH (zD K79r10 [40]) (jG (.tmp 40) (zH (zD K79r11 [2]) jT) jF))))) (zD K79r12 [33]))))
def K79r13:zF:=(zC (.tmp 2) (zE (.con (.int .i64 0))) zK)
theorem res79:Try.f79.results.toList=[.tmp 2]:=by kernel_rfl
def K79:K:=(zH (zD K79r0 [1,2]) (zH (zH (zv K79r1 [3]) (zH (zD K79r2 [22]) (jG (.tmp 22) (zH (zD K79r3 [2]) jT) jF))) (zH (zH (zv K79r4 [29]) (jG (.tmp 29) (zH (zD K79r5 [2]) jT) jF)) (zH (zH (zD K79r6 [31,32,33]) (zj 0 (yR K79l0))) (zH (zD K79r13 [2]) jT)))))
theorem enter79 (cl:zR) (a0:AV) (s:St):za Try.prog X cl 79 [a0] s Try.f79=yF Try.prog Try.f79 (K79 cl ⟨79,none,Try.f79.ntmps,X 79⟩ (zQ 0 [a0] .nil) [] s) :=
  zX (b:=Try.f79.body.getD .skip) (by kernel_rfl) (by kernel_rfl) (by kernel_rfl) (by kernel_rfl) (by kernel_rfl)
def K94r0:zF:=(zC (.tmp 1) (yY (tag 30) (.tmp 0)) (zC (.tmp 2) (zE (.con (.int .i64 0))) zK))
def K94r1:zF:=(yz [] (zC (.tmp 3) (zL (some 8) (.tmp 1)) (jW (some [5,8,13]) (.tmp 4) (.con (.func 91 [] [])) [(.tmp 3)] (zC (.tmp 5) (kUn (zZ 1) (.tmp 1)) (zC (.tmp 6) (zL none (.tmp 5)) (zC (.tmp 7) (kUn (zZ 4) (.tmp 1)) (zC (.tmp 8) (kUn (zZ 1) (.tmp 7)) (zC (.tmp 9) (zL none (.tmp 8)) (zC (.tmp 10) (zq jK (.tmp 6) (.tmp 9)) (zC (.tmp 11) (zq wF (.tmp 10) (.con (.int .i64 1))) (zC (.tmp 12) (kUn (zZ 4) (.tmp 1)) (zC (.tmp 13) (kUn (zZ 1) (.tmp 12)) (zC (.tmp 14) (zL none (.tmp 13)) (zC (.tmp 15) (zq YZ (.tmp 11) (.tmp 14)) (zC (.tmp 16) (zq aMul (.tmp 4) (.tmp 15)) (zC (.tmp 2) (zE (.tmp 16)) zK))))))))))))))))
theorem res94:Try.f94.results.toList=[.tmp 2]:=by kernel_rfl
def K94:K:=(zH (zD K94r0 [1,2]) (zH (zv K94r1 [2]) jT))
theorem enter94 (cl:zR) (a0:AV) (s:St):za Try.prog X cl 94 [a0] s Try.f94=yF Try.prog Try.f94 (K94 cl ⟨94,none,Try.f94.ntmps,X 94⟩ (zQ 0 [a0] .nil) [] s) :=
  zX (b:=Try.f94.body.getD .skip) (by kernel_rfl) (by kernel_rfl) (by kernel_rfl) (by kernel_rfl) (by kernel_rfl)
def K91r0:zF:=(zC (.tmp 1) (yY (tag 30) (.tmp 0)) (zC (.tmp 2) (zE (.con (.int .i64 0))) zK))
def K91r1:zF:=(zC (.tmp 3) (kUn (zZ 0) (.tmp 1)) (zC (.tmp 4) (zL none (.tmp 3)) (zC (.tmp 5) (kUn (zZ 4) (.tmp 1)) (zC (.tmp 6) (kUn (zZ 0) (.tmp 5)) (zC (.tmp 7) (zL none (.tmp 6)) (zC (.tmp 8) (zq jK (.tmp 4) (.tmp 7)) (zC (.tmp 9) (zq wF (.tmp 8) (.con (.int .i64 1))) (zC (.tmp 10) (kUn (zZ 4) (.tmp 1)) (zC (.tmp 11) (kUn (zZ 0) (.tmp 10)) (zC (.tmp 12) (zL none (.tmp 11)) (zC (.tmp 13) (zq YZ (.tmp 9) (.tmp 12)) (zC (.tmp 2) (zE (.tmp 13)) zK))))))))))))
theorem res91:Try.f91.results.toList=[.tmp 2]:=by kernel_rfl
def K91:K:=(zH (zD K91r0 [1,2]) (zH (zD K91r1 [2]) jT))
theorem enter91 (cl:zR) (a0:AV) (s:St):za Try.prog X cl 91 [a0] s Try.f91=yF Try.prog Try.f91 (K91 cl ⟨91,none,Try.f91.ntmps,X 91⟩ (zQ 0 [a0] .nil) [] s) :=
  zX (b:=Try.f91.body.getD .skip) (by kernel_rfl) (by kernel_rfl) (by kernel_rfl) (by kernel_rfl) (by kernel_rfl)
def K80r0:zF:=(zC (.tmp 2) (zE (.con (.int .i64 0))) zK)
def K80r1:zF:=(zC (.tmp 7) (zE (.tmp 0)) (zC (.tmp 8) (kUn jH (.tmp 7)) (jC (.tmp 9) (.con (.func 62 [] [])) [(.tmp 8),(.con (.int .i64 1)),(.con (.int .i64 6))] (zC (.tmp 3) (zE (.tmp 9)) zK))))
def K80r2:zF:=(zC (.tmp 10) (zE (.tmp 3)) (zC (.tmp 11) (zq Ya (.tmp 10) (.con (.int .i64 0))) zK))
def K80r3:zF:=(zC (.tmp 12) (zE (.tmp 3)) (zC (.tmp 2) (zE (.tmp 12)) zK))
def K80r4:zF:=(zC (.tmp 13) (zE (.tmp 0)) (zC (.tmp 14) (kUn jH (.tmp 13)) (zC (.tmp 15) (zE (.con (.int .i64 0))) zK)))
def K80r5:zF:=(zC (.tmp 16) (zq vH (.tmp 15) (.tmp 14)) zK)
def K80r6:zF:=(zC (.tmp 17) (jO (yJ 6) (.tmp 13) (.tmp 15)) (zC (.tmp 18) (zL (some 6) (.tmp 17)) (zC (.tmp 5) (jP [(.int .i64 0),(.int .i64 0),(.bool false),.nilslice,(.int .i64 0),(.int .i64 0)] (tag 49)) (zC .none (zz 6 (.tmp 5) (.tmp 18)) zK))))
def K80r7:zF:=(yz [] (zC (.tmp 19) (kUn (zZ 0) (.tmp 5)) (zC (.tmp 20) (zL (some 2) (.tmp 19)) (jW (some [22,24,27,30]) (.tmp 21) (.con (.func 95 [] [])) [(.tmp 20),(.con (.int .i64 0)),(.con (.int .i64 1000000))] (zC (.tmp 22) (kUn (zZ 3) (.tmp 5)) (zC (.tmp 23) (zL none (.tmp 22)) (zC (.tmp 24) (zE (.tmp 0)) (zC (.tmp 25) (kUn jH (.tmp 24)) (jW (some [27,30]) (.tmp 26) (.con (.func 96 [] [])) [(.tmp 23),(.tmp 25)] (zC (.tmp 27) (kUn (zZ 4) (.tmp 5)) (zC (.tmp 28) (zL none (.tmp 27)) (jW (some [30]) (.tmp 29) (.con (.func 77 [] [])) [(.tmp 28),(.con (.int .i64 0)),(.con (.int .i64 1000000))] (zC (.tmp 30) (kUn (zZ 5) (.tmp 5)) (zC (.tmp 31) (zL none (.tmp 30)) (jC (.tmp 32) (.con (.func 77 [] [])) [(.tmp 31),(.con (.int .i64 0)),(.con (.int .i64 24))] (zC (.tmp 33) (ze [(.int .i64 0),(.int .i64 0),(.int .i64 0),(.int .i64 0)] 4 [(0,1,(.tmp 21)),(1,1,(.tmp 26)),(2,1,(.tmp 29)),(3,1,(.tmp 32))]) (jC (.tmp 34) (.con (.func 51 [] [])) [(.tmp 33)] (zC (.tmp 6) (zE (.tmp 34)) zK))))))))))))))))))
def K80r8:zF:=(zC (.tmp 35) (zE (.tmp 6)) (zC (.tmp 36) (zq Ya (.tmp 35) (.con (.int .i64 0))) zK))
def K80r9:zF:=(zC (.tmp 37) (zE (.tmp 6)) (zC (.tmp 2) (zE (.tmp 37)) zK))
def K80r10:zF:=(zC (.tmp 38) (zq jK (.tmp 15) (.con (.int .i64 1))) (zC (.tmp 15) (zE (.tmp 38)) zK))
def K80l0:K:=(zH (zD K80r5 [16]) (zH (jG (.tmp 16) jF (yW 0)) (zH (zj 1 (zH (zD K80r6 [5]) (zH (zv K80r7 [6]) (zH (zD K80r8 [36]) (jG (.tmp 36) (zH (zD K80r9 [2]) jT) jF))))) (zD K80r10 [15]))))
def K80r11:zF:=(zC (.tmp 2) (zE (.con (.int .i64 0))) zK)
theorem res80:Try.f80.results.toList=[.tmp 2]:=by kernel_rfl
def K80:K:=(zH (zD K80r0 [2]) (zH (zH (zD K80r1 [3]) (zH (zD K80r2 [11]) (jG (.tmp 11) (zH (zD K80r3 [2]) jT) jF))) (zH (zH (zD K80r4 [13,14,15]) (zj 0 (yR K80l0))) (zH (zD K80r11 [2]) jT))))
theorem enter80 (cl:zR) (a0:AV) (s:St):za Try.prog X cl 80 [a0] s Try.f80=yF Try.prog Try.f80 (K80 cl ⟨80,none,Try.f80.ntmps,X 80⟩ (zQ 0 [a0] .nil) [] s) :=
  zX (b:=Try.f80.body.getD .skip) (by kernel_rfl) (by kernel_rfl) (by kernel_rfl) (by kernel_rfl) (by kernel_rfl)
def K96r0:zF:=(zC (.tmp 4) (zE (.con (.int .i64 0))) zK)
def K96r1:zF:=(zC (.tmp 8) (zE (.tmp 0)) (zC (.tmp 9) (kUn jH (.tmp 8)) (zC (.tmp 10) (zE (.tmp 1)) (zC (.tmp 11) (zq Ya (.tmp 9) (.tmp 10)) zK))))
def K96r2:zF:=(zC (.tmp 4) (zE (.con (.int .i64 2))) zK)
def K96r3:zF:=(zC (.tmp 12) (zE (.tmp 0)) (zC (.tmp 13) (kUn jH (.tmp 12)) (zC (.tmp 14) (zE (.con (.int .i64 0))) zK)))
def K96r4:zF:=(zC (.tmp 15) (zq vH (.tmp 14) (.tmp 13)) zK)
def K96r5:zF:=(zC (.tmp 16) (jO (yJ 1) (.tmp 12) (.tmp 14)) (zC (.tmp 17) (zL none (.tmp 16)) (zC (.tmp 6) (zE (.tmp 17)) zK)))
def K96r6:zF:=(zC (.tmp 18) (zE (.tmp 6)) (jC (.tmp 19) (.con (.func 77 [] [])) [(.tmp 18),(.con (.int .i64 0)),(.con (.int .i64 9))] (zC (.tmp 7) (zE (.tmp 19)) zK)))
def K96r7:zF:=(zC (.tmp 20) (zE (.tmp 7)) (zC (.tmp 21) (zq Ya (.tmp 20) (.con (.int .i64 0))) zK))
def K96r8:zF:=(zC (.tmp 22) (zE (.tmp 7)) (zC (.tmp 4) (zE (.tmp 22)) zK))
def K96r9:zF:=(zC (.tmp 23) (zq jK (.tmp 14) (.con (.int .i64 1))) (zC (.tmp 14) (zE (.tmp 23)) zK))
def K96l0:K:=(zH (zD K96r4 [15]) (zH (jG (.tmp 15) jF (yW 0)) (zH (zj 1 (zH (zD K96r5 [6]) (zH (zD K96r6 [7]) (zH (zD K96r7 [21]) (jG (.tmp 21) (zH (zD K96r8 [4]) jT) jF))))) (zD K96r9 [14]))))
def K96r10:zF:=(zC (.tmp 4) (zE (.con (.int .i64 0))) zK)
theorem res96:Try.f96.results.toList=[.tmp 4]:=by kernel_rfl
def K96:K:=(zH (zD K96r0 [4]) (zH (zH (zD K96r1 [11]) (jG (.tmp 11) (zH (zD K96r2 [4]) jT) jF)) (zH (zH (zD K96r3 [12,13,14]) (zj 0 (yR K96l0))) (zH (zD K96r10 [4]) jT))))
theorem enter96 (cl:zR) (a0 a1:AV) (s:St):za Try.prog X cl 96 [a0,a1] s Try.f96=yF Try.prog Try.f96 (K96 cl ⟨96,none,Try.f96.ntmps,X 96⟩ (zQ 0 [a0,a1] .nil) [] s) :=
  zX (b:=Try.f96.body.getD .skip) (by kernel_rfl) (by kernel_rfl) (by kernel_rfl) (by kernel_rfl) (by kernel_rfl)
def K52r0:zF:=(zC (.tmp 2) (yY (tag 30) (.tmp 0)) (zC (.tmp 4) (zE (.con (.int .i64 0))) zK))
def K52r1s8:zF:=(zC (.tmp 13) (vn (.tmp 7) (.con (.bool true)) (.tmp 12)) zK)
def K52r1s7:zF:=(oIf 7 false (zC (.tmp 12) (zq aGeq (.tmp 8) (.tmp 11)) K52r1s8) (jV (.tmp 12) K52r1s8))
def K52r1s6:zF:=(oIf 7 false (zC (.tmp 11) (kUn jH (.tmp 10)) K52r1s7) (jV (.tmp 11) K52r1s7))
def K52r1s5:zF:=(oIf 7 false (zC (.tmp 10) (zL none (.tmp 9)) K52r1s6) (jV (.tmp 10) K52r1s6))
def K52r1s4:zF:=(oIf 7 false (zC (.tmp 9) (kUn (zZ 7) (.tmp 2)) K52r1s5) (jV (.tmp 9) K52r1s5))
def K52r1:zF:=(zC (.tmp 5) (zE (.tmp 1)) (zC (.tmp 6) (zq vH (.tmp 5) (.con (.int .i64 0))) (zC (.tmp 7) (zE (.tmp 6)) (oIf 7 false (zC (.tmp 8) (zE (.tmp 1)) K52r1s4) (jV (.tmp 8) K52r1s4)))))
def K52r2:zF:=(zC (.tmp 4) (zE (.con (.int .i64 8))) zK)
def K52r3:zF:=(zC (.tmp 4) (zE (.con (.int .i64 0))) zK)
theorem res52:Try.f52.results.toList=[.tmp 4]:=by kernel_rfl
def K52:K:=(zH (zD K52r0 [2,4]) (zH (zH (zD K52r1 [13]) (jG (.tmp 13) (zH (zD K52r2 [4]) jT) jF)) (zH (zD K52r3 [4]) jT)))
theorem enter52 (cl:zR) (a0 a1:AV) (s:St):za Try.prog X cl 52 [a0,a1] s Try.f52=yF Try.prog Try.f52 (K52 cl ⟨52,none,Try.f52.ntmps,X 52⟩ (zQ 0 [a0,a1] .nil) [] s) :=
  zX (b:=Try.f52.body.getD .skip) (by kernel_rfl) (by kernel_rfl) (by kernel_rfl) (by kernel_rfl) (by kernel_rfl)
end
end Go.Proofs.Ytoklbkgcclkejaa.code
set_option maxRecDepth 100000
namespace Go.Proofs.Ytoklbkgcclkejaa.code
open Go.Abs
noncomputable section
def K43r0:zF:=(zC (.tmp 2) (yY (tag 30) (.tmp 0)) (zC (.tmp 4) (zE (.con (.int .i64 0))) zK))
def K43r1:zF:=(zC (.tmp 12) (zL (some 8) (.tmp 2)) (jC (.tmp 13) (.con (.func 55 [] [])) [(.tmp 12)] (zC (.tmp 14) (zE (.tmp 1)) (zC (.tmp 15) (kUn jH (.tmp 14)) (jC (.tmp 16) (.con (.func 62 [] [])) [(.tmp 15),(.con (.int .i64 0)),(.con (.int .i64 24))] (zC (.tmp 17) (ze [(.int .i64 0),(.int .i64 0)] 2 [(0,1,(.tmp 13)),(1,1,(.tmp 16))]) (jC (.tmp 18) (.con (.func 51 [] [])) [(.tmp 17)] (zC (.tmp 5) (zE (.tmp 18)) zK))))))))
def K43r2:zF:=(zC (.tmp 19) (zE (.tmp 5)) (zC (.tmp 20) (zq Ya (.tmp 19) (.con (.int .i64 0))) zK))
def K43r3:zF:=(zC (.tmp 21) (zE (.tmp 5)) (zC (.tmp 4) (zE (.tmp 21)) zK))
def K43r4:zF:=(zC (.tmp 22) (zL (some 8) (.tmp 2)) (jC (.tmp 23) (.con (.func 44 [] [])) [(.tmp 22)] (zC (.tmp 6) (zE (.tmp 23)) zK)))
def K43r5:zF:=(zC (.tmp 24) (zE (.tmp 1)) (zC (.tmp 25) (kUn jH (.tmp 24)) (zC (.tmp 26) (zE (.con (.int .i64 0))) zK)))
def K43r6:zF:=(zC (.tmp 27) (zq vH (.tmp 26) (.tmp 25)) zK)
def K43r7:zF:=(zC (.tmp 28) (zE (.tmp 26)) (zC (.tmp 29) (jO (yJ 3) (.tmp 24) (.tmp 26)) (zC (.tmp 30) (zL (some 3) (.tmp 29)) (zC (.tmp 8) (jP [(.int .i64 0),(.int .i64 0),(.int .i64 0)] (tag 51)) (zC (.tmp 7) (zE (.tmp 28)) (zC .none (zz 3 (.tmp 8) (.tmp 30)) zK))))))
def K43r8:zF:=(yz [] (zC (.tmp 31) (zE (.tmp 6)) (zC (.tmp 32) (zE (.tmp 1)) (zC (.tmp 33) (zE (.tmp 7)) (zC (.tmp 34) (JW (yk 3) (.tmp 32) none (some (.tmp 33))) (zC (.tmp 35) (zL (some 3) (.tmp 8)) (jC (.tmp 36) (.con (.func 63 [] [])) [(.tmp 31),(.tmp 34),(.tmp 35)] (zC (.tmp 9) (zE (.tmp 36)) zK))))))))
def K43r9:zF:=(zC (.tmp 37) (zE (.tmp 9)) (zC (.tmp 38) (zq Ya (.tmp 37) (.con (.int .i64 0))) zK))
def K43r10:zF:=(zC (.tmp 39) (zE (.tmp 9)) (zC (.tmp 4) (zE (.tmp 39)) zK))
def K43r11:zF:=(zC (.tmp 40) (zq jK (.tmp 26) (.con (.int .i64 1))) (zC (.tmp 26) (zE (.tmp 40)) zK))
def K43l0:K:=(zH (zD K43r6 [27]) (zH (jG (.tmp 27) jF (yW 0)) (zH (zj 1 (zH (zD K43r7 [8,7]) (zH (zv K43r8 [9]) (zH (zD K43r9 [38]) (jG (.tmp 38) (zH (zD K43r10 [4]) jT) jF))))) (zD K43r11 [26]))))
def K43r12:zF:=(zC (.tmp 41) (kUn (zZ 7) (.tmp 2)) (zC (.tmp 42) (zL none (.tmp 41)) (zC (.tmp 43) (kUn jH (.tmp 42)) (zC (.tmp 44) (zE (.con (.int .i64 0))) zK))))
def K43r13:zF:=(zC (.tmp 45) (zq vH (.tmp 44) (.tmp 43)) zK)
def K43r14:zF:=(zC (.tmp 46) (zE (.tmp 44)) (zC (.tmp 47) (jO (yJ 6) (.tmp 42) (.tmp 44)) (zC (.tmp 48) (zL (some 6) (.tmp 47)) (zC (.tmp 11) (jP [(.int .i64 0),(.int .i64 0),(.bool false),.nilslice,(.int .i64 0),(.int .i64 0)] (tag 49)) (zC (.tmp 10) (zE (.tmp 46)) (zC .none (zz 6 (.tmp 11) (.tmp 48)) zK))))))
def K43r15:zF:=(yz [] (zC (.tmp 49) (zE (.tmp 1)) (zC (.tmp 50) (zE (.tmp 10)) (jW (some [52]) (.tmp 51) (.con (.func 64 [] [])) [(.tmp 49),(.tmp 50)] (zC (.tmp 52) (kUn (zZ 5) (.tmp 11)) (zC (.tmp 53) (zL none (.tmp 52)) (zC (.tmp 54) (kGtr (.tmp 51) (.tmp 53)) zK)))))))
def K43r16:zF:=(zC (.tmp 4) (zE (.con (.int .i64 13))) zK)
def K43r17:zF:=(zC (.tmp 55) (zq jK (.tmp 44) (.con (.int .i64 1))) (zC (.tmp 44) (zE (.tmp 55)) zK))
def K43l1:K:=(zH (zD K43r13 [45]) (zH (jG (.tmp 45) jF (yW 2)) (zH (zj 3 (zH (zD K43r14 [11,10]) (zH (zv K43r15 [54]) (jG (.tmp 54) (zH (zD K43r16 [4]) jT) jF)))) (zD K43r17 [44]))))
def K43r18:zF:=(zC (.tmp 4) (zE (.con (.int .i64 0))) zK)
theorem res43:Try.f43.results.toList=[.tmp 4]:=by kernel_rfl
def K43:K:=(zH (zD K43r0 [2,4]) (zH (zH (zD K43r1 [5]) (zH (zD K43r2 [20]) (jG (.tmp 20) (zH (zD K43r3 [4]) jT) jF))) (zH (zD K43r4 [6]) (zH (zH (zD K43r5 [24,25,26]) (zj 0 (yR K43l0))) (zH (zH (zD K43r12 [42,43,44]) (zj 2 (yR K43l1))) (zH (zD K43r18 [4]) jT))))))
theorem enter43 (cl:zR) (a0 a1:AV) (s:St):za Try.prog X cl 43 [a0,a1] s Try.f43=yF Try.prog Try.f43 (K43 cl ⟨43,none,Try.f43.ntmps,X 43⟩ (zQ 0 [a0,a1] .nil) [] s) :=
  zX (b:=Try.f43.body.getD .skip) (by kernel_rfl) (by kernel_rfl) (by kernel_rfl) (by kernel_rfl) (by kernel_rfl)
def K44r0:zF:=(zC (.tmp 1) (yY (tag 30) (.tmp 0)) (zC (.tmp 2) (zE (.con .nilptr)) zK))
def K44r1:zF:=(yz [] (zC (.tmp 4) (zL (some 8) (.tmp 1)) (zC (.tmp 5) (zL (some 8) (.tmp 1)) (jW (some [1]) (.tmp 6) (.con (.func 65 [] [])) [(.tmp 5)] (zC (.tmp 7) (yX [(.int .i64 0),(.int .i64 0),.nilslice,.nilslice,(.int .i64 0),(.int .i64 0),.nilslice,.nilslice,(.bool false),(.bool false),(.int .i64 0),(.bool false),(.bool false),(.int .i64 0),(.bool false),(.bool false),(.int .i64 0),(.bool false),(.bool false),(.int .i64 0),(.bool false),(.bool false),(.int .i64 0),(.bool false),(.bool false),(.int .i64 0),(.bool false),(.bool false),(.int .i64 0),(.bool false),(.bool false),(.int .i64 0),(.bool false),(.bool false),(.int .i64 0),(.bool false),(.bool false),(.int .i64 0),(.bool false),(.bool false),(.int .i64 0),(.bool false),(.bool false),(.int .i64 0),(.bool false),(.bool false),(.int .i64 0),(.bool false),(.bool false),(.int .i64 0),(.bool false),(.bool false),(.int .i64 0),(.bool false),(.bool false),(.int .i64 0),(.bool false),(.bool false),(.int .i64 0),(.bool false),(.bool false),(.int .i64 0),(.bool false),(.bool false),(.int .i64 0),(.bool false),(.bool false),(.int .i64 0),(.bool false),(.bool false),(.int .i64 0),(.bool false),(.bool false),(.int .i64 0),(.bool false),(.bool false),(.int .i64 0),(.bool false),(.bool false),(.int .i64 0),.nilslice] [(0,8,(.tmp 4)),(8,72,(.tmp 6))]) (zC (.tmp 8) (yY (tag 109) (.tmp 7)) (zC (.tmp 3) (zE (.tmp 8)) zK)))))))
def K44r2:zF:=(zC (.tmp 9) (zE (.tmp 3)) (zC (.tmp 10) (zE (.tmp 3)) (zC (.tmp 11) (JG 66 [(.tmp 10)] []) (zC (.tmp 12) (zE (.tmp 3)) (zC (.tmp 13) (JG 67 [(.tmp 12)] []) (zC (.tmp 14) (zE (.tmp 3)) (zC (.tmp 15) (JG 68 [(.tmp 14)] []) (zC (.tmp 16) (zE (.tmp 3)) (zC (.tmp 17) (JG 69 [(.tmp 16)] []) (zC (.tmp 18) (zE (.tmp 3)) (zC (.tmp 19) (JG 70 [(.tmp 18)] []) (zC (.tmp 20) (zE (.tmp 3)) (zC (.tmp 21) (JG 71 [(.tmp 20)] []) (zC (.tmp 22) (ze [.nilfunc,.nilfunc,.nilfunc,.nilfunc,.nilfunc,.nilfunc] 6 [(0,1,(.tmp 11)),(1,1,(.tmp 13)),(2,1,(.tmp 15)),(3,1,(.tmp 17)),(4,1,(.tmp 19)),(5,1,(.tmp 21))]) (zC (.tmp 23) (kUn vl (.tmp 9)) (zC (.tmp 24) (kUn (zZ 80) (.tmp 23)) (zC .none (zz 1 (.tmp 24) (.tmp 22)) zK)))))))))))))))))
def K44r3:zF:=(zC (.tmp 25) (zE (.tmp 3)) (zC (.tmp 2) (zE (.tmp 25)) zK))
theorem res44:Try.f44.results.toList=[.tmp 2]:=by kernel_rfl
def K44:K:=(zH (zD K44r0 [1,2]) (zH (zv K44r1 [3]) (zH (zD K44r2 []) (zH (zD K44r3 [2]) jT))))
theorem enter44 (cl:zR) (a0:AV) (s:St):za Try.prog X cl 44 [a0] s Try.f44=yF Try.prog Try.f44 (K44 cl ⟨44,none,Try.f44.ntmps,X 44⟩ (zQ 0 [a0] .nil) [] s) :=
  zX (b:=Try.f44.body.getD .skip) (by kernel_rfl) (by kernel_rfl) (by kernel_rfl) (by kernel_rfl) (by kernel_rfl)
def K65r0:zF:=(zC (.tmp 1) (yY (tag 30) (.tmp 0)) (zC (.tmp 2) (jP [(.bool false),(.bool false),(.int .i64 0),(.bool false),(.bool false),(.int .i64 0),(.bool false),(.bool false),(.int .i64 0),(.bool false),(.bool false),(.int .i64 0),(.bool false),(.bool false),(.int .i64 0),(.bool false),(.bool false),(.int .i64 0),(.bool false),(.bool false),(.int .i64 0),(.bool false),(.bool false),(.int .i64 0),(.bool false),(.bool false),(.int .i64 0),(.bool false),(.bool false),(.int .i64 0),(.bool false),(.bool false),(.int .i64 0),(.bool false),(.bool false),(.int .i64 0),(.bool false),(.bool false),(.int .i64 0),(.bool false),(.bool false),(.int .i64 0),(.bool false),(.bool false),(.int .i64 0),(.bool false),(.bool false),(.int .i64 0),(.bool false),(.bool false),(.int .i64 0),(.bool false),(.bool false),(.int .i64 0),(.bool false),(.bool false),(.int .i64 0),(.bool false),(.bool false),(.int .i64 0),(.bool false),(.bool false),(.int .i64 0),(.bool false),(.bool false),(.int .i64 0),(.bool false),(.bool false),(.int .i64 0),(.bool false),(.bool false),(.int .i64 0)] (tag 105)) zK))
def K65r1:zF:=(zC (.tmp 3) (jP [(.bool false),(.bool false),(.int .i64 0),(.bool false),(.bool false),(.int .i64 0),(.bool false),(.bool false),(.int .i64 0),(.bool false),(.bool false),(.int .i64 0),(.bool false),(.bool false),(.int .i64 0),(.bool false),(.bool false),(.int .i64 0),(.bool false),(.bool false),(.int .i64 0),(.bool false),(.bool false),(.int .i64 0),(.bool false),(.bool false),(.int .i64 0),(.bool false),(.bool false),(.int .i64 0),(.bool false),(.bool false),(.int .i64 0),(.bool false),(.bool false),(.int .i64 0),(.bool false),(.bool false),(.int .i64 0),(.bool false),(.bool false),(.int .i64 0),(.bool false),(.bool false),(.int .i64 0),(.bool false),(.bool false),(.int .i64 0),(.bool false),(.bool false),(.int .i64 0),(.bool false),(.bool false),(.int .i64 0),(.bool false),(.bool false),(.int .i64 0),(.bool false),(.bool false),(.int .i64 0),(.bool false),(.bool false),(.int .i64 0),(.bool false),(.bool false),(.int .i64 0),(.bool false),(.bool false),(.int .i64 0),(.bool false),(.bool false),(.int .i64 0)] (tag 105)) zK)
def K65r2:zF:=(zC (.tmp 9) (zL (some 8) (.tmp 1)) (jC (.tmp 10) (.con (.func 53 [] [])) [(.tmp 9)] zK))
def K65r3:zF:=(zC (.tmp 35) (kUn (zZ 2) (.tmp 1)) (zC (.tmp 36) (zL none (.tmp 35)) (zC (.tmp 37) (kUn jH (.tmp 36)) (zC (.tmp 38) (zE (.con (.int .i64 0))) zK))))
def K65r4:zF:=(zC (.tmp 39) (zq vH (.tmp 38) (.tmp 37)) zK)
def K65r5:zF:=(zC (.tmp 40) (jO (yJ 2) (.tmp 36) (.tmp 38)) (zC (.tmp 41) (zL (some 2) (.tmp 40)) (zC (.tmp 6) (jP [(.int .i64 0),(.int .i64 0)] (tag 27)) (zC .none (zz 2 (.tmp 6) (.tmp 41)) zK))))
def K65r6:zF:=(yz [] (zC (.tmp 42) (kUn (zZ 1) (.tmp 6)) (zC (.tmp 43) (zL none (.tmp 42)) (zC (.tmp 44) (kUn (zZ 0) (.tmp 6)) (zC (.tmp 45) (zL none (.tmp 44)) (zC (.tmp 46) (jO (ixaA 4 18) (.tmp 3) (.tmp 43)) (zC (.tmp 47) (jO (ixaA 6 3) (.tmp 46) (.tmp 45)) (zC (.tmp 48) (kUn (zZ 0) (.tmp 47)) (zC .none (zz 1 (.tmp 48) (.con (.bool true))) zK)))))))))
def K65r7:zF:=(zC (.tmp 49) (zq jK (.tmp 38) (.con (.int .i64 1))) (zC (.tmp 38) (zE (.tmp 49)) zK))
def K65l0:K:=(zH (zD K65r4 [39]) (zH (jG (.tmp 39) jF (yW 2)) (zH (zj 3 (zH (zD K65r5 [6]) (zv K65r6 []))) (zD K65r7 [38]))))
def K65r8:zF:=(zC (.tmp 50) (kUn (zZ 3) (.tmp 1)) (zC (.tmp 51) (zL none (.tmp 50)) (zC (.tmp 52) (kUn jH (.tmp 51)) (zC (.tmp 53) (zE (.con (.int .i64 0))) zK))))
def K65r9:zF:=(zC (.tmp 54) (zq vH (.tmp 53) (.tmp 52)) zK)
def K65r10:zF:=(zC (.tmp 55) (jO (yJ 2) (.tmp 51) (.tmp 53)) (zC (.tmp 56) (zL (some 2) (.tmp 55)) (zC (.tmp 8) (jP [(.int .i64 0),(.int .i64 0)] (tag 27)) (zC .none (zz 2 (.tmp 8) (.tmp 56)) zK))))
def K65r11:zF:=(yz [] (zC (.tmp 57) (kUn (zZ 1) (.tmp 8)) (zC (.tmp 58) (zL none (.tmp 57)) (zC (.tmp 59) (kUn (zZ 0) (.tmp 8)) (zC (.tmp 60) (zL none (.tmp 59)) (zC (.tmp 61) (jO (ixaA 4 18) (.tmp 3) (.tmp 58)) (zC (.tmp 62) (jO (ixaA 6 3) (.tmp 61) (.tmp 60)) (zC (.tmp 63) (kUn (zZ 1) (.tmp 62)) (zC .none (zz 1 (.tmp 63) (.con (.bool true))) zK)))))))))
def K65r12:zF:=(zC (.tmp 64) (zq jK (.tmp 53) (.con (.int .i64 1))) (zC (.tmp 53) (zE (.tmp 64)) zK))
def K65l1:K:=(zH (zD K65r9 [54]) (zH (jG (.tmp 54) jF (yW 4)) (zH (zj 5 (zH (zD K65r10 [8]) (zv K65r11 []))) (zD K65r12 [53]))))
def K65r13:zF:=(zC (.tmp 65) (zL (some 72) (.tmp 3)) (zC .none (zz 72 (.tmp 2) (.tmp 65)) zK))
theorem res65:Try.f65.results.toList=[.cell 2 105]:=by kernel_rfl
def K65:K:=(zH (zD K65r0 [1,2]) (zH (zD K65r1 [3]) (zH (zH (zD K65r2 [10]) (zj 0 (wh (.tmp 10) [11] (yU Try.f65 0).1 (yU Try.f65 0).2))) (zH (zH (zD K65r3 [36,37,38]) (zj 2 (yR K65l0))) (zH (zH (zD K65r8 [51,52,53]) (zj 4 (yR K65l1))) (zH (zD K65r13 []) jT))))))
theorem enter65 (cl:zR) (a0:AV) (s:St):za Try.prog X cl 65 [a0] s Try.f65=yF Try.prog Try.f65 (K65 cl ⟨65,none,Try.f65.ntmps,X 65⟩ (zQ 0 [a0] .nil) [] s) :=
  zX (b:=Try.f65.body.getD .skip) (by kernel_rfl) (by kernel_rfl) (by kernel_rfl) (by kernel_rfl) (by kernel_rfl)
def K65a0r0:zF:=(zC (.tmp 4) (jP [(.int .i64 0),(.int .i64 0)] (tag 27)) (zC .none (zz 2 (.tmp 4) (.tmp 11)) zK))
def K65a0:K:=(zD K65a0r0 [4])
theorem code65a0:jX Try.prog (X 65) Try.f65.ntmps (yU Try.f65 0).1=some K65a0:=by kernel_rfl
def K65b0r0:zF:=(yz [] (zC (.tmp 12) (kUn (zZ 1) (.tmp 4)) (zC (.tmp 13) (zL none (.tmp 12)) (zC (.tmp 14) (kUn (zZ 0) (.tmp 4)) (zC (.tmp 15) (zL none (.tmp 14)) (zC (.tmp 16) (kUn (zZ 1) (.tmp 4)) (zC (.tmp 17) (zL none (.tmp 16)) (zC (.tmp 18) (kUn (zZ 4) (.tmp 1)) (zC (.tmp 19) (kUn (zZ 1) (.tmp 18)) (zC (.tmp 20) (zL none (.tmp 19)) (zC (.tmp 21) (zq YZ (.tmp 17) (.tmp 20)) (zC (.tmp 22) (zL (some 8) (.tmp 1)) (jW (some [12,14,16,19,25,28]) (.tmp 23) (.con (.func 91 [] [])) [(.tmp 22)] (zC (.tmp 24) (zq aMul (.tmp 21) (.tmp 23)) (zC (.tmp 25) (kUn (zZ 0) (.tmp 4)) (zC (.tmp 26) (zL none (.tmp 25)) (zC (.tmp 27) (kUn (zZ 4) (.tmp 1)) (zC (.tmp 28) (kUn (zZ 0) (.tmp 27)) (zC (.tmp 29) (zL none (.tmp 28)) (zC (.tmp 30) (zq YZ (.tmp 26) (.tmp 29)) (zC (.tmp 31) (zq jK (.tmp 24) (.tmp 30)) (zC (.tmp 32) (jO (ixaA 4 18) (.tmp 3) (.tmp 13)) (zC (.tmp 33) (jO (ixaA 6 3) (.tmp 32) (.tmp 15)) (zC (.tmp 34) (kUn (zZ 2) (.tmp 33)) (zC .none (zz 1 (.tmp 34) (.tmp 31)) zK)))))))))))))))))))))))))
def K65b0:K:=(zj 1 (zv K65b0r0 []))
theorem code65b0:jX Try.prog (X 65) Try.f65.ntmps (yU Try.f65 0).2=some K65b0:=by kernel_rfl
def K53r0:zF:=(zC (.tmp 1) (yY (tag 30) (.tmp 0)) (zC (.tmp 2) (zE (.con .nilfunc)) zK))
def K53r1:zF:=(zC (.tmp 3) (JG 75 [] [(.tmp 1)]) (zC (.tmp 2) (zE (.tmp 3)) zK))
theorem res53:Try.f53.results.toList=[.tmp 2]:=by kernel_rfl
def K53:K:=(zH (zD K53r0 [1,2]) (zH (zD K53r1 [2]) jT))
theorem enter53 (cl:zR) (a0:AV) (s:St):za Try.prog X cl 53 [a0] s Try.f53=yF Try.prog Try.f53 (K53 cl ⟨53,none,Try.f53.ntmps,X 53⟩ (zQ 0 [a0] .nil) [] s) :=
  zX (b:=Try.f53.body.getD .skip) (by kernel_rfl) (by kernel_rfl) (by kernel_rfl) (by kernel_rfl) (by kernel_rfl)
def K75r0:zF:=(zC (.tmp 5) (kUn (zZ 1) (.tmp 1)) (zC (.tmp 6) (zL none (.tmp 5)) (zC (.tmp 7) (zE (.con (.int .i64 0))) zK)))
def K75r1:zF:=(zC (.tmp 8) (zq vH (.tmp 7) (.tmp 6)) zK)
def K75r2:zF:=(zC (.tmp 9) (zE (.tmp 7)) (zC (.tmp 3) (zE (.tmp 9)) zK))
def K75r3:zF:=(zC (.tmp 10) (kUn (zZ 0) (.tmp 1)) (zC (.tmp 11) (zL none (.tmp 10)) (zC (.tmp 12) (zE (.con (.int .i64 0))) zK)))
def K75r4:zF:=(zC (.tmp 13) (zq vH (.tmp 12) (.tmp 11)) zK)
def K75r5:zF:=(zC (.tmp 14) (zE (.tmp 12)) (zC (.tmp 4) (zE (.tmp 14)) zK))
def K75r6:zF:=(zC (.tmp 15) (zE (.tmp 0)) (zC (.tmp 16) (zE (.tmp 4)) (zC (.tmp 17) (zE (.tmp 3)) (zC (.tmp 18) (yX [(.int .i64 0),(.int .i64 0)] [(0,1,(.tmp 16)),(1,1,(.tmp 17))]) (jC (.tmp 19) (.tmp 15) [(.tmp 18)] (zC (.tmp 20) (kUn notA (.tmp 19)) zK))))))
def K75r7:zF:=(zC (.tmp 21) (zq jK (.tmp 12) (.con (.int .i64 1))) (zC (.tmp 12) (zE (.tmp 21)) zK))
def K75l0:K:=(zH (zD K75r4 [13]) (zH (jG (.tmp 13) jF (yW 2)) (zH (zj 3 (zH (zD K75r5 [4]) (zH (zD K75r6 [20]) (jG (.tmp 20) jT jF)))) (zD K75r7 [12]))))
def K75r8:zF:=(zC (.tmp 22) (zq jK (.tmp 7) (.con (.int .i64 1))) (zC (.tmp 7) (zE (.tmp 22)) zK))
def K75l1:K:=(zH (zD K75r1 [8]) (zH (jG (.tmp 8) jF (yW 0)) (zH (zj 1 (zH (zD K75r2 [3]) (zH (zD K75r3 [11,12]) (zj 2 (yR K75l0))))) (zD K75r8 [7]))))
theorem res75:Try.f75.results.toList=[]:=by kernel_rfl
def K75:K:=(zH (zD K75r0 [6,7]) (zj 0 (yR K75l1)))
theorem enter75 (cl:zR) (a0 a1:AV) (s:St):za Try.prog X cl 75 [a0,a1] s Try.f75=yF Try.prog Try.f75 (K75 cl ⟨75,none,Try.f75.ntmps,X 75⟩ (zQ 0 [a0,a1] .nil) [] s) :=
  zX (b:=Try.f75.body.getD .skip) (by kernel_rfl) (by kernel_rfl) (by kernel_rfl) (by kernel_rfl) (by kernel_rfl)
def K72r0:zF:=(zC (.tmp 3) (yY (tag 51) (.tmp 1)) (zC (.tmp 4) (jP [(.bool false),(.bool false),(.int .i64 0)] (tag 102)) zK))
def K72r1:zF:=(yz [] (zC (.tmp 5) (zE (.tmp 0)) (zC (.tmp 6) (kUn (zZ 0) (.tmp 3)) (zC (.tmp 7) (kUn (zZ 1) (.tmp 6)) (zC (.tmp 8) (zL none (.tmp 7)) (zC (.tmp 9) (kUn (zZ 0) (.tmp 3)) (zC (.tmp 10) (kUn (zZ 0) (.tmp 9)) (zC (.tmp 11) (zL none (.tmp 10)) (zC (.tmp 12) (kUn vl (.tmp 5)) (zC (.tmp 13) (kUn (zZ 8) (.tmp 12)) (zC (.tmp 14) (jO (ixaA 4 18) (.tmp 13) (.tmp 8)) (zC (.tmp 15) (jO (ixaA 6 3) (.tmp 14) (.tmp 11)) (zC (.tmp 16) (zL (some 3) (.tmp 15)) (zC .none (zz 3 (.tmp 4) (.tmp 16)) zK))))))))))))))
theorem res72:Try.f72.results.toList=[.cell 4 102]:=by kernel_rfl
def K72:K:=(zH (zD K72r0 [3,4]) (zH (zv K72r1 []) jT))
theorem enter72 (cl:zR) (a0 a1:AV) (s:St):za Try.prog X cl 72 [a0,a1] s Try.f72=yF Try.prog Try.f72 (K72 cl ⟨72,none,Try.f72.ntmps,X 72⟩ (zQ 0 [a0,a1] .nil) [] s) :=
  zX (b:=Try.f72.body.getD .skip) (by kernel_rfl) (by kernel_rfl) (by kernel_rfl) (by kernel_rfl) (by kernel_rfl)
def K74r0:zF:=(zC (.tmp 3) (yY (tag 51) (.tmp 1)) (zC (.tmp 4) (jP [(.int .i64 0),(.int .i64 0),(.bool false),.nilslice,(.int .i64 0),(.int .i64 0)] (tag 49)) zK))
def K74r1:zF:=(yz [] (zC (.tmp 5) (zE (.tmp 0)) (zC (.tmp 6) (kUn vl (.tmp 5)) (zC (.tmp 7) (kUn (zZ 0) (.tmp 6)) (zC (.tmp 8) (kUn (zZ 7) (.tmp 7)) (zC (.tmp 9) (zL none (.tmp 8)) (zC (.tmp 10) (kUn (zZ 2) (.tmp 3)) (zC (.tmp 11) (zL none (.tmp 10)) (zC (.tmp 12) (jO (yJ 6) (.tmp 9) (.tmp 11)) (zC (.tmp 13) (zL (some 6) (.tmp 12)) (zC .none (zz 6 (.tmp 4) (.tmp 13)) zK)))))))))))
theorem res74:Try.f74.results.toList=[.cell 4 49]:=by kernel_rfl
def K74:K:=(zH (zD K74r0 [3,4]) (zH (zv K74r1 []) jT))
theorem enter74 (cl:zR) (a0 a1:AV) (s:St):za Try.prog X cl 74 [a0,a1] s Try.f74=yF Try.prog Try.f74 (K74 cl ⟨74,none,Try.f74.ntmps,X 74⟩ (zQ 0 [a0,a1] .nil) [] s) :=
  zX (b:=Try.f74.body.getD .skip) (by kernel_rfl) (by kernel_rfl) (by kernel_rfl) (by kernel_rfl) (by kernel_rfl)
def K63r0:zF:=(zC (.tmp 5) (yY (tag 51) (.tmp 2)) (zC (.tmp 6) (zE (.con (.int .i64 0))) zK))
def K63r1:zF:=(zC (.tmp 10) (zE (.tmp 0)) (zC (.tmp 11) (kUn vl (.tmp 10)) (zC (.tmp 12) (kUn (zZ 80) (.tmp 11)) (zC (.tmp 13) (zL none (.tmp 12)) (zC (.tmp 14) (kUn jH (.tmp 13)) (zC (.tmp 15) (zE (.con (.int .i64 0))) zK))))))
def K63r2:zF:=(zC (.tmp 16) (zq vH (.tmp 15) (.tmp 14)) zK)
def K63r3:zF:=(zC (.tmp 17) (jO (yJ 1) (.tmp 13) (.tmp 15)) (zC (.tmp 18) (zL none (.tmp 17)) (zC (.tmp 8) (zE (.tmp 18)) zK)))
def K63r4:zF:=(zC (.tmp 19) (zE (.tmp 8)) (zC (.tmp 20) (zE (.tmp 1)) (zC (.tmp 21) (zL (some 3) (.tmp 5)) (jC (.tmp 22) (.tmp 19) [(.tmp 20),(.tmp 21)] (zC (.tmp 9) (zE (.tmp 22)) zK)))))
def K63r5:zF:=(zC (.tmp 23) (zE (.tmp 9)) (zC (.tmp 24) (zq Ya (.tmp 23) (.con (.int .i64 0))) zK))
def K63r6:zF:=(zC (.tmp 25) (zE (.tmp 9)) (zC (.tmp 6) (zE (.tmp 25)) zK))
def K63r7:zF:=(zC (.tmp 26) (zq jK (.tmp 15) (.con (.int .i64 1))) (zC (.tmp 15) (zE (.tmp 26)) zK))
def K63l0:K:=(zH (zD K63r2 [16]) (zH (jG (.tmp 16) jF (yW 0)) (zH (zj 1 (zH (zD K63r3 [8]) (zH (zD K63r4 [9]) (zH (zD K63r5 [24]) (jG (.tmp 24) (zH (zD K63r6 [6]) jT) jF))))) (zD K63r7 [15]))))
def K63r8:zF:=(zC (.tmp 6) (zE (.con (.int .i64 0))) zK)
theorem res63:Try.f63.results.toList=[.tmp 6]:=by kernel_rfl
def K63:K:=(zH (zD K63r0 [5,6]) (zH (zH (zD K63r1 [13,14,15]) (zj 0 (yR K63l0))) (zH (zD K63r8 [6]) jT)))
theorem enter63 (cl:zR) (a0 a1 a2:AV) (s:St):za Try.prog X cl 63 [a0,a1,a2] s Try.f63=yF Try.prog Try.f63 (K63 cl ⟨63,none,Try.f63.ntmps,X 63⟩ (zQ 0 [a0,a1,a2] .nil) [] s) :=
  zX (b:=Try.f63.body.getD .skip) (by kernel_rfl) (by kernel_rfl) (by kernel_rfl) (by kernel_rfl) (by kernel_rfl)
def K66r0:zF:=(zC (.tmp 5) (yY (tag 51) (.tmp 2)) (zC (.tmp 6) (zE (.con (.int .i64 0))) zK))
def K66r1:zF:=(yz [] (zC (.tmp 7) (zE (.tmp 0)) (zC (.tmp 8) (kUn vl (.tmp 7)) (zC (.tmp 9) (kUn (zZ 0) (.tmp 8)) (zC (.tmp 10) (zL (some 8) (.tmp 9)) (zC (.tmp 11) (kUn (zZ 0) (.tmp 5)) (zC (.tmp 12) (zL (some 2) (.tmp 11)) (jC (.tmp 13) (.con (.func 92 [] [])) [(.tmp 10),(.tmp 12)] (zC (.tmp 6) (zE (.tmp 13)) zK)))))))))
theorem res66:Try.f66.results.toList=[.tmp 6]:=by kernel_rfl
def K66:K:=(zH (zD K66r0 [5,6]) (zH (zv K66r1 [6]) jT))
theorem enter66 (cl:zR) (a0 a1 a2:AV) (s:St):za Try.prog X cl 66 [a0,a1,a2] s Try.f66=yF Try.prog Try.f66 (K66 cl ⟨66,none,Try.f66.ntmps,X 66⟩ (zQ 0 [a0,a1,a2] .nil) [] s) :=
  zX (b:=Try.f66.body.getD .skip) (by kernel_rfl) (by kernel_rfl) (by kernel_rfl) (by kernel_rfl) (by kernel_rfl)
def K67r0:zF:=(zC (.tmp 5) (yY (tag 51) (.tmp 2)) (zC (.tmp 6) (zE (.con (.int .i64 0))) zK))
def K67r1:zF:=(zC (.tmp 7) (zE (.tmp 0)) (zC (.tmp 8) (zL (some 3) (.tmp 5)) (jC (.tmp 9) (.con (.func 72 [] [])) [(.tmp 7),(.tmp 8)] (zC (.tmp 10) (kUn (fldA none 1) (.tmp 9)) zK))))
def K67r2:zF:=(zC (.tmp 6) (zE (.con (.int .i64 11))) zK)
def K67r3:zF:=(zC (.tmp 6) (zE (.con (.int .i64 0))) zK)
theorem res67:Try.f67.results.toList=[.tmp 6]:=by kernel_rfl
def K67:K:=(zH (zD K67r0 [5,6]) (zH (zH (zD K67r1 [10]) (jG (.tmp 10) (zH (zD K67r2 [6]) jT) jF)) (zH (zD K67r3 [6]) jT)))
theorem enter67 (cl:zR) (a0 a1 a2:AV) (s:St):za Try.prog X cl 67 [a0,a1,a2] s Try.f67=yF Try.prog Try.f67 (K67 cl ⟨67,none,Try.f67.ntmps,X 67⟩ (zQ 0 [a0,a1,a2] .nil) [] s) :=
  zX (b:=Try.f67.body.getD .skip) (by kernel_rfl) (by kernel_rfl) (by kernel_rfl) (by kernel_rfl) (by kernel_rfl)
def K68r0:zF:=(zC (.tmp 5) (yY (tag 51) (.tmp 2)) (zC (.tmp 6) (zE (.con (.int .i64 0))) zK))
def K68r1:zF:=(yz [] (zC (.tmp 7) (zE (.tmp 0)) (zC (.tmp 8) (kUn vl (.tmp 7)) (zC (.tmp 9) (kUn (zZ 0) (.tmp 8)) (zC (.tmp 10) (zL (some 8) (.tmp 9)) (zC (.tmp 11) (kUn (zZ 2) (.tmp 5)) (zC (.tmp 12) (zL none (.tmp 11)) (jC (.tmp 13) (.con (.func 52 [] [])) [(.tmp 10),(.tmp 12)] (zC (.tmp 6) (zE (.tmp 13)) zK)))))))))
theorem res68:Try.f68.results.toList=[.tmp 6]:=by kernel_rfl
def K68:K:=(zH (zD K68r0 [5,6]) (zH (zv K68r1 [6]) jT))
theorem enter68 (cl:zR) (a0 a1 a2:AV) (s:St):za Try.prog X cl 68 [a0,a1,a2] s Try.f68=yF Try.prog Try.f68 (K68 cl ⟨68,none,Try.f68.ntmps,X 68⟩ (zQ 0 [a0,a1,a2] .nil) [] s) :=
  zX (b:=Try.f68.body.getD .skip) (by kernel_rfl) (by kernel_rfl) (by kernel_rfl) (by kernel_rfl) (by kernel_rfl)
def K69r0:zF:=(zC (.tmp 5) (yY (tag 51) (.tmp 2)) (zC (.tmp 6) (zE (.con (.int .i64 0))) zK))
def K69r1:zF:=(zC (.tmp 9) (zE (.tmp 1)) (zC (.tmp 10) (kUn jH (.tmp 9)) (zC (.tmp 11) (zE (.con (.int .i64 0))) zK)))
def K69r2:zF:=(zC (.tmp 12) (zq vH (.tmp 11) (.tmp 10)) zK)
def K69r3:zF:=(zC (.tmp 13) (jO (yJ 3) (.tmp 9) (.tmp 11)) (zC (.tmp 14) (zL (some 3) (.tmp 13)) (zC (.tmp 8) (jP [(.int .i64 0),(.int .i64 0),(.int .i64 0)] (tag 51)) (zC .none (zz 3 (.tmp 8) (.tmp 14)) zK))))
def K69r4:zF:=(zC (.tmp 15) (kUn (zZ 0) (.tmp 8)) (zC (.tmp 16) (zL (some 2) (.tmp 15)) (zC (.tmp 17) (kUn (zZ 0) (.tmp 5)) (zC (.tmp 18) (zL (some 2) (.tmp 17)) (zC (.tmp 19) (kEql (.row [(0,none,.int),(1,none,.int)]) false (.tmp 16) (.tmp 18)) zK)))))
def K69r5:zF:=(zC (.tmp 6) (zE (.con (.int .i64 4))) zK)
def K69r6:zF:=(zC (.tmp 20) (zq jK (.tmp 11) (.con (.int .i64 1))) (zC (.tmp 11) (zE (.tmp 20)) zK))
def K69l0:K:=(zH (zD K69r2 [12]) (zH (jG (.tmp 12) jF (yW 0)) (zH (zj 1 (zH (zD K69r3 [8]) (zH (zD K69r4 [19]) (jG (.tmp 19) (zH (zD K69r5 [6]) jT) jF)))) (zD K69r6 [11]))))
def K69r7:zF:=(zC (.tmp 6) (zE (.con (.int .i64 0))) zK)
theorem res69:Try.f69.results.toList=[.tmp 6]:=by kernel_rfl
def K69:K:=(zH (zD K69r0 [5,6]) (zH (zH (zD K69r1 [9,10,11]) (zj 0 (yR K69l0))) (zH (zD K69r7 [6]) jT)))
theorem enter69 (cl:zR) (a0 a1 a2:AV) (s:St):za Try.prog X cl 69 [a0,a1,a2] s Try.f69=yF Try.prog Try.f69 (K69 cl ⟨69,none,Try.f69.ntmps,X 69⟩ (zQ 0 [a0,a1,a2] .nil) [] s) :=
  zX (b:=Try.f69.body.getD .skip) (by kernel_rfl) (by kernel_rfl) (by kernel_rfl) (by kernel_rfl) (by kernel_rfl)
def K70r0:zF:=(zC (.tmp 5) (yY (tag 51) (.tmp 2)) (zC (.tmp 6) (zE (.con (.int .i64 0))) zK))
def K70r1s10:zF:=(zC (.tmp 17) (vn (.tmp 11) (.tmp 16) (.con (.bool false))) zK)
def K70r1s9:zF:=(oIf 11 true (zC (.tmp 16) (kUn notA (.tmp 15)) K70r1s10) (jV (.tmp 16) K70r1s10))
def K70r1s8:zF:=(oIf 11 true (zC (.tmp 15) (kUn (fldA none 0) (.tmp 14)) K70r1s9) (jV (.tmp 15) K70r1s9))
def K70r1s7:zF:=(oIf 11 true (jC (.tmp 14) (.con (.func 72 [] [])) [(.tmp 12),(.tmp 13)] K70r1s8) (jV (.tmp 14) K70r1s8))
def K70r1s6:zF:=(oIf 11 true (zC (.tmp 13) (zL (some 3) (.tmp 5)) K70r1s7) (jV (.tmp 13) K70r1s7))
def K70r1:zF:=(zC (.tmp 7) (zE (.tmp 0)) (zC (.tmp 8) (zL (some 3) (.tmp 5)) (jC (.tmp 9) (.con (.func 74 [] [])) [(.tmp 7),(.tmp 8)] (zC (.tmp 10) (kUn (fldA none 2) (.tmp 9)) (zC (.tmp 11) (zE (.tmp 10)) (oIf 11 true (zC (.tmp 12) (zE (.tmp 0)) K70r1s6) (jV (.tmp 12) K70r1s6)))))))
def K70r2:zF:=(zC (.tmp 6) (zE (.con (.int .i64 7))) zK)
def K70r3:zF:=(zC (.tmp 6) (zE (.con (.int .i64 0))) zK)
theorem res70:Try.f70.results.toList=[.tmp 6]:=by kernel_rfl
def K70:K:=(zH (zD K70r0 [5,6]) (zH (zH (zD K70r1 [17]) (jG (.tmp 17) (zH (zD K70r2 [6]) jT) jF)) (zH (zD K70r3 [6]) jT)))
theorem enter70 (cl:zR) (a0 a1 a2:AV) (s:St):za Try.prog X cl 70 [a0,a1,a2] s Try.f70=yF Try.prog Try.f70 (K70 cl ⟨70,none,Try.f70.ntmps,X 70⟩ (zQ 0 [a0,a1,a2] .nil) [] s) :=
  zX (b:=Try.f70.body.getD .skip) (by kernel_rfl) (by kernel_rfl) (by kernel_rfl) (by kernel_rfl) (by kernel_rfl)
def K71r0:zF:=(zC (.tmp 5) (yY (tag 51) (.tmp 2)) (zC (.tmp 6) (zE (.con (.int .i64 0))) zK))
def K71r1:zF:=(zC (.tmp 9) (zE (.tmp 1)) (zC (.tmp 10) (kUn jH (.tmp 9)) (zC (.tmp 11) (zE (.con (.int .i64 0))) zK)))
def K71r2:zF:=(zC (.tmp 12) (zq vH (.tmp 11) (.tmp 10)) zK)
def K71r3:zF:=(zC (.tmp 13) (jO (yJ 3) (.tmp 9) (.tmp 11)) (zC (.tmp 14) (zL (some 3) (.tmp 13)) (zC (.tmp 8) (jP [(.int .i64 0),(.int .i64 0),(.int .i64 0)] (tag 51)) (zC .none (zz 3 (.tmp 8) (.tmp 14)) zK))))
def K71r4:zF:=(yz [] (zC (.tmp 15) (kUn (zZ 0) (.tmp 5)) (zC (.tmp 16) (zL (some 2) (.tmp 15)) (zC (.tmp 17) (kUn (zZ 0) (.tmp 8)) (zC (.tmp 18) (zL (some 2) (.tmp 17)) (jW (some [5,24,8,32]) (.tmp 19) (.con (.func 93 [] [])) [(.tmp 16),(.tmp 18)] (zC (.tmp 20) (zE (.tmp 0)) (zC (.tmp 21) (zL (some 3) (.tmp 5)) (jW (some [24,8,32]) (.tmp 22) (.con (.func 74 [] [])) [(.tmp 20),(.tmp 21)] (zC (.tmp 23) (kUn (fldA none 3) (.tmp 22)) (zC (.tmp 24) (kUn (zZ 2) (.tmp 8)) (zC (.tmp 25) (zL none (.tmp 24)) (zC (.tmp 26) (jO (yJ 1) (.tmp 23) (.tmp 25)) (zC (.tmp 27) (zL none (.tmp 26)) (zC (.tmp 28) (zE (.tmp 0)) (zC (.tmp 29) (zL (some 3) (.tmp 8)) (jW (some [24,26,32]) (.tmp 30) (.con (.func 74 [] [])) [(.tmp 28),(.tmp 29)] (zC (.tmp 31) (kUn (fldA none 3) (.tmp 30)) (zC (.tmp 32) (kUn (zZ 2) (.tmp 5)) (zC (.tmp 33) (zL none (.tmp 32)) (zC (.tmp 34) (jO (yJ 1) (.tmp 31) (.tmp 33)) (zC (.tmp 35) (zL none (.tmp 34)) (zC (.tmp 36) (Jj maxA (.tmp 27) [(.tmp 35)]) (zC (.tmp 37) (zq vH (.tmp 19) (.tmp 36)) zK))))))))))))))))))))))))
def K71r5:zF:=(zC (.tmp 6) (zE (.con (.int .i64 9))) zK)
def K71r6:zF:=(zC (.tmp 38) (zq jK (.tmp 11) (.con (.int .i64 1))) (zC (.tmp 11) (zE (.tmp 38)) zK))
def K71l0:K:=(zH (zD K71r2 [12]) (zH (jG (.tmp 12) jF (yW 0)) (zH (zj 1 (zH (zD K71r3 [8]) (zH (zv K71r4 [37]) (jG (.tmp 37) (zH (zD K71r5 [6]) jT) jF)))) (zD K71r6 [11]))))
def K71r7:zF:=(zC (.tmp 6) (zE (.con (.int .i64 0))) zK)
theorem res71:Try.f71.results.toList=[.tmp 6]:=by kernel_rfl
def K71:K:=(zH (zD K71r0 [5,6]) (zH (zH (zD K71r1 [9,10,11]) (zj 0 (yR K71l0))) (zH (zD K71r7 [6]) jT)))
theorem enter71 (cl:zR) (a0 a1 a2:AV) (s:St):za Try.prog X cl 71 [a0,a1,a2] s Try.f71=yF Try.prog Try.f71 (K71 cl ⟨71,none,Try.f71.ntmps,X 71⟩ (zQ 0 [a0,a1,a2] .nil) [] s) :=
  zX (b:=Try.f71.body.getD .skip) (by kernel_rfl) (by kernel_rfl) (by kernel_rfl) (by kernel_rfl) (by kernel_rfl)
def K93r0:zF:=(zC (.tmp 2) (yY (tag 27) (.tmp 0)) (zC (.tmp 3) (yY (tag 27) (.tmp 1)) (zC (.tmp 4) (zE (.con (.int .i64 0))) zK)))
def K93r1:zF:=(zC (.tmp 5) (kUn (zZ 0) (.tmp 2)) (zC (.tmp 6) (zL none (.tmp 5)) (zC (.tmp 7) (kUn (zZ 0) (.tmp 3)) (zC (.tmp 8) (zL none (.tmp 7)) (zC (.tmp 9) (zq wF (.tmp 6) (.tmp 8)) (zC (.tmp 10) (kUn (zZ 0) (.tmp 3)) (zC (.tmp 11) (zL none (.tmp 10)) (zC (.tmp 12) (kUn (zZ 0) (.tmp 2)) (zC (.tmp 13) (zL none (.tmp 12)) (zC (.tmp 14) (zq wF (.tmp 11) (.tmp 13)) (zC (.tmp 15) (Jj maxA (.tmp 9) [(.tmp 14)]) (zC (.tmp 16) (kUn (zZ 1) (.tmp 2)) (zC (.tmp 17) (zL none (.tmp 16)) (zC (.tmp 18) (kUn (zZ 1) (.tmp 3)) (zC (.tmp 19) (zL none (.tmp 18)) (zC (.tmp 20) (zq wF (.tmp 17) (.tmp 19)) (zC (.tmp 21) (kUn (zZ 1) (.tmp 3)) (zC (.tmp 22) (zL none (.tmp 21)) (zC (.tmp 23) (kUn (zZ 1) (.tmp 2)) (zC (.tmp 24) (zL none (.tmp 23)) (zC (.tmp 25) (zq wF (.tmp 22) (.tmp 24)) (zC (.tmp 26) (Jj maxA (.tmp 20) [(.tmp 25)]) (zC (.tmp 27) (zq jK (.tmp 15) (.tmp 26)) (zC (.tmp 4) (zE (.tmp 27)) zK))))))))))))))))))))))))
theorem res93:Try.f93.results.toList=[.tmp 4]:=by kernel_rfl
def K93:K:=(zH (zD K93r0 [2,3,4]) (zH (zD K93r1 [4]) jT))
theorem enter93 (cl:zR) (a0 a1:AV) (s:St):za Try.prog X cl 93 [a0,a1] s Try.f93=yF Try.prog Try.f93 (K93 cl ⟨93,none,Try.f93.ntmps,X 93⟩ (zQ 0 [a0,a1] .nil) [] s) :=
  zX (b:=Try.f93.body.getD .skip) (by kernel_rfl) (by kernel_rfl) (by kernel_rfl) (by kernel_rfl) (by kernel_rfl)
def K64r0:zF:=(zC (.tmp 4) (zE (.con (.int .i64 0))) zK)
def K64r1:zF:=(zC (.tmp 5) (zE (.con (.int .i64 0))) zK)
def K64r2:zF:=(zC (.tmp 8) (zE (.tmp 0)) (zC (.tmp 9) (kUn jH (.tmp 8)) (zC (.tmp 10) (zE (.con (.int .i64 0))) zK)))
def K64r3:zF:=(zC (.tmp 11) (zq vH (.tmp 10) (.tmp 9)) zK)
def K64r4:zF:=(zC (.tmp 12) (jO (yJ 3) (.tmp 8) (.tmp 10)) (zC (.tmp 13) (zL (some 3) (.tmp 12)) (zC (.tmp 7) (jP [(.int .i64 0),(.int .i64 0),(.int .i64 0)] (tag 51)) (zC .none (zz 3 (.tmp 7) (.tmp 13)) zK))))
def K64r5:zF:=(zC (.tmp 14) (kUn (zZ 2) (.tmp 7)) (zC (.tmp 15) (zL none (.tmp 14)) (zC (.tmp 16) (zE (.tmp 1)) (zC (.tmp 17) (zq aEql (.tmp 15) (.tmp 16)) zK))))
def K64r6:zF:=(zC (.tmp 18) (zE (.tmp 5)) (zC (.tmp 19) (zq jK (.tmp 18) (.con (.int .i64 1))) (zC (.tmp 5) (zE (.tmp 19)) zK)))
def K64r7:zF:=(zC (.tmp 20) (zq jK (.tmp 10) (.con (.int .i64 1))) (zC (.tmp 10) (zE (.tmp 20)) zK))
def K64l0:K:=(zH (zD K64r3 [11]) (zH (jG (.tmp 11) jF (yW 0)) (zH (zj 1 (zH (zD K64r4 [7]) (zH (zD K64r5 [17]) (jG (.tmp 17) (zD K64r6 [5]) jF)))) (zD K64r7 [10]))))
def K64r8:zF:=(zC (.tmp 21) (zE (.tmp 5)) (zC (.tmp 4) (zE (.tmp 21)) zK))
theorem res64:Try.f64.results.toList=[.tmp 4]:=by kernel_rfl
def K64:K:=(zH (zD K64r0 [4]) (zH (zD K64r1 [5]) (zH (zH (zD K64r2 [8,9,10]) (zj 0 (yR K64l0))) (zH (zD K64r8 [4]) jT))))
theorem enter64 (cl:zR) (a0 a1:AV) (s:St):za Try.prog X cl 64 [a0,a1] s Try.f64=yF Try.prog Try.f64 (K64 cl ⟨64,none,Try.f64.ntmps,X 64⟩ (zQ 0 [a0,a1] .nil) [] s) :=
  zX (b:=Try.f64.body.getD .skip) (by kernel_rfl) (by kernel_rfl) (by kernel_rfl) (by kernel_rfl) (by kernel_rfl)
end
end Go.Proofs.Ytoklbkgcclkejaa.code
set_option maxRecDepth 100000
namespace Go.Proofs.Ytoklbkgcclkejaa.code
open Go.Abs
noncomputable section
def K73r0:zF:=(zC (.tmp 2) (jP [(.int .i64 0),(.int .i64 0)] (tag 44)) zK)
def K73r1:zF:=(zC (.tmp 3) (jP [(.int .i64 0),(.int .i64 0)] (tag 44)) zK)
def K73r2:zF:=(zC (.tmp 6) (zE (.tmp 0)) (zC (.tmp 7) (kUn jH (.tmp 6)) (zC (.tmp 8) (zE (.con (.int .i64 0))) zK)))
def K73r3:zF:=(zC (.tmp 9) (zq vH (.tmp 8) (.tmp 7)) zK)
def K73r4:zF:=(zC (.tmp 10) (jO (yJ 2) (.tmp 6) (.tmp 8)) (zC (.tmp 11) (zL (some 2) (.tmp 10)) (zC (.tmp 5) (jP [(.int .i64 0),(.int .i64 0)] (tag 44)) (zC .none (zz 2 (.tmp 5) (.tmp 11)) zK))))
def K73r5:zF:=(zC (.tmp 12) (kUn (zZ 0) (.tmp 3)) (zC (.tmp 13) (zL none (.tmp 12)) (zC (.tmp 14) (kUn (zZ 0) (.tmp 5)) (zC (.tmp 15) (zL none (.tmp 14)) (zC (.tmp 16) (zq jK (.tmp 13) (.tmp 15)) (zC (.tmp 17) (kUn (zZ 0) (.tmp 3)) (zC .none (zz 1 (.tmp 17) (.tmp 16)) zK)))))))
def K73r6:zF:=(zC (.tmp 18) (kUn (zZ 1) (.tmp 3)) (zC (.tmp 19) (zL none (.tmp 18)) (zC (.tmp 20) (kUn (zZ 1) (.tmp 5)) (zC (.tmp 21) (zL none (.tmp 20)) (zC (.tmp 22) (zq jK (.tmp 19) (.tmp 21)) (zC (.tmp 23) (kUn (zZ 1) (.tmp 3)) (zC .none (zz 1 (.tmp 23) (.tmp 22)) zK)))))))
def K73r7:zF:=(zC (.tmp 24) (zq jK (.tmp 8) (.con (.int .i64 1))) (zC (.tmp 8) (zE (.tmp 24)) zK))
def K73l0:K:=(zH (zD K73r3 [9]) (zH (jG (.tmp 9) jF (yW 0)) (zH (zj 1 (zH (zD K73r4 [5]) (zH (zD K73r5 []) (zD K73r6 [])))) (zD K73r7 [8]))))
def K73r8:zF:=(zC (.tmp 25) (zL (some 2) (.tmp 3)) (zC .none (zz 2 (.tmp 2) (.tmp 25)) zK))
theorem res73:Try.f73.results.toList=[.cell 2 44]:=by kernel_rfl
def K73:K:=(zH (zD K73r0 [2]) (zH (zD K73r1 [3]) (zH (zH (zD K73r2 [6,7,8]) (zj 0 (yR K73l0))) (zH (zD K73r8 []) jT))))
theorem enter73 (cl:zR) (a0:AV) (s:St):za Try.prog X cl 73 [a0] s Try.f73=yF Try.prog Try.f73 (K73 cl ⟨73,none,Try.f73.ntmps,X 73⟩ (zQ 0 [a0] .nil) [] s) :=
  zX (b:=Try.f73.body.getD .skip) (by kernel_rfl) (by kernel_rfl) (by kernel_rfl) (by kernel_rfl) (by kernel_rfl)
end
end Go.Proofs.Ytoklbkgcclkejaa.code
set_option maxRecDepth 100000
namespace Go.Proofs.Ytoklbkgcclkejaa.code
open Go.Abs
noncomputable section
def K39r0:zF:=(zC (.tmp 2) (zE (.con (.int .u64 0))) zK)
def K39r1:zF:=(zC (.tmp 4) (zE (.tmp 0)) (zC (.tmp 5) (zE (.tmp 0)) (zC (.tmp 6) (kUn vl (.tmp 5)) (zC (.tmp 7) (kUn (zZ 0) (.tmp 6)) (zC (.tmp 8) (zL none (.tmp 7)) (zC (.tmp 9) (zq jK (.tmp 8) (.con (.int .u64 11562461410679940143))) (zC (.tmp 10) (kUn vl (.tmp 4)) (zC (.tmp 11) (kUn (zZ 0) (.tmp 10)) (zC .none (zz 1 (.tmp 11) (.tmp 9)) zK)))))))))
def K39r2:zF:=(zC (.tmp 12) (zE (.tmp 0)) (zC (.tmp 13) (kUn vl (.tmp 12)) (zC (.tmp 14) (kUn (zZ 0) (.tmp 13)) (zC (.tmp 15) (zL none (.tmp 14)) (zC (.tmp 3) (zE (.tmp 15)) zK)))))
def K39r3:zF:=(zC (.tmp 16) (zE (.tmp 3)) (zC (.tmp 17) (zE (.tmp 3)) (zC (.tmp 18) (kShr (.tmp 17) (.con (.int .u64 30))) (zC (.tmp 19) (zq aXor (.tmp 16) (.tmp 18)) (zC (.tmp 20) (zq aMul (.tmp 19) (.con (.int .u64 13787848793156543929))) (zC (.tmp 3) (zE (.tmp 20)) zK))))))
def K39r4:zF:=(zC (.tmp 21) (zE (.tmp 3)) (zC (.tmp 22) (zE (.tmp 3)) (zC (.tmp 23) (kShr (.tmp 22) (.con (.int .u64 27))) (zC (.tmp 24) (zq aXor (.tmp 21) (.tmp 23)) (zC (.tmp 25) (zq aMul (.tmp 24) (.con (.int .u64 10723151780598845931))) (zC (.tmp 3) (zE (.tmp 25)) zK))))))
def K39r5:zF:=(zC (.tmp 26) (zE (.tmp 3)) (zC (.tmp 27) (zE (.tmp 3)) (zC (.tmp 28) (kShr (.tmp 27) (.con (.int .u64 31))) (zC (.tmp 29) (zq aXor (.tmp 26) (.tmp 28)) (zC (.tmp 2) (zE (.tmp 29)) zK)))))
theorem res39:Try.f39.results.toList=[.tmp 2]:=by kernel_rfl
def K39:K:=(zH (zD K39r0 [2]) (zH (zD K39r1 []) (zH (zD K39r2 [3]) (zH (zD K39r3 [3]) (zH (zD K39r4 [3]) (zH (zD K39r5 [2]) jT))))))
theorem enter39 (cl:zR) (a0:AV) (s:St):za Try.prog X cl 39 [a0] s Try.f39=yF Try.prog Try.f39 (K39 cl ⟨39,none,Try.f39.ntmps,X 39⟩ (zQ 0 [a0] .nil) [] s) :=
  zX (b:=Try.f39.body.getD .skip) (by kernel_rfl) (by kernel_rfl) (by kernel_rfl) (by kernel_rfl) (by kernel_rfl)
def K25r0:zF:=(zC (.tmp 4) (zE (.con (.int .i64 0))) zK)
def K25r1:zF:=(zC (.tmp 5) (zE (.tmp 1)) (zC (.tmp 6) (zq vH (.tmp 5) (.con (.int .i64 2))) zK))
def K25r2:zF:=(zC (.tmp 4) (zE (.con (.int .i64 0))) zK)
def K25r3:zF:=(zC (.tmp 7) (zE (.tmp 0)) (jC (.tmp 8) (.con (.func 39 [] [])) [(.tmp 7)] (zC (.tmp 9) (kShr (.tmp 8) (.con (.int .u64 2))) (zC (.tmp 10) (zE (.tmp 1)) (zC (.tmp 11) (kUn (cviA .u64) (.tmp 10)) (zC (.tmp 12) (zq aRem (.tmp 9) (.tmp 11)) (zC (.tmp 13) (kUn (cviA .i64) (.tmp 12)) (zC (.tmp 4) (zE (.tmp 13)) zK))))))))
theorem res25:Try.f25.results.toList=[.tmp 4]:=by kernel_rfl
def K25:K:=(zH (zD K25r0 [4]) (zH (zH (zD K25r1 [6]) (jG (.tmp 6) (zH (zD K25r2 [4]) jT) jF)) (zH (zD K25r3 [4]) jT)))
theorem enter25 (cl:zR) (a0 a1:AV) (s:St):za Try.prog X cl 25 [a0,a1] s Try.f25=yF Try.prog Try.f25 (K25 cl ⟨25,none,Try.f25.ntmps,X 25⟩ (zQ 0 [a0,a1] .nil) [] s) :=
  zX (b:=Try.f25.body.getD .skip) (by kernel_rfl) (by kernel_rfl) (by kernel_rfl) (by kernel_rfl) (by kernel_rfl)
def K35r0:zF:=(zC (.tmp 6) (zE (.con (.int .i64 0))) zK)
def K35r1:zF:=(zC (.tmp 7) (zE (.tmp 1)) (zC (.tmp 8) (zE (.tmp 0)) (zC (.tmp 9) (zE (.tmp 2)) (zC (.tmp 10) (zE (.tmp 1)) (zC (.tmp 11) (zq wF (.tmp 9) (.tmp 10)) (zC (.tmp 12) (zq jK (.tmp 11) (.con (.int .i64 1))) (jC (.tmp 13) (.con (.func 25 [] [])) [(.tmp 8),(.tmp 12)] (zC (.tmp 14) (zq jK (.tmp 7) (.tmp 13)) (zC (.tmp 6) (zE (.tmp 14)) zK)))))))))
theorem res35:Try.f35.results.toList=[.tmp 6]:=by kernel_rfl
def K35:K:=(zH (zD K35r0 [6]) (zH (zD K35r1 [6]) jT))
theorem enter35 (cl:zR) (a0 a1 a2:AV) (s:St):za Try.prog X cl 35 [a0,a1,a2] s Try.f35=yF Try.prog Try.f35 (K35 cl ⟨35,none,Try.f35.ntmps,X 35⟩ (zQ 0 [a0,a1,a2] .nil) [] s) :=
  zX (b:=Try.f35.body.getD .skip) (by kernel_rfl) (by kernel_rfl) (by kernel_rfl) (by kernel_rfl) (by kernel_rfl)
def K22r0:zF:=(zC (.tmp 4) (zE (.con (.bool false))) zK)
def K22r1:zF:=(zC (.tmp 5) (zE (.tmp 0)) (zC (.tmp 6) (zE (.tmp 1)) (jC (.tmp 7) (.con (.func 25 [] [])) [(.tmp 5),(.tmp 6)] (zC (.tmp 8) (zq aEql (.tmp 7) (.con (.int .i64 0))) (zC (.tmp 4) (zE (.tmp 8)) zK)))))
theorem res22:Try.f22.results.toList=[.tmp 4]:=by kernel_rfl
def K22:K:=(zH (zD K22r0 [4]) (zH (zD K22r1 [4]) jT))
theorem enter22 (cl:zR) (a0 a1:AV) (s:St):za Try.prog X cl 22 [a0,a1] s Try.f22=yF Try.prog Try.f22 (K22 cl ⟨22,none,Try.f22.ntmps,X 22⟩ (zQ 0 [a0,a1] .nil) [] s) :=
  zX (b:=Try.f22.body.getD .skip) (by kernel_rfl) (by kernel_rfl) (by kernel_rfl) (by kernel_rfl) (by kernel_rfl)
def K34r0:zF:=(zC (.tmp 4) (zE (.con (.int .i64 0))) zK)
def K34r1:zF:=(zC (.tmp 5) (zE (.tmp 1)) (zC (.tmp 6) (kUn jH (.tmp 5)) (zC (.tmp 7) (zq aEql (.tmp 6) (.con (.int .i64 0))) zK)))
def K34r2:zF:=(zC (.tmp 4) (zE (.con (.int .i64 0))) zK)
def K34r3:zF:=(zC (.tmp 8) (zE (.tmp 1)) (zC (.tmp 9) (zE (.tmp 0)) (zC (.tmp 10) (zE (.tmp 1)) (zC (.tmp 11) (kUn jH (.tmp 10)) (jC (.tmp 12) (.con (.func 25 [] [])) [(.tmp 9),(.tmp 11)] (zC (.tmp 13) (jO (yJ 1) (.tmp 8) (.tmp 12)) (zC (.tmp 14) (zL none (.tmp 13)) (zC (.tmp 4) (zE (.tmp 14)) zK))))))))
theorem res34:Try.f34.results.toList=[.tmp 4]:=by kernel_rfl
def K34:K:=(zH (zD K34r0 [4]) (zH (zH (zD K34r1 [7]) (jG (.tmp 7) (zH (zD K34r2 [4]) jT) jF)) (zH (zD K34r3 [4]) jT)))
theorem enter34 (cl:zR) (a0 a1:AV) (s:St):za Try.prog X cl 34 [a0,a1] s Try.f34=yF Try.prog Try.f34 (K34 cl ⟨34,none,Try.f34.ntmps,X 34⟩ (zQ 0 [a0,a1] .nil) [] s) :=
  zX (b:=Try.f34.body.getD .skip) (by kernel_rfl) (by kernel_rfl) (by kernel_rfl) (by kernel_rfl) (by kernel_rfl)
def K41r0:zF:=(zC (.tmp 6) (jP [(.int .i64 0),(.int .i64 0)] (tag 44)) zK)
def K41r1:zF:=(zC (.tmp 9) (zE (.tmp 0)) (zC (.tmp 10) (zE (.tmp 1)) (zC (.tmp 11) (zE (.tmp 2)) (jC (.tmp 12) (.con (.func 35 [] [])) [(.tmp 9),(.tmp 10),(.tmp 11)] (zC (.tmp 7) (zE (.tmp 12)) zK)))))
def K41r2:zF:=(zC (.tmp 13) (zE (.tmp 0)) (zC (.tmp 14) (zE (.tmp 7)) (zC (.tmp 15) (zE (.tmp 2)) (zC (.tmp 16) (zE (.tmp 7)) (zC (.tmp 17) (zq jK (.tmp 16) (.con (.int .i64 4))) (zC (.tmp 18) (Jj minA (.tmp 15) [(.tmp 17)]) (zC (.tmp 19) (zE (.tmp 2)) (zC (.tmp 20) (ze [(.int .i64 0),(.int .i64 0),(.int .i64 0)] 3 [(0,1,(.tmp 14)),(1,1,(.tmp 18)),(2,1,(.tmp 19))]) (jC (.tmp 21) (.con (.func 34 [] [])) [(.tmp 13),(.tmp 20)] (zC (.tmp 8) (zE (.tmp 21)) zK))))))))))
def K41r3:zF:=(zC (.tmp 22) (zE (.tmp 7)) (zC (.tmp 23) (zE (.tmp 0)) (zC (.tmp 24) (zE (.tmp 7)) (zC (.tmp 25) (zE (.tmp 8)) (jC (.tmp 26) (.con (.func 35 [] [])) [(.tmp 23),(.tmp 24),(.tmp 25)] (zC (.tmp 27) (yX [(.int .i64 0),(.int .i64 0)] [(0,1,(.tmp 22)),(1,1,(.tmp 26))]) (zC .none (zz 2 (.tmp 6) (.tmp 27)) zK)))))))
theorem res41:Try.f41.results.toList=[.cell 6 44]:=by kernel_rfl
def K41:K:=(zH (zD K41r0 [6]) (zH (zD K41r1 [7]) (zH (zD K41r2 [8]) (zH (zD K41r3 []) jT))))
theorem enter41 (cl:zR) (a0 a1 a2:AV) (s:St):za Try.prog X cl 41 [a0,a1,a2] s Try.f41=yF Try.prog Try.f41 (K41 cl ⟨41,none,Try.f41.ntmps,X 41⟩ (zQ 0 [a0,a1,a2] .nil) [] s) :=
  zX (b:=Try.f41.body.getD .skip) (by kernel_rfl) (by kernel_rfl) (by kernel_rfl) (by kernel_rfl) (by kernel_rfl)
end
end Go.Proofs.Ytoklbkgcclkejaa.code
set_option maxRecDepth 100000
namespace Go.Proofs.Ytoklbkgcclkejaa.code
open Go.Abs
noncomputable section
def K11r0:zF:=(zC (.tmp 8) (jP [(.int .i64 0),(.int .i64 0),.nilslice,.nilslice,(.int .i64 0),(.int .i64 0),.nilslice,.nilslice] (tag 30)) zK)
def K11r1:zF:=(zC (.tmp 17) (zE (.tmp 0)) (zC (.tmp 18) (zE (.tmp 1)) (jC (.tmp 19) (.con (.func 35 [] [])) [(.tmp 17),(.con (.int .i64 1)),(.tmp 18)] (zC (.tmp 20) (zE (.tmp 0)) (zC (.tmp 21) (zE (.tmp 2)) (jC (.tmp 22) (.con (.func 35 [] [])) [(.tmp 20),(.con (.int .i64 1)),(.tmp 21)] (zC (.tmp 23) (yX [(.int .i64 0),(.int .i64 0),.nilslice,.nilslice,(.int .i64 0),(.int .i64 0),.nilslice,.nilslice] [(0,1,(.tmp 19)),(1,1,(.tmp 22))]) (zC (.tmp 9) (jP [(.int .i64 0),(.int .i64 0),.nilslice,.nilslice,(.int .i64 0),(.int .i64 0),.nilslice,.nilslice] (tag 30)) (zC .none (zz 8 (.tmp 9) (.tmp 23)) zK)))))))))
def K11r2:zF:=(yz [] (zC (.tmp 24) (zE (.tmp 0)) (zC (.tmp 25) (kUn (zZ 0) (.tmp 9)) (zC (.tmp 26) (zL none (.tmp 25)) (jW (some [29]) (.tmp 27) (.con (.func 35 [] [])) [(.tmp 24),(.con (.int .i64 1)),(.tmp 26)] (zC (.tmp 28) (zE (.tmp 0)) (zC (.tmp 29) (kUn (zZ 1) (.tmp 9)) (zC (.tmp 30) (zL none (.tmp 29)) (jC (.tmp 31) (.con (.func 35 [] [])) [(.tmp 28),(.con (.int .i64 1)),(.tmp 30)] (zC (.tmp 32) (yX [(.int .i64 0),(.int .i64 0)] [(0,1,(.tmp 27)),(1,1,(.tmp 31))]) (zC (.tmp 33) (kUn (zZ 4) (.tmp 9)) (zC .none (zz 2 (.tmp 33) (.tmp 32)) zK))))))))))))
def K11r3:zF:=(zC (.tmp 34) (zL (some 8) (.tmp 9)) (jC (.tmp 35) (.con (.func 40 [] [])) [(.tmp 34)] (zC (.tmp 10) (zE (.tmp 35)) zK)))
def K11r4:zF:=(zC (.tmp 11) (zE (.con (.int .i64 0))) zK)
def K11r5:zF:=(zC (.tmp 36) (zE (.tmp 11)) (zC (.tmp 37) (zE (.tmp 10)) (zC (.tmp 38) (kUn jH (.tmp 37)) (zC (.tmp 39) (zq vH (.tmp 36) (.tmp 38)) zK))))
def K11r6:zF:=(zC (.tmp 42) (zE (.tmp 0)) (jC (.tmp 43) (.con (.func 22 [] [])) [(.tmp 42),(.con (.int .i64 2))] zK))
def K11r7:zF:=(yz [] (zC (.tmp 44) (kUn (zZ 2) (.tmp 9)) (zC (.tmp 45) (zL none (.tmp 44)) (zC (.tmp 46) (zE (.tmp 10)) (zC (.tmp 47) (zE (.tmp 11)) (zC (.tmp 48) (jO (yJ 2) (.tmp 46) (.tmp 47)) (zC (.tmp 49) (zL (some 2) (.tmp 48)) (zC (.tmp 50) (ze [(.int .i64 0),(.int .i64 0)] 1 [(0,2,(.tmp 49))]) (zC (.tmp 51) (jO (jZ false 2 16 (tag 27)) (.tmp 45) (.tmp 50)) (zC (.tmp 52) (kUn (zZ 2) (.tmp 9)) (zC .none (zz 1 (.tmp 52) (.tmp 51)) zK)))))))))))
def K11r8:zF:=(zC (.tmp 53) (zE (.tmp 0)) (jC (.tmp 54) (.con (.func 22 [] [])) [(.tmp 53),(.con (.int .i64 7))] zK))
def K11r9:zF:=(yz [] (zC (.tmp 55) (kUn (zZ 3) (.tmp 9)) (zC (.tmp 56) (zL none (.tmp 55)) (zC (.tmp 57) (zE (.tmp 10)) (zC (.tmp 58) (zE (.tmp 11)) (zC (.tmp 59) (jO (yJ 2) (.tmp 57) (.tmp 58)) (zC (.tmp 60) (zL (some 2) (.tmp 59)) (zC (.tmp 61) (ze [(.int .i64 0),(.int .i64 0)] 1 [(0,2,(.tmp 60))]) (zC (.tmp 62) (jO (jZ false 2 16 (tag 27)) (.tmp 56) (.tmp 61)) (zC (.tmp 63) (kUn (zZ 3) (.tmp 9)) (zC .none (zz 1 (.tmp 63) (.tmp 62)) zK)))))))))))
def K11r10:zF:=(zC (.tmp 40) (zE (.tmp 11)) (zC (.tmp 41) (zq jK (.tmp 40) (.con (.int .i64 1))) (zC (.tmp 11) (zE (.tmp 41)) zK)))
def K11l0:K:=(zH (zH (zD K11r5 [39]) (jG (.tmp 39) jF (yW 0))) (zH (zj 1 (zH (zH (zD K11r6 [43]) (jG (.tmp 43) (zv K11r7 []) jF)) (zH (zD K11r8 [54]) (jG (.tmp 54) (zv K11r9 []) jF)))) (zD K11r10 [11])))
def K11r11:zF:=(zC (.tmp 64) (zL (some 8) (.tmp 9)) (jC (.tmp 65) (.con (.func 36 [] [])) [(.tmp 64)] (zC (.tmp 12) (zE (.tmp 65)) zK)))
def K11r12:zF:=(zC (.tmp 66) (zE (.tmp 12)) (zC (.tmp 67) (kGtr (.tmp 66) (.con (.int .i64 0))) zK))
def K11r13:zF:=(yz [] (zC (.tmp 70) (kUn (zZ 6) (.tmp 9)) (zC (.tmp 71) (zL none (.tmp 70)) (zC (.tmp 72) (zE (.tmp 0)) (zC (.tmp 73) (zE (.tmp 0)) (jW (some [70]) (.tmp 74) (.con (.func 25 [] [])) [(.tmp 73),(.con (.int .i64 40))] (zC (.tmp 75) (zE (.tmp 0)) (jW (some [70]) (.tmp 76) (.con (.func 25 [] [])) [(.tmp 75),(.con (.int .i64 120))] (zC (.tmp 77) (ze [(.int .i64 0),(.int .i64 0),(.int .i64 0)] 3 [(0,1,(.tmp 74)),(1,1,(.tmp 76)),(2,1,(.con (.int .i64 300)))]) (jW (some [70]) (.tmp 78) (.con (.func 34 [] [])) [(.tmp 72),(.tmp 77)] (zC (.tmp 79) (ze [(.int .i64 0)] 1 [(0,1,(.tmp 78))]) (zC (.tmp 80) (jO (jZ false 1 8 (tag 3)) (.tmp 71) (.tmp 79)) (zC (.tmp 81) (kUn (zZ 6) (.tmp 9)) (zC .none (zz 1 (.tmp 81) (.tmp 80)) zK))))))))))))))
def K11r14:zF:=(zC (.tmp 68) (zE (.tmp 12)) (zC (.tmp 69) (zq wF (.tmp 68) (.con (.int .i64 1))) (zC (.tmp 12) (zE (.tmp 69)) zK)))
def K11l1:K:=(zH (zH (zD K11r12 [67]) (jG (.tmp 67) jF (yW 2))) (zH (zj 3 (zv K11r13 [])) (zD K11r14 [12])))
def K11r15:zF:=(zC (.tmp 82) (zE (.tmp 0)) (zC (.tmp 83) (zE (.tmp 3)) (jC (.tmp 84) (.con (.func 35 [] [])) [(.tmp 82),(.con (.int .i64 1)),(.tmp 83)] (zC (.tmp 13) (zE (.tmp 84)) zK))))
def K11r16:zF:=(zC (.tmp 14) (zE (.con (.int .i64 0))) zK)
def K11r17:zF:=(zC (.tmp 85) (zE (.tmp 14)) (zC (.tmp 86) (zE (.tmp 13)) (zC (.tmp 87) (zq vH (.tmp 85) (.tmp 86)) zK)))
def K11r18:zF:=(zC (.tmp 90) (zE (.tmp 0)) (zC (.tmp 91) (zE (.tmp 0)) (zC (.tmp 92) (ze [(.int .i64 0),(.int .i64 0)] 2 [(0,1,(.con (.int .i64 5))),(1,1,(.con (.int .i64 60)))]) (jC (.tmp 93) (.con (.func 34 [] [])) [(.tmp 91),(.tmp 92)] (jC (.tmp 94) (.con (.func 41 [] [])) [(.tmp 90),(.con (.int .i64 0)),(.tmp 93)] (zC (.tmp 95) (zE (.tmp 0)) (jC (.tmp 96) (.con (.func 22 [] [])) [(.tmp 95),(.con (.int .i64 3))] (zC (.tmp 97) (zE (.tmp 0)) (jC (.tmp 98) (.con (.func 25 [] [])) [(.tmp 97),(.con (.int .i64 50))] (zC (.tmp 99) (zE (.tmp 0)) (jC (.tmp 100) (.con (.func 35 [] [])) [(.tmp 99),(.con (.int .i64 1)),(.con (.int .i64 5))] (zC (.tmp 101) (yX [(.int .i64 0),(.int .i64 0),(.bool false),.nilslice,(.int .i64 0),(.int .i64 0)] [(0,2,(.tmp 94)),(2,1,(.tmp 96)),(4,1,(.tmp 98)),(5,1,(.tmp 100))]) (zC (.tmp 15) (jP [(.int .i64 0),(.int .i64 0),(.bool false),.nilslice,(.int .i64 0),(.int .i64 0)] (tag 49)) (zC .none (zz 6 (.tmp 15) (.tmp 101)) zK))))))))))))))
def K11r19:zF:=(zC (.tmp 16) (zE (.con (.int .i64 0))) zK)
def K11r20:zF:=(zC (.tmp 102) (zE (.tmp 16)) (zC (.tmp 103) (zE (.tmp 13)) (zC (.tmp 104) (zq vH (.tmp 102) (.tmp 103)) zK)))
def K11r21:zF:=(yz [] (zC (.tmp 107) (kUn (zZ 3) (.tmp 15)) (zC (.tmp 108) (zL none (.tmp 107)) (zC (.tmp 109) (zE (.tmp 0)) (zC (.tmp 110) (zE (.tmp 0)) (jW (some [107]) (.tmp 111) (.con (.func 25 [] [])) [(.tmp 110),(.con (.int .i64 4))] (zC (.tmp 112) (ze [(.int .i64 0),(.int .i64 0),(.int .i64 0)] 3 [(0,1,(.con (.int .i64 0))),(1,1,(.con (.int .i64 0))),(2,1,(.tmp 111))]) (jW (some [107]) (.tmp 113) (.con (.func 34 [] [])) [(.tmp 109),(.tmp 112)] (zC (.tmp 114) (ze [(.int .i64 0)] 1 [(0,1,(.tmp 113))]) (zC (.tmp 115) (jO (jZ false 1 8 (tag 3)) (.tmp 108) (.tmp 114)) (zC (.tmp 116) (kUn (zZ 3) (.tmp 15)) (zC .none (zz 1 (.tmp 116) (.tmp 115)) zK))))))))))))
def K11r22:zF:=(zC (.tmp 105) (zE (.tmp 16)) (zC (.tmp 106) (zq jK (.tmp 105) (.con (.int .i64 1))) (zC (.tmp 16) (zE (.tmp 106)) zK)))
def K11l2:K:=(zH (zH (zD K11r20 [104]) (jG (.tmp 104) jF (yW 6))) (zH (zj 7 (zv K11r21 [])) (zD K11r22 [16])))
def K11r23:zF:=(zC (.tmp 117) (kUn (zZ 7) (.tmp 9)) (zC (.tmp 118) (zL none (.tmp 117)) (zC (.tmp 119) (zL (some 6) (.tmp 15)) (zC (.tmp 120) (ze [(.int .i64 0),(.int .i64 0),(.bool false),.nilslice,(.int .i64 0),(.int .i64 0)] 1 [(0,6,(.tmp 119))]) (zC (.tmp 121) (jO (jZ false 6 64 (tag 49)) (.tmp 118) (.tmp 120)) (zC (.tmp 122) (kUn (zZ 7) (.tmp 9)) (zC .none (zz 1 (.tmp 122) (.tmp 121)) zK)))))))
def K11r24:zF:=(zC (.tmp 88) (zE (.tmp 14)) (zC (.tmp 89) (zq jK (.tmp 88) (.con (.int .i64 1))) (zC (.tmp 14) (zE (.tmp 89)) zK)))
def K11l3:K:=(zH (zH (zD K11r17 [87]) (jG (.tmp 87) jF (yW 4))) (zH (zj 5 (zH (zD K11r18 [15]) (zH (zH (zD K11r19 [16]) (zj 6 (yR K11l2))) (zD K11r23 [])))) (zD K11r24 [14])))
def K11r25:zF:=(zC (.tmp 123) (zL (some 8) (.tmp 9)) (zC .none (zz 8 (.tmp 8) (.tmp 123)) zK))
theorem res11:Try.f11.results.toList=[.cell 8 30]:=by kernel_rfl
def K11:K:=(zH (zD K11r0 [8]) (zH (zD K11r1 [9]) (zH (zv K11r2 []) (zH (zD K11r3 [10]) (zH (zH (zD K11r4 [11]) (zj 0 (yR K11l0))) (zH (zH (zD K11r11 [12]) (zj 2 (yR K11l1))) (zH (zD K11r15 [13]) (zH (zH (zD K11r16 [14]) (zj 4 (yR K11l3))) (zH (zD K11r25 []) jT)))))))))
theorem enter11 (cl:zR) (a0 a1 a2 a3:AV) (s:St):za Try.prog X cl 11 [a0,a1,a2,a3] s Try.f11=yF Try.prog Try.f11 (K11 cl ⟨11,none,Try.f11.ntmps,X 11⟩ (zQ 0 [a0,a1,a2,a3] .nil) [] s) :=
  zX (b:=Try.f11.body.getD .skip) (by kernel_rfl) (by kernel_rfl) (by kernel_rfl) (by kernel_rfl) (by kernel_rfl)
def K40r0:zF:=(zC (.tmp 1) (yY (tag 30) (.tmp 0)) (zC (.tmp 2) (zE (.con .nilslice)) zK))
def K40r1:zF:=(zC (.tmp 3) (zE (.con .nilslice)) zK)
def K40r2:zF:=(zC (.tmp 4) (zE (.con (.int .i64 0))) zK)
def K40r3:zF:=(zC (.tmp 6) (zE (.tmp 4)) (zC (.tmp 7) (kUn (zZ 1) (.tmp 1)) (zC (.tmp 8) (zL none (.tmp 7)) (zC (.tmp 9) (zq vH (.tmp 6) (.tmp 8)) zK))))
def K40r4:zF:=(zC (.tmp 5) (zE (.con (.int .i64 0))) zK)
def K40r5:zF:=(zC (.tmp 12) (zE (.tmp 5)) (zC (.tmp 13) (kUn (zZ 0) (.tmp 1)) (zC (.tmp 14) (zL none (.tmp 13)) (zC (.tmp 15) (zq vH (.tmp 12) (.tmp 14)) zK))))
def K40r6:zF:=(zC (.tmp 18) (zE (.tmp 3)) (zC (.tmp 19) (zE (.tmp 5)) (zC (.tmp 20) (zE (.tmp 4)) (zC (.tmp 21) (yX [(.int .i64 0),(.int .i64 0)] [(0,1,(.tmp 19)),(1,1,(.tmp 20))]) (zC (.tmp 22) (ze [(.int .i64 0),(.int .i64 0)] 1 [(0,2,(.tmp 21))]) (zC (.tmp 23) (jO (jZ false 2 16 (tag 27)) (.tmp 18) (.tmp 22)) (zC (.tmp 3) (zE (.tmp 23)) zK)))))))
def K40r7:zF:=(zC (.tmp 16) (zE (.tmp 5)) (zC (.tmp 17) (zq jK (.tmp 16) (.con (.int .i64 1))) (zC (.tmp 5) (zE (.tmp 17)) zK)))
def K40l0:K:=(zH (zH (zD K40r5 [15]) (jG (.tmp 15) jF (yW 2))) (zH (zj 3 (zD K40r6 [3])) (zD K40r7 [5])))
def K40r8:zF:=(zC (.tmp 10) (zE (.tmp 4)) (zC (.tmp 11) (zq jK (.tmp 10) (.con (.int .i64 1))) (zC (.tmp 4) (zE (.tmp 11)) zK)))
def K40l1:K:=(zH (zH (zD K40r3 [9]) (jG (.tmp 9) jF (yW 0))) (zH (zj 1 (zH (zD K40r4 [5]) (zj 2 (yR K40l0)))) (zD K40r8 [4])))
def K40r9:zF:=(zC (.tmp 24) (zE (.tmp 3)) (zC (.tmp 2) (zE (.tmp 24)) zK))
theorem res40:Try.f40.results.toList=[.tmp 2]:=by kernel_rfl
def K40:K:=(zH (zD K40r0 [1,2]) (zH (zD K40r1 [3]) (zH (zH (zD K40r2 [4]) (zj 0 (yR K40l1))) (zH (zD K40r9 [2]) jT))))
theorem enter40 (cl:zR) (a0:AV) (s:St):za Try.prog X cl 40 [a0] s Try.f40=yF Try.prog Try.f40 (K40 cl ⟨40,none,Try.f40.ntmps,X 40⟩ (zQ 0 [a0] .nil) [] s) :=
  zX (b:=Try.f40.body.getD .skip) (by kernel_rfl) (by kernel_rfl) (by kernel_rfl) (by kernel_rfl) (by kernel_rfl)
def K36r0:zF:=(zC (.tmp 1) (yY (tag 30) (.tmp 0)) (zC (.tmp 2) (zE (.con (.int .i64 0))) zK))
def K36r1:zF:=(zC (.tmp 3) (zL (some 8) (.tmp 1)) (zC (.tmp 4) (kUn (zZ 0) (.tmp 1)) (zC (.tmp 5) (zL none (.tmp 4)) (zC (.tmp 6) (zq wF (.tmp 5) (.con (.int .i64 1))) (zC (.tmp 7) (kUn (zZ 1) (.tmp 1)) (zC (.tmp 8) (zL none (.tmp 7)) (zC (.tmp 9) (zq wF (.tmp 8) (.con (.int .i64 1))) (zC (.tmp 10) (yX [(.int .i64 0),(.int .i64 0)] [(0,1,(.tmp 6)),(1,1,(.tmp 9))]) (jC (.tmp 11) (.con (.func 47 [] [])) [(.tmp 3),(.tmp 10)] (zC (.tmp 12) (zq jK (.tmp 11) (.con (.int .i64 1))) (zC (.tmp 2) (zE (.tmp 12)) zK)))))))))))
theorem res36:Try.f36.results.toList=[.tmp 2]:=by kernel_rfl
def K36:K:=(zH (zD K36r0 [1,2]) (zH (zD K36r1 [2]) jT))
theorem enter36 (cl:zR) (a0:AV) (s:St):za Try.prog X cl 36 [a0] s Try.f36=yF Try.prog Try.f36 (K36 cl ⟨36,none,Try.f36.ntmps,X 36⟩ (zQ 0 [a0] .nil) [] s) :=
  zX (b:=Try.f36.body.getD .skip) (by kernel_rfl) (by kernel_rfl) (by kernel_rfl) (by kernel_rfl) (by kernel_rfl)
def K47r0:zF:=(zC (.tmp 2) (yY (tag 30) (.tmp 0)) (zC (.tmp 3) (yY (tag 27) (.tmp 1)) (zC (.tmp 4) (zE (.con (.int .i64 0))) zK)))
def K47r1:zF:=(zC (.tmp 6) (kUn (zZ 0) (.tmp 2)) (zC (.tmp 7) (zL none (.tmp 6)) (zC (.tmp 8) (kUn (zZ 4) (.tmp 2)) (zC (.tmp 9) (kUn (zZ 0) (.tmp 8)) (zC (.tmp 10) (zL none (.tmp 9)) (zC (.tmp 11) (zq jK (.tmp 7) (.tmp 10)) (zC (.tmp 12) (zq wF (.tmp 11) (.con (.int .i64 1))) (zC (.tmp 13) (kUn (zZ 4) (.tmp 2)) (zC (.tmp 14) (kUn (zZ 0) (.tmp 13)) (zC (.tmp 15) (zL none (.tmp 14)) (zC (.tmp 16) (zq YZ (.tmp 12) (.tmp 15)) (zC (.tmp 5) (zE (.tmp 16)) zK))))))))))))
def K47r2:zF:=(yz [] (zC (.tmp 17) (kUn (zZ 1) (.tmp 3)) (zC (.tmp 18) (zL none (.tmp 17)) (zC (.tmp 19) (kUn (zZ 4) (.tmp 2)) (zC (.tmp 20) (kUn (zZ 1) (.tmp 19)) (zC (.tmp 21) (zL none (.tmp 20)) (zC (.tmp 22) (zq YZ (.tmp 18) (.tmp 21)) (zC (.tmp 23) (zE (.tmp 5)) (zC (.tmp 24) (zq aMul (.tmp 22) (.tmp 23)) (zC (.tmp 25) (kUn (zZ 0) (.tmp 3)) (zC (.tmp 26) (zL none (.tmp 25)) (zC (.tmp 27) (kUn (zZ 4) (.tmp 2)) (zC (.tmp 28) (kUn (zZ 0) (.tmp 27)) (zC (.tmp 29) (zL none (.tmp 28)) (zC (.tmp 30) (zq YZ (.tmp 26) (.tmp 29)) (zC (.tmp 31) (zq jK (.tmp 24) (.tmp 30)) (zC (.tmp 4) (zE (.tmp 31)) zK)))))))))))))))))
theorem res47:Try.f47.results.toList=[.tmp 4]:=by kernel_rfl
def K47:K:=(zH (zD K47r0 [2,3,4]) (zH (zD K47r1 [5]) (zH (zv K47r2 [4]) jT)))
theorem enter47 (cl:zR) (a0 a1:AV) (s:St):za Try.prog X cl 47 [a0,a1] s Try.f47=yF Try.prog Try.f47 (K47 cl ⟨47,none,Try.f47.ntmps,X 47⟩ (zQ 0 [a0,a1] .nil) [] s) :=
  zX (b:=Try.f47.body.getD .skip) (by kernel_rfl) (by kernel_rfl) (by kernel_rfl) (by kernel_rfl) (by kernel_rfl)
end
end Go.Proofs.Ytoklbkgcclkejaa.code
set_option maxRecDepth 100000
namespace Go.Proofs.Ytoklbkgcclkejaa.code
open Go.Abs
noncomputable section
end
end Go.Proofs.Ytoklbkgcclkejaa.code
set_option maxRecDepth 100000
namespace Go.Proofs.Ytoklbkgcclkejaa.code
open Go.Abs
noncomputable section
end
end Go.Proofs.Ytoklbkgcclkejaa.code
set_option maxRecDepth 100000
namespace Go.Proofs.Ytoklbkgcclkejaa.code
open Go.Abs
noncomputable section
def K23r0:zF:=(zC (.tmp 2) (yY (tag 30) (.tmp 0)) (zC (.tmp 4) (zE (.con (.int .i64 0))) (zC (.tmp 5) (zE (.con (.int .i64 0))) zK)))
def K23r1:zF:=(zC (.tmp 10) (zL (some 8) (.tmp 2)) (zC (.tmp 11) (zE (.tmp 1)) (jC (.tmp 12) (.con (.func 43 [] [])) [(.tmp 10),(.tmp 11)] (zC (.tmp 6) (zE (.tmp 12)) zK))))
def K23r2:zF:=(zC (.tmp 13) (zE (.tmp 6)) (zC (.tmp 14) (zq Ya (.tmp 13) (.con (.int .i64 0))) zK))
def K23r3:zF:=(zC (.tmp 15) (zE (.tmp 6)) (zC (.tmp 4) (zE (.con (.int .i64 0))) (zC (.tmp 5) (zE (.tmp 15)) zK)))
def K23r4:zF:=(zC (.tmp 7) (zE (.con (.int .i64 0))) zK)
def K23r5:zF:=(zC (.tmp 16) (zE (.tmp 1)) (zC (.tmp 17) (kUn jH (.tmp 16)) (zC (.tmp 18) (zE (.con (.int .i64 0))) zK)))
def K23r6:zF:=(zC (.tmp 19) (zq vH (.tmp 18) (.tmp 17)) zK)
def K23r7:zF:=(zC (.tmp 20) (jO (yJ 3) (.tmp 16) (.tmp 18)) (zC (.tmp 21) (zL (some 3) (.tmp 20)) (zC (.tmp 9) (jP [(.int .i64 0),(.int .i64 0),(.int .i64 0)] (tag 51)) (zC .none (zz 3 (.tmp 9) (.tmp 21)) zK))))
def K23r8:zF:=(zC (.tmp 22) (zE (.tmp 7)) (zC (.tmp 23) (kUn (zZ 7) (.tmp 2)) (zC (.tmp 24) (zL none (.tmp 23)) (zC (.tmp 25) (kUn (zZ 2) (.tmp 9)) (zC (.tmp 26) (zL none (.tmp 25)) (zC (.tmp 27) (jO (yJ 6) (.tmp 24) (.tmp 26)) (zC (.tmp 28) (kUn (zZ 4) (.tmp 27)) (zC (.tmp 29) (zL none (.tmp 28)) (zC (.tmp 30) (zq jK (.tmp 22) (.tmp 29)) (zC (.tmp 7) (zE (.tmp 30)) zK))))))))))
def K23r9:zF:=(zC (.tmp 31) (zq jK (.tmp 18) (.con (.int .i64 1))) (zC (.tmp 18) (zE (.tmp 31)) zK))
def K23l0:K:=(zH (zD K23r6 [19]) (zH (jG (.tmp 19) jF (yW 0)) (zH (zj 1 (zH (zD K23r7 [9]) (zD K23r8 [7]))) (zD K23r9 [18]))))
def K23r10:zF:=(zC (.tmp 32) (zE (.tmp 7)) (zC (.tmp 4) (zE (.tmp 32)) (zC (.tmp 5) (zE (.con (.int .i64 0))) zK)))
theorem res23:Try.f23.results.toList=[.tmp 4,.tmp 5]:=by kernel_rfl
def K23:K:=(zH (zD K23r0 [2,4,5]) (zH (zH (zD K23r1 [6]) (zH (zD K23r2 [14]) (jG (.tmp 14) (zH (zD K23r3 [4,5]) jT) jF))) (zH (zD K23r4 [7]) (zH (zH (zD K23r5 [16,17,18]) (zj 0 (yR K23l0))) (zH (zD K23r10 [4,5]) jT)))))
theorem enter23 (cl:zR) (a0 a1:AV) (s:St):za Try.prog X cl 23 [a0,a1] s Try.f23=yF Try.prog Try.f23 (K23 cl ⟨23,none,Try.f23.ntmps,X 23⟩ (zQ 0 [a0,a1] .nil) [] s) :=
  zX (b:=Try.f23.body.getD .skip) (by kernel_rfl) (by kernel_rfl) (by kernel_rfl) (by kernel_rfl) (by kernel_rfl)
def K20r0:zF:=(zC (.tmp 4) (jP [(.int .i64 0),(.int .i64 0)] (tag 44)) zK)
def K20r1:zF:=(zC (.tmp 5) (zE (.tmp 0)) (zC (.tmp 6) (zE (.tmp 1)) (zC (.tmp 7) (yX [(.int .i64 0),(.int .i64 0)] [(0,1,(.tmp 5)),(1,1,(.tmp 6))]) (zC .none (zz 2 (.tmp 4) (.tmp 7)) zK))))
theorem res20:Try.f20.results.toList=[.cell 4 44]:=by kernel_rfl
def K20:K:=(zH (zD K20r0 [4]) (zH (zD K20r1 []) jT))
theorem enter20 (cl:zR) (a0 a1:AV) (s:St):za Try.prog X cl 20 [a0,a1] s Try.f20=yF Try.prog Try.f20 (K20 cl ⟨20,none,Try.f20.ntmps,X 20⟩ (zQ 0 [a0,a1] .nil) [] s) :=
  zX (b:=Try.f20.body.getD .skip) (by kernel_rfl) (by kernel_rfl) (by kernel_rfl) (by kernel_rfl) (by kernel_rfl)
end
end Go.Proofs.Ytoklbkgcclkejaa.code
set_option maxRecDepth 100000
namespace Go.Proofs.Ytoklbkgcclkejaa.code
open Go.Abs
noncomputable section
def K54r0:zF:=(zC (.tmp 5) (yY (tag 51) (.tmp 2)) (zC (.tmp 6) (zE (.con (.bool false))) zK))
def K54r1s21:zF:=(zC (.tmp 28) (vn (.tmp 23) (.tmp 27) (.con (.bool false))) (zC (.tmp 6) (zE (.tmp 28)) zK))
def K54r1s20:zF:=(oIf 23 true (jC (.tmp 27) (.con (.func 76 [] [])) [(.tmp 24),(.tmp 25),(.tmp 26)] K54r1s21) (jV (.tmp 27) K54r1s21))
def K54r1s19:zF:=(oIf 23 true (zC (.tmp 26) (zL (some 3) (.tmp 5)) K54r1s20) (jV (.tmp 26) K54r1s20))
def K54r1s18:zF:=(oIf 23 true (zC (.tmp 25) (zE (.tmp 1)) K54r1s19) (jV (.tmp 25) K54r1s19))
def K54r1s15:zF:=(zC (.tmp 22) (vn (.tmp 12) (.tmp 21) (.con (.bool false))) (zC (.tmp 23) (zE (.tmp 22)) (oIf 23 true (zC (.tmp 24) (zE (.tmp 0)) K54r1s18) (jV (.tmp 24) K54r1s18))))
def K54r1s14:zF:=(oIf 12 true (zC (.tmp 21) (zq vH (.tmp 16) (.tmp 20)) K54r1s15) (jV (.tmp 21) K54r1s15))
def K54r1s13:zF:=(oIf 12 true (zC (.tmp 20) (kUn (fldA none 5) (.tmp 19)) K54r1s14) (jV (.tmp 20) K54r1s14))
def K54r1s12:zF:=(oIf 12 true (jC (.tmp 19) (.con (.func 74 [] [])) [(.tmp 17),(.tmp 18)] K54r1s13) (jV (.tmp 19) K54r1s13))
def K54r1s11:zF:=(oIf 12 true (zC (.tmp 18) (zL (some 3) (.tmp 5)) K54r1s12) (jV (.tmp 18) K54r1s12))
def K54r1s10:zF:=(oIf 12 true (zC (.tmp 17) (zE (.tmp 0)) K54r1s11) (jV (.tmp 17) K54r1s11))
def K54r1s9:zF:=(oIf 12 true (jW (some [5]) (.tmp 16) (.con (.func 64 [] [])) [(.tmp 13),(.tmp 15)] K54r1s10) (jV (.tmp 16) K54r1s10))
def K54r1s8:zF:=(oIf 12 true (zC (.tmp 15) (zL none (.tmp 14)) K54r1s9) (jV (.tmp 15) K54r1s9))
def K54r1s7:zF:=(oIf 12 true (zC (.tmp 14) (kUn (zZ 2) (.tmp 5)) K54r1s8) (jV (.tmp 14) K54r1s8))
def K54r1:zF:=(yz [] (zC (.tmp 7) (zE (.tmp 0)) (zC (.tmp 8) (zE (.tmp 1)) (zC (.tmp 9) (zL (some 3) (.tmp 5)) (jC (.tmp 10) (.con (.func 63 [] [])) [(.tmp 7),(.tmp 8),(.tmp 9)] (zC (.tmp 11) (zq aEql (.tmp 10) (.con (.int .i64 0))) (zC (.tmp 12) (zE (.tmp 11)) (oIf 12 true (zC (.tmp 13) (zE (.tmp 1)) K54r1s7) (jV (.tmp 13) K54r1s7)))))))))
theorem res54:Try.f54.results.toList=[.tmp 6]:=by kernel_rfl
def K54:K:=(zH (zD K54r0 [5,6]) (zH (zv K54r1 [6]) jT))
theorem enter54 (cl:zR) (a0 a1 a2:AV) (s:St):za Try.prog X cl 54 [a0,a1,a2] s Try.f54=yF Try.prog Try.f54 (K54 cl ⟨54,none,Try.f54.ntmps,X 54⟩ (zQ 0 [a0,a1,a2] .nil) [] s) :=
  zX (b:=Try.f54.body.getD .skip) (by kernel_rfl) (by kernel_rfl) (by kernel_rfl) (by kernel_rfl) (by kernel_rfl)
def K76r0:zF:=(zC (.tmp 5) (yY (tag 51) (.tmp 2)) (zC (.tmp 6) (zE (.con (.bool false))) zK))
def K76r1:zF:=(zC (.tmp 11) (zE (.tmp 0)) (zC (.tmp 12) (zL (some 3) (.tmp 5)) (jC (.tmp 13) (.con (.func 72 [] [])) [(.tmp 11),(.tmp 12)] (zC (.tmp 14) (kUn (fldA none 2) (.tmp 13)) (zC (.tmp 7) (zE (.tmp 14)) zK)))))
def K76r2:zF:=(zC (.tmp 15) (zE (.tmp 0)) (zC (.tmp 16) (zL (some 3) (.tmp 5)) (jC (.tmp 17) (.con (.func 74 [] [])) [(.tmp 15),(.tmp 16)] (zC (.tmp 18) (kUn (fldA (some 2) 0) (.tmp 17)) (zC (.tmp 8) (jP [(.int .i64 0),(.int .i64 0)] (tag 44)) (zC .none (zz 2 (.tmp 8) (.tmp 18)) zK))))))
def K76r3:zF:=(zC (.tmp 19) (zE (.tmp 1)) (zC (.tmp 20) (kUn jH (.tmp 19)) (zC (.tmp 21) (zE (.con (.int .i64 0))) zK)))
def K76r4:zF:=(zC (.tmp 22) (zq vH (.tmp 21) (.tmp 20)) zK)
def K76r5:zF:=(zC (.tmp 23) (jO (yJ 3) (.tmp 19) (.tmp 21)) (zC (.tmp 24) (zL (some 3) (.tmp 23)) (zC (.tmp 10) (jP [(.int .i64 0),(.int .i64 0),(.int .i64 0)] (tag 51)) (zC .none (zz 3 (.tmp 10) (.tmp 24)) zK))))
def K76r6:zF:=(zC (.tmp 25) (zE (.tmp 0)) (zC (.tmp 26) (zL (some 3) (.tmp 10)) (jC (.tmp 27) (.con (.func 72 [] [])) [(.tmp 25),(.tmp 26)] (zC (.tmp 28) (kUn (fldA none 2) (.tmp 27)) (zC (.tmp 29) (zE (.tmp 7)) (zC (.tmp 30) (zq aEql (.tmp 28) (.tmp 29)) zK))))))
def K76r7:zF:=(yz [] (zC (.tmp 31) (zL (some 2) (.tmp 8)) (zC (.tmp 32) (zE (.tmp 0)) (zC (.tmp 33) (zL (some 3) (.tmp 10)) (jW (some [8]) (.tmp 34) (.con (.func 74 [] [])) [(.tmp 32),(.tmp 33)] (zC (.tmp 35) (kUn (fldA (some 2) 0) (.tmp 34)) (zC (.tmp 36) (ze [(.int .i64 0),(.int .i64 0),(.int .i64 0),(.int .i64 0)] 2 [(0,2,(.tmp 31)),(2,2,(.tmp 35))]) (jC (.tmp 37) (.con (.func 73 [] [])) [(.tmp 36)] (zC .none (zz 2 (.tmp 8) (.tmp 37)) zK)))))))))
def K76r8:zF:=(zC (.tmp 38) (zq jK (.tmp 21) (.con (.int .i64 1))) (zC (.tmp 21) (zE (.tmp 38)) zK))
def K76l0:K:=(zH (zD K76r4 [22]) (zH (jG (.tmp 22) jF (yW 0)) (zH (zj 1 (zH (zD K76r5 [10]) (zH (zD K76r6 [30]) (jG (.tmp 30) (zv K76r7 []) jF)))) (zD K76r8 [21]))))
def K76r9:zF:=(yz [] (zC (.tmp 39) (kUn (zZ 1) (.tmp 8)) (zC (.tmp 40) (zL none (.tmp 39)) (zC (.tmp 41) (zE (.tmp 0)) (zC (.tmp 42) (kUn vl (.tmp 41)) (zC (.tmp 43) (kUn (zZ 0) (.tmp 42)) (zC (.tmp 44) (kUn (zZ 6) (.tmp 43)) (zC (.tmp 45) (zL none (.tmp 44)) (zC (.tmp 46) (zE (.tmp 7)) (zC (.tmp 47) (jO (yJ 1) (.tmp 45) (.tmp 46)) (zC (.tmp 48) (zL none (.tmp 47)) (zC (.tmp 49) (zq aLeq (.tmp 40) (.tmp 48)) (zC (.tmp 6) (zE (.tmp 49)) zK)))))))))))))
theorem res76:Try.f76.results.toList=[.tmp 6]:=by kernel_rfl
def K76:K:=(zH (zD K76r0 [5,6]) (zH (zD K76r1 [7]) (zH (zD K76r2 [8]) (zH (zH (zD K76r3 [19,20,21]) (zj 0 (yR K76l0))) (zH (zv K76r9 [6]) jT)))))
theorem enter76 (cl:zR) (a0 a1 a2:AV) (s:St):za Try.prog X cl 76 [a0,a1,a2] s Try.f76=yF Try.prog Try.f76 (K76 cl ⟨76,none,Try.f76.ntmps,X 76⟩ (zQ 0 [a0,a1,a2] .nil) [] s) :=
  zX (b:=Try.f76.body.getD .skip) (by kernel_rfl) (by kernel_rfl) (by kernel_rfl) (by kernel_rfl) (by kernel_rfl)
end
end Go.Proofs.Ytoklbkgcclkejaa.code
set_option maxRecDepth 100000
namespace Go.Proofs.Ytoklbkgcclkejaa.code
open Go.Abs
noncomputable section
def K29r0:zF:=(zC (.tmp 1) (yY (tag 30) (.tmp 0)) (zC (.tmp 2) (zE (.con .nilslice)) (zC (.tmp 3) (zE (.con (.int .i64 0))) zK)))
def K29r1:zF:=(zC (.tmp 7) (zL (some 8) (.tmp 1)) (jC (.tmp 8) (.con (.func 55 [] [])) [(.tmp 7)] (zC (.tmp 4) (zE (.tmp 8)) zK)))
def K29r2:zF:=(zC (.tmp 9) (zE (.tmp 4)) (zC (.tmp 10) (zq Ya (.tmp 9) (.con (.int .i64 0))) zK))
def K29r3:zF:=(zC (.tmp 11) (zE (.tmp 4)) (zC (.tmp 2) (zE (.con .nilslice)) (zC (.tmp 3) (zE (.tmp 11)) zK)))
def K29r4:zF:=(zC (.tmp 12) (zL (some 8) (.tmp 1)) (jC (.tmp 13) (.con (.func 44 [] [])) [(.tmp 12)] (zC (.tmp 5) (zE (.tmp 13)) zK)))
def K29r5:zF:=(zC (.tmp 14) (zE (.tmp 5)) (jC (.tmp 15) (.con (.func 56 [] [])) [(.tmp 14)] (zC (.tmp 6) (zE (.tmp 15)) zK)))
def K29r6:zF:=(zC (.tmp 16) (zE (.tmp 6)) (zC (.tmp 17) (kUn jH (.tmp 16)) (zC (.tmp 18) (kGtr (.tmp 17) (.con (.int .i64 8))) zK)))
def K29r7:zF:=(zC (.tmp 2) (zE (.con .nilslice)) (zC (.tmp 3) (zE (.con (.int .i64 6))) zK))
def K29r8:zF:=(zC (.tmp 19) (zE (.tmp 5)) (zC (.tmp 20) (zE (.tmp 6)) (jC (.tmp 21) (.con (.func 57 [] [])) [(.tmp 19),(.tmp 20)] (zC (.tmp 2) (zE (.tmp 21)) (zC (.tmp 3) (zE (.con (.int .i64 0))) zK)))))
theorem res29:Try.f29.results.toList=[.tmp 2,.tmp 3]:=by kernel_rfl
def K29:K:=(zH (zD K29r0 [1,2,3]) (zH (zH (zD K29r1 [4]) (zH (zD K29r2 [10]) (jG (.tmp 10) (zH (zD K29r3 [2,3]) jT) jF))) (zH (zD K29r4 [5]) (zH (zD K29r5 [6]) (zH (zH (zD K29r6 [18]) (jG (.tmp 18) (zH (zD K29r7 [2,3]) jT) jF)) (zH (zD K29r8 [2,3]) jT))))))
theorem enter29 (cl:zR) (a0:AV) (s:St):za Try.prog X cl 29 [a0] s Try.f29=yF Try.prog Try.f29 (K29 cl ⟨29,none,Try.f29.ntmps,X 29⟩ (zQ 0 [a0] .nil) [] s) :=
  zX (b:=Try.f29.body.getD .skip) (by kernel_rfl) (by kernel_rfl) (by kernel_rfl) (by kernel_rfl) (by kernel_rfl)
def K56r0:zF:=(zC (.tmp 1) (yY (tag 78) (.tmp 0)) (zC (.tmp 2) (zE (.con .nilslice)) zK))
def K56r1:zF:=(zC (.tmp 3) (jP [.nilslice] (tag 25)) zK)
def K56r2:zF:=(zC (.tmp 5) (zL none (.tmp 1)) (zC (.tmp 6) (kUn vl (.tmp 5)) (zC (.tmp 7) (kUn (zZ 0) (.tmp 6)) (zC (.tmp 8) (zL (some 8) (.tmp 7)) (jC (.tmp 9) (.con (.func 53 [] [])) [(.tmp 8)] zK)))))
def K56r3:zF:=(zC (.tmp 27) (zL none (.tmp 3)) (zC (.tmp 2) (zE (.tmp 27)) zK))
theorem res56:Try.f56.results.toList=[.tmp 2]:=by kernel_rfl
def K56:K:=(zH (zD K56r0 [1,2]) (zH (zD K56r1 [3]) (zH (zH (zD K56r2 [9]) (zj 0 (wh (.tmp 9) [10] (yU Try.f56 0).1 (yU Try.f56 0).2))) (zH (zD K56r3 [2]) jT))))
theorem enter56 (cl:zR) (a0:AV) (s:St):za Try.prog X cl 56 [a0] s Try.f56=yF Try.prog Try.f56 (K56 cl ⟨56,none,Try.f56.ntmps,X 56⟩ (zQ 0 [a0] .nil) [] s) :=
  zX (b:=Try.f56.body.getD .skip) (by kernel_rfl) (by kernel_rfl) (by kernel_rfl) (by kernel_rfl) (by kernel_rfl)
def K56a0r0:zF:=(zC (.tmp 4) (jP [(.int .i64 0),(.int .i64 0)] (tag 27)) (zC .none (zz 2 (.tmp 4) (.tmp 10)) zK))
def K56a0:K:=(zD K56a0r0 [4])
theorem code56a0:jX Try.prog (X 56) Try.f56.ntmps (yU Try.f56 0).1=some K56a0:=by kernel_rfl
def K56b0r0:zF:=(yz [] (zC (.tmp 11) (zL none (.tmp 1)) (zC (.tmp 12) (kUn (zZ 1) (.tmp 4)) (zC (.tmp 13) (zL none (.tmp 12)) (zC (.tmp 14) (kUn (zZ 0) (.tmp 4)) (zC (.tmp 15) (zL none (.tmp 14)) (zC (.tmp 16) (kUn vl (.tmp 11)) (zC (.tmp 17) (kUn (zZ 8) (.tmp 16)) (zC (.tmp 18) (jO (ixaA 4 18) (.tmp 17) (.tmp 13)) (zC (.tmp 19) (jO (ixaA 6 3) (.tmp 18) (.tmp 15)) (zC (.tmp 20) (kUn (zZ 1) (.tmp 19)) (zC (.tmp 21) (zL none (.tmp 20)) (zC (.tmp 22) (kUn notA (.tmp 21)) zK)))))))))))))
def K56b0r1:zF:=(zC (.tmp 23) (zL none (.tmp 3)) (zC (.tmp 24) (zL (some 2) (.tmp 4)) (zC (.tmp 25) (ze [(.int .i64 0),(.int .i64 0)] 1 [(0,2,(.tmp 24))]) (zC (.tmp 26) (jO (jZ false 2 16 (tag 27)) (.tmp 23) (.tmp 25)) (zC .none (zz 1 (.tmp 3) (.tmp 26)) zK)))))
def K56b0:K:=(zj 1 (zH (zv K56b0r0 [22]) (jG (.tmp 22) (zD K56b0r1 []) jF)))
theorem code56b0:jX Try.prog (X 56) Try.f56.ntmps (yU Try.f56 0).2=some K56b0:=by kernel_rfl
def K57r0:zF:=(zC (.tmp 2) (yY (tag 78) (.tmp 0)) (zC (.tmp 3) (yY (tag 25) (.tmp 1)) (zC (.tmp 4) (zE (.con .nilslice)) zK)))
def K57r1:zF:=(zC (.tmp 9) (zL none (.tmp 2)) (zC (.tmp 10) (zL none (.tmp 3)) (jC (.tmp 11) (.con (.func 81 [] [])) [(.tmp 9),(.tmp 10)] (zC (.tmp 5) (jP [.nilslice] (tag 117)) (zC .none (zz 1 (.tmp 5) (.tmp 11)) zK)))))
def K57r2:zF:=(zC (.tmp 6) (jP [(.int .i64 0),(.int .i64 0)] (tag 120)) zK)
def K57r3:zF:=(zC (.tmp 7) (jP [.nilslice] (tag 32)) zK)
def K57r4:zF:=(zC (.tmp 8) (jP [.nilfunc] (tag 121)) zK)
def K57r5:zF:=(zC (.tmp 12) (JG 82 [] [(.tmp 6),(.tmp 7),(.tmp 5),(.tmp 2),(.tmp 3),(.tmp 8)]) (zC .none (zz 1 (.tmp 8) (.tmp 12)) zK))
def K57r6:zF:=(zC (.tmp 13) (zL none (.tmp 8)) (zC (.tmp 14) (yX [(.int .i64 0),(.int .i64 0)] []) (jC (.tmp 15) (.tmp 13) [(.con .nilslice),(.tmp 14),(.con (.int .i64 0))] zK)))
def K57r7:zF:=(zC (.tmp 16) (zL none (.tmp 7)) (zC (.tmp 4) (zE (.tmp 16)) zK))
theorem res57:Try.f57.results.toList=[.tmp 4]:=by kernel_rfl
def K57:K:=(zH (zD K57r0 [2,3,4]) (zH (zD K57r1 [5]) (zH (zD K57r2 [6]) (zH (zD K57r3 [7]) (zH (zD K57r4 [8]) (zH (zD K57r5 []) (zH (zD K57r6 []) (zH (zD K57r7 [4]) jT))))))))
theorem enter57 (cl:zR) (a0 a1:AV) (s:St):za Try.prog X cl 57 [a0,a1] s Try.f57=yF Try.prog Try.f57 (K57 cl ⟨57,none,Try.f57.ntmps,X 57⟩ (zQ 0 [a0,a1] .nil) [] s) :=
  zX (b:=Try.f57.body.getD .skip) (by kernel_rfl) (by kernel_rfl) (by kernel_rfl) (by kernel_rfl) (by kernel_rfl)
def K82r0:zF:=(zC (.tmp 10) (yY (tag 120) (.tmp 1)) zK)
def K82r1:zF:=(zC (.tmp 15) (zL (some 2) (.tmp 10)) (zC (.tmp 16) (zL (some 2) (.tmp 3)) (jC (.tmp 17) (.con (.func 83 [] [])) [(.tmp 15),(.tmp 16)] zK)))
def K82r2:zF:=(yz [] (zC (.tmp 18) (zL (some 2) (.tmp 10)) (zC (.tmp 19) (zE (.tmp 0)) (jW (some [10]) (.tmp 20) (.con (.func 84 [] [])) [(.tmp 19)] (zC .none (zz 2 (.tmp 3) (.tmp 18)) (zC .none (zz 1 (.tmp 4) (.tmp 20)) zK))))))
def K82r3:zF:=(yz [] (zC (.tmp 21) (zL (some 2) (.tmp 10)) (zC (.tmp 22) (zL none (.tmp 5)) (zC (.tmp 23) (zE (.tmp 2)) (zC (.tmp 24) (jO (yJ 2) (.tmp 22) (.tmp 23)) (zC (.tmp 25) (zL (some 2) (.tmp 24)) (jW (some [3]) (.tmp 26) (.con (.func 85 [] [])) [(.tmp 21),(.tmp 25)] (zC (.tmp 27) (zL (some 2) (.tmp 3)) (jC (.tmp 28) (.con (.func 83 [] [])) [(.tmp 26),(.tmp 27)] (zC (.tmp 29) (kUn notA (.tmp 28)) zK))))))))))
def K82r4:zF:=(zC (.tmp 30) (zL none (.tmp 6)) (zC (.tmp 31) (kUn vl (.tmp 30)) (zC (.tmp 32) (kUn (zZ 0) (.tmp 31)) (zC (.tmp 33) (kUn (zZ 7) (.tmp 32)) (zC (.tmp 34) (zL none (.tmp 33)) (zC (.tmp 35) (kUn jH (.tmp 34)) (zC (.tmp 36) (zE (.con (.int .i64 0))) zK)))))))
def K82r5:zF:=(zC (.tmp 37) (zq vH (.tmp 36) (.tmp 35)) zK)
def K82r6:zF:=(zC (.tmp 38) (zE (.tmp 36)) (zC (.tmp 39) (jO (yJ 6) (.tmp 34) (.tmp 36)) (zC (.tmp 40) (zL (some 6) (.tmp 39)) (zC (.tmp 13) (jP [(.int .i64 0),(.int .i64 0),(.bool false),.nilslice,(.int .i64 0),(.int .i64 0)] (tag 49)) (zC (.tmp 12) (zE (.tmp 38)) (zC .none (zz 6 (.tmp 13) (.tmp 40)) zK))))))
def K82r7:zF:=(zC (.tmp 41) (zL none (.tmp 7)) (zC (.tmp 42) (zE (.tmp 2)) (zC (.tmp 43) (jO (yJ 2) (.tmp 41) (.tmp 42)) (zC (.tmp 44) (zL (some 2) (.tmp 43)) (zC (.tmp 45) (zE (.tmp 12)) (zC (.tmp 46) (yX [(.int .i64 0),(.int .i64 0),(.int .i64 0)] [(0,2,(.tmp 44)),(2,1,(.tmp 45))]) (zC (.tmp 14) (jP [(.int .i64 0),(.int .i64 0),(.int .i64 0)] (tag 51)) (zC .none (zz 3 (.tmp 14) (.tmp 46)) zK))))))))
def K82r8:zF:=(zC (.tmp 47) (zL none (.tmp 6)) (zC (.tmp 48) (zE (.tmp 0)) (zC (.tmp 49) (zL (some 3) (.tmp 14)) (jC (.tmp 50) (.con (.func 54 [] [])) [(.tmp 47),(.tmp 48),(.tmp 49)] zK))))
def K82r9:zF:=(yz [(52,8),(52,10),(52,57)] (zC (.tmp 51) (zL none (.tmp 8)) (zC (.tmp 52) (zE (.tmp 0)) (zC (.tmp 53) (zL (some 3) (.tmp 14)) (zC (.tmp 54) (ze [(.int .i64 0),(.int .i64 0),(.int .i64 0)] 1 [(0,3,(.tmp 53))]) (zC (.tmp 55) (jO (jZ true 3 24 (tag 51)) (.tmp 52) (.tmp 54)) (zC (.tmp 56) (zL (some 2) (.tmp 10)) (zC (.tmp 57) (kUn (zZ 4) (.tmp 13)) (zC (.tmp 58) (zL none (.tmp 57)) (zC (.tmp 59) (yX [(.int .i64 0),(.int .i64 0)] [(0,1,(.tmp 58)),(1,1,(.con (.int .i64 1)))]) (jW (some [8]) (.tmp 60) (.con (.func 85 [] [])) [(.tmp 56),(.tmp 59)] (zC (.tmp 61) (zE (.tmp 2)) (zC (.tmp 62) (zq jK (.tmp 61) (.con (.int .i64 1))) (jC (.tmp 63) (.tmp 51) [(.tmp 55),(.tmp 60),(.tmp 62)] zK))))))))))))))
def K82r10:zF:=(zC (.tmp 64) (zq jK (.tmp 36) (.con (.int .i64 1))) (zC (.tmp 36) (zE (.tmp 64)) zK))
def K82l0:K:=(zH (zD K82r5 [37]) (zH (jG (.tmp 37) jF (yW 0)) (zH (zj 1 (zH (zD K82r6 [13,12]) (zH (zD K82r7 [14]) (zH (zD K82r8 [50]) (jG (.tmp 50) (zv K82r9 []) jF))))) (zD K82r10 [36]))))
def K82r11:zF:=(zC (.tmp 65) (zL none (.tmp 8)) (zC (.tmp 66) (zE (.tmp 0)) (zC (.tmp 67) (zL (some 2) (.tmp 10)) (zC (.tmp 68) (zE (.tmp 2)) (zC (.tmp 69) (zq jK (.tmp 68) (.con (.int .i64 1))) (jC (.tmp 70) (.tmp 65) [(.tmp 66),(.tmp 67),(.tmp 69)] zK))))))
theorem res82:Try.f82.results.toList=[]:=by kernel_rfl
def K82:K:=(zH (zD K82r0 [10]) (zH (zH (zD K82r1 [17]) (jG (.tmp 17) (zv K82r2 []) jF)) (zH (zH (zv K82r3 [29]) (jG (.tmp 29) jT jF)) (zH (zH (zD K82r4 [34,35,36]) (zj 0 (yR K82l0))) (zD K82r11 [])))))
theorem enter82 (cl:zR) (a0 a1 a2 a3 a4 a5 a6 a7 a8:AV) (s:St):za Try.prog X cl 82 [a0,a1,a2,a3,a4,a5,a6,a7,a8] s Try.f82=yF Try.prog Try.f82 (K82 cl ⟨82,none,Try.f82.ntmps,X 82⟩ (zQ 0 [a0,a1,a2,a3,a4,a5,a6,a7,a8] .nil) [] s) :=
  zX (b:=Try.f82.body.getD .skip) (by kernel_rfl) (by kernel_rfl) (by kernel_rfl) (by kernel_rfl) (by kernel_rfl)
def K81r0:zF:=(zC (.tmp 2) (yY (tag 78) (.tmp 0)) (zC (.tmp 4) (zE (.con .nilslice)) zK))
def K81r1:zF:=(zC (.tmp 12) (zE (.tmp 1)) (zC (.tmp 13) (kUn jH (.tmp 12)) (zC (.tmp 14) (zq jK (.tmp 13) (.con (.int .i64 1))) (zC (.tmp 15) (kMake [(.int .i64 0),(.int .i64 0)] 16 (.tmp 14) (.tmp 14)) (zC (.tmp 5) (jP [.nilslice] (tag 117)) (zC .none (zz 1 (.tmp 5) (.tmp 15)) zK))))))
def K81r2:zF:=(zC (.tmp 16) (zE (.tmp 1)) (jC (.tmp 17) (.con (.func 97 [] [])) [(.tmp 16)] zK))
def K81r3:zF:=(zC (.tmp 56) (zL none (.tmp 5)) (zC (.tmp 4) (zE (.tmp 56)) zK))
theorem res81:Try.f81.results.toList=[.tmp 4]:=by kernel_rfl
def K81:K:=(zH (zD K81r0 [2,4]) (zH (zD K81r1 [5]) (zH (zH (zD K81r2 [17]) (zj 0 (wh (.tmp 17) [18,19] (yU Try.f81 0).1 (yU Try.f81 0).2))) (zH (zD K81r3 [4]) jT))))
theorem enter81 (cl:zR) (a0 a1:AV) (s:St):za Try.prog X cl 81 [a0,a1] s Try.f81=yF Try.prog Try.f81 (K81 cl ⟨81,none,Try.f81.ntmps,X 81⟩ (zQ 0 [a0,a1] .nil) [] s) :=
  zX (b:=Try.f81.body.getD .skip) (by kernel_rfl) (by kernel_rfl) (by kernel_rfl) (by kernel_rfl) (by kernel_rfl)
def K81a0r0:zF:=(zC (.tmp 6) (zE (.tmp 18)) zK)
def K81a0r1:zF:=(zC (.tmp 7) (jP [(.int .i64 0),(.int .i64 0)] (tag 27)) (zC .none (zz 2 (.tmp 7) (.tmp 19)) zK))
def K81a0:K:=(zH (zD K81a0r0 [6]) (zD K81a0r1 [7]))
theorem code81a0:jX Try.prog (X 81) Try.f81.ntmps (yU Try.f81 0).1=some K81a0:=by kernel_rfl
def K81b0r0:zF:=(zC (.tmp 8) (jP [(.int .i64 0),(.int .i64 0)] (tag 120)) zK)
def K81b0r1:zF:=(zC (.tmp 20) (zL none (.tmp 2)) (zC (.tmp 21) (kUn vl (.tmp 20)) (zC (.tmp 22) (kUn (zZ 0) (.tmp 21)) (zC (.tmp 23) (kUn (zZ 7) (.tmp 22)) (zC (.tmp 24) (zL none (.tmp 23)) (zC (.tmp 25) (kUn jH (.tmp 24)) (zC (.tmp 26) (zE (.con (.int .i64 0))) zK)))))))
def K81b0r2:zF:=(zC (.tmp 27) (zq vH (.tmp 26) (.tmp 25)) zK)
def K81b0r3:zF:=(zC (.tmp 28) (zE (.tmp 26)) (zC (.tmp 29) (jO (yJ 6) (.tmp 24) (.tmp 26)) (zC (.tmp 30) (zL (some 6) (.tmp 29)) (zC (.tmp 10) (jP [(.int .i64 0),(.int .i64 0),(.bool false),.nilslice,(.int .i64 0),(.int .i64 0)] (tag 49)) (zC (.tmp 9) (zE (.tmp 28)) (zC .none (zz 6 (.tmp 10) (.tmp 30)) zK))))))
def K81b0r4:zF:=(zC (.tmp 31) (kUn (zZ 4) (.tmp 10)) (zC (.tmp 32) (zL none (.tmp 31)) (zC (.tmp 33) (yX [(.int .i64 0),(.int .i64 0)] [(0,1,(.tmp 32)),(1,1,(.con (.int .i64 1)))]) (zC (.tmp 11) (jP [(.int .i64 0),(.int .i64 0)] (tag 120)) (zC .none (zz 2 (.tmp 11) (.tmp 33)) zK)))))
def K81b0r5s9:zF:=(zC (.tmp 43) (vn (.tmp 37) (.tmp 42) (.con (.bool false))) zK)
def K81b0r5s8:zF:=(oIf 37 true (jC (.tmp 42) (.con (.func 54 [] [])) [(.tmp 38),(.con .nilslice),(.tmp 41)] K81b0r5s9) (jV (.tmp 42) K81b0r5s9))
def K81b0r5s7:zF:=(oIf 37 true (zC (.tmp 41) (yX [(.int .i64 0),(.int .i64 0),(.int .i64 0)] [(0,2,(.tmp 39)),(2,1,(.tmp 40))]) K81b0r5s8) (jV (.tmp 41) K81b0r5s8))
def K81b0r5s6:zF:=(oIf 37 true (zC (.tmp 40) (zE (.tmp 9)) K81b0r5s7) (jV (.tmp 40) K81b0r5s7))
def K81b0r5s5:zF:=(oIf 37 true (zC (.tmp 39) (zL (some 2) (.tmp 7)) K81b0r5s6) (jV (.tmp 39) K81b0r5s6))
def K81b0r5:zF:=(zC (.tmp 34) (zL (some 2) (.tmp 11)) (zC (.tmp 35) (zL (some 2) (.tmp 8)) (jC (.tmp 36) (.con (.func 83 [] [])) [(.tmp 34),(.tmp 35)] (zC (.tmp 37) (zE (.tmp 36)) (oIf 37 true (zC (.tmp 38) (zL none (.tmp 2)) K81b0r5s5) (jV (.tmp 38) K81b0r5s5))))))
def K81b0r6:zF:=(zC (.tmp 44) (zL (some 2) (.tmp 11)) (zC .none (zz 2 (.tmp 8) (.tmp 44)) zK))
def K81b0r7:zF:=(zC (.tmp 45) (zq jK (.tmp 26) (.con (.int .i64 1))) (zC (.tmp 26) (zE (.tmp 45)) zK))
def K81b0l0:K:=(zH (zD K81b0r2 [27]) (zH (jG (.tmp 27) jF (yW 2)) (zH (zj 3 (zH (zD K81b0r3 [10,9]) (zH (zD K81b0r4 [11]) (zH (zD K81b0r5 [43]) (jG (.tmp 43) (zD K81b0r6 []) jF))))) (zD K81b0r7 [26]))))
def K81b0r8:zF:=(yz [] (zC (.tmp 46) (zL none (.tmp 5)) (zC (.tmp 47) (zE (.tmp 6)) (zC (.tmp 48) (zL none (.tmp 5)) (zC (.tmp 49) (zE (.tmp 6)) (zC (.tmp 50) (zq jK (.tmp 49) (.con (.int .i64 1))) (zC (.tmp 51) (jO (yJ 2) (.tmp 48) (.tmp 50)) (zC (.tmp 52) (zL (some 2) (.tmp 51)) (zC (.tmp 53) (zL (some 2) (.tmp 8)) (jW (some [5]) (.tmp 54) (.con (.func 85 [] [])) [(.tmp 52),(.tmp 53)] (zC (.tmp 55) (jO (yJ 2) (.tmp 46) (.tmp 47)) (zC .none (zz 2 (.tmp 55) (.tmp 54)) zK))))))))))))
def K81b0:K:=(zj 1 (zH (zD K81b0r0 [8]) (zH (zH (zD K81b0r1 [24,25,26]) (zj 2 (yR K81b0l0))) (zv K81b0r8 []))))
theorem code81b0:jX Try.prog (X 81) Try.f81.ntmps (yU Try.f81 0).2=some K81b0:=by kernel_rfl
def K83r0:zF:=(zC (.tmp 2) (yY (tag 120) (.tmp 0)) (zC (.tmp 3) (yY (tag 120) (.tmp 1)) (zC (.tmp 4) (zE (.con (.bool false))) zK)))
def K83r1s18:zF:=(zC (.tmp 23) (vn (.tmp 10) (.con (.bool true)) (.tmp 22)) (zC (.tmp 4) (zE (.tmp 23)) zK))
def K83r1s17:zF:=(oIf 10 false (zC (.tmp 22) (vn (.tmp 16) (.tmp 21) (.con (.bool false))) K83r1s18) (jV (.tmp 22) K83r1s18))
def K83r1s16:zF:=(oIf 16 true (zC (.tmp 21) (zq vH (.tmp 18) (.tmp 20)) K83r1s17) (jV (.tmp 21) K83r1s17))
def K83r1s15:zF:=(oIf 16 true (zC (.tmp 20) (zL none (.tmp 19)) K83r1s16) (jV (.tmp 20) K83r1s16))
def K83r1s14:zF:=(oIf 16 true (zC (.tmp 19) (kUn (zZ 1) (.tmp 3)) K83r1s15) (jV (.tmp 19) K83r1s15))
def K83r1s13:zF:=(oIf 16 true (zC (.tmp 18) (zL none (.tmp 17)) K83r1s14) (jV (.tmp 18) K83r1s14))
def K83r1s12:zF:=(oIf 16 true (zC (.tmp 17) (kUn (zZ 1) (.tmp 2)) K83r1s13) (jV (.tmp 17) K83r1s13))
def K83r1s11:zF:=(oIf 10 false (zC (.tmp 16) (zE (.tmp 15)) K83r1s12) (jV (.tmp 16) K83r1s12))
def K83r1s10:zF:=(oIf 10 false (zC (.tmp 15) (zq aEql (.tmp 12) (.tmp 14)) K83r1s11) (jV (.tmp 15) K83r1s11))
def K83r1s9:zF:=(oIf 10 false (zC (.tmp 14) (zL none (.tmp 13)) K83r1s10) (jV (.tmp 14) K83r1s10))
def K83r1s8:zF:=(oIf 10 false (zC (.tmp 13) (kUn (zZ 0) (.tmp 3)) K83r1s9) (jV (.tmp 13) K83r1s9))
def K83r1s7:zF:=(oIf 10 false (zC (.tmp 12) (zL none (.tmp 11)) K83r1s8) (jV (.tmp 12) K83r1s8))
def K83r1:zF:=(zC (.tmp 5) (kUn (zZ 0) (.tmp 2)) (zC (.tmp 6) (zL none (.tmp 5)) (zC (.tmp 7) (kUn (zZ 0) (.tmp 3)) (zC (.tmp 8) (zL none (.tmp 7)) (zC (.tmp 9) (kGtr (.tmp 6) (.tmp 8)) (zC (.tmp 10) (zE (.tmp 9)) (oIf 10 false (zC (.tmp 11) (kUn (zZ 0) (.tmp 2)) K83r1s7) (jV (.tmp 11) K83r1s7))))))))
theorem res83:Try.f83.results.toList=[.tmp 4]:=by kernel_rfl
def K83:K:=(zH (zD K83r0 [2,3,4]) (zH (zD K83r1 [4]) jT))
theorem enter83 (cl:zR) (a0 a1:AV) (s:St):za Try.prog X cl 83 [a0,a1] s Try.f83=yF Try.prog Try.f83 (K83 cl ⟨83,none,Try.f83.ntmps,X 83⟩ (zQ 0 [a0,a1] .nil) [] s) :=
  zX (b:=Try.f83.body.getD .skip) (by kernel_rfl) (by kernel_rfl) (by kernel_rfl) (by kernel_rfl) (by kernel_rfl)
def K85r0:zF:=(zC (.tmp 2) (yY (tag 120) (.tmp 0)) (zC (.tmp 3) (yY (tag 120) (.tmp 1)) (zC (.tmp 4) (jP [(.int .i64 0),(.int .i64 0)] (tag 120)) zK)))
def K85r1:zF:=(zC (.tmp 5) (kUn (zZ 0) (.tmp 2)) (zC (.tmp 6) (zL none (.tmp 5)) (zC (.tmp 7) (kUn (zZ 0) (.tmp 3)) (zC (.tmp 8) (zL none (.tmp 7)) (zC (.tmp 9) (zq jK (.tmp 6) (.tmp 8)) (zC (.tmp 10) (kUn (zZ 1) (.tmp 2)) (zC (.tmp 11) (zL none (.tmp 10)) (zC (.tmp 12) (kUn (zZ 1) (.tmp 3)) (zC (.tmp 13) (zL none (.tmp 12)) (zC (.tmp 14) (zq jK (.tmp 11) (.tmp 13)) (zC (.tmp 15) (yX [(.int .i64 0),(.int .i64 0)] [(0,1,(.tmp 9)),(1,1,(.tmp 14))]) (zC .none (zz 2 (.tmp 4) (.tmp 15)) zK))))))))))))
theorem res85:Try.f85.results.toList=[.cell 4 120]:=by kernel_rfl
def K85:K:=(zH (zD K85r0 [2,3,4]) (zH (zD K85r1 []) jT))
theorem enter85 (cl:zR) (a0 a1:AV) (s:St):za Try.prog X cl 85 [a0,a1] s Try.f85=yF Try.prog Try.f85 (K85 cl ⟨85,none,Try.f85.ntmps,X 85⟩ (zQ 0 [a0,a1] .nil) [] s) :=
  zX (b:=Try.f85.body.getD .skip) (by kernel_rfl) (by kernel_rfl) (by kernel_rfl) (by kernel_rfl) (by kernel_rfl)
def K84r0:zF:=(zC (.tmp 2) (zE (.con .nilslice)) zK)
def K84r1:zF:=(zC (.tmp 3) (zE (.tmp 0)) (zC (.tmp 4) (kEql .nilS false (.tmp 3) (.con .nilslice)) zK))
def K84r2:zF:=(zC (.tmp 2) (zE (.con .nilslice)) zK)
def K84r3:zF:=(zC (.tmp 5) (ze [] 0 []) (zC (.tmp 6) (zE (.tmp 0)) (zC (.tmp 7) (jO (jZ false 3 24 (tag 51)) (.tmp 5) (.tmp 6)) (zC (.tmp 2) (zE (.tmp 7)) zK))))
theorem res84:Try.f84.results.toList=[.tmp 2]:=by kernel_rfl
def K84:K:=(zH (zD K84r0 [2]) (zH (zH (zD K84r1 [4]) (jG (.tmp 4) (zH (zD K84r2 [2]) jT) jF)) (zH (zD K84r3 [2]) jT)))
theorem enter84 (cl:zR) (a0:AV) (s:St):za Try.prog X cl 84 [a0] s Try.f84=yF Try.prog Try.f84 (K84 cl ⟨84,none,Try.f84.ntmps,X 84⟩ (zQ 0 [a0] .nil) [] s) :=
  zX (b:=Try.f84.body.getD .skip) (by kernel_rfl) (by kernel_rfl) (by kernel_rfl) (by kernel_rfl) (by kernel_rfl)
def K97r0:zF:=(zC (.tmp 1) (yY (tag 25) (.tmp 0)) (zC (.tmp 2) (zE (.con .nilfunc)) zK))
def K97r1:zF:=(zC (.tmp 3) (JG 103 [] [(.tmp 1)]) (zC (.tmp 2) (zE (.tmp 3)) zK))
theorem res97:Try.f97.results.toList=[.tmp 2]:=by kernel_rfl
def K97:K:=(zH (zD K97r0 [1,2]) (zH (zD K97r1 [2]) jT))
theorem enter97 (cl:zR) (a0:AV) (s:St):za Try.prog X cl 97 [a0] s Try.f97=yF Try.prog Try.f97 (K97 cl ⟨97,none,Try.f97.ntmps,X 97⟩ (zQ 0 [a0] .nil) [] s) :=
  zX (b:=Try.f97.body.getD .skip) (by kernel_rfl) (by kernel_rfl) (by kernel_rfl) (by kernel_rfl) (by kernel_rfl)
def K103r0:zF:=(zC (.tmp 4) (zL none (.tmp 1)) (zC (.tmp 5) (kUn jH (.tmp 4)) (zC (.tmp 6) (zq wF (.tmp 5) (.con (.int .i64 1))) (zC (.tmp 3) (zE (.tmp 6)) zK))))
def K103r1:zF:=(zC (.tmp 7) (zE (.tmp 3)) (zC (.tmp 8) (zq aGeq (.tmp 7) (.con (.int .i64 0))) zK))
def K103r2:zF:=(zC (.tmp 11) (zE (.tmp 0)) (zC (.tmp 12) (zE (.tmp 3)) (zC (.tmp 13) (zL none (.tmp 1)) (zC (.tmp 14) (zE (.tmp 3)) (zC (.tmp 15) (jO (yJ 2) (.tmp 13) (.tmp 14)) (zC (.tmp 16) (zL (some 2) (.tmp 15)) (jC (.tmp 17) (.tmp 11) [(.tmp 12),(.tmp 16)] (zC (.tmp 18) (kUn notA (.tmp 17)) zK))))))))
def K103r3:zF:=(zC (.tmp 9) (zE (.tmp 3)) (zC (.tmp 10) (zq wF (.tmp 9) (.con (.int .i64 1))) (zC (.tmp 3) (zE (.tmp 10)) zK)))
def K103l0:K:=(zH (zH (zD K103r1 [8]) (jG (.tmp 8) jF (yW 0))) (zH (zj 1 (zH (zD K103r2 [18]) (jG (.tmp 18) jT jF))) (zD K103r3 [3])))
theorem res103:Try.f103.results.toList=[]:=by kernel_rfl
def K103:K:=(zH (zD K103r0 [3]) (zj 0 (yR K103l0)))
theorem enter103 (cl:zR) (a0 a1:AV) (s:St):za Try.prog X cl 103 [a0,a1] s Try.f103=yF Try.prog Try.f103 (K103 cl ⟨103,none,Try.f103.ntmps,X 103⟩ (zQ 0 [a0,a1] .nil) [] s) :=
  zX (b:=Try.f103.body.getD .skip) (by kernel_rfl) (by kernel_rfl) (by kernel_rfl) (by kernel_rfl) (by kernel_rfl)
end
end Go.Proofs.Ytoklbkgcclkejaa.code
set_option maxRecDepth 100000
namespace Go.Proofs.Ytoklbkgcclkejaa.code
open Go.Abs
noncomputable section
end
end Go.Proofs.Ytoklbkgcclkejaa.code
set_option maxRecDepth 100000
namespace Go.Proofs.Ytoklbkgcclkejaa.code
open Go.Abs
noncomputable section
def K8r2:zF:=(zC (.tmp 20) (zE (.tmp 3)) (jC (.tmp 21) (.con (.func 11 [] [])) [(.tmp 20),(.con (.int .i64 3)),(.con (.int .i64 2)),(.con (.int .i64 2))] (zC (.tmp 4) (jP [(.int .i64 0),(.int .i64 0),.nilslice,.nilslice,(.int .i64 0),(.int .i64 0),.nilslice,.nilslice] (tag 30)) (zC .none (zz 8 (.tmp 4) (.tmp 21)) zK))))
def K8r3:zF:=(zC (.tmp 22) (zL (some 8) (.tmp 4)) (jC (.tmp 23) (.con (.func 33 [] [])) [(.tmp 22)] (zC (.tmp 5) (jP [(.int .i64 0),(.int .i64 0),.nilslice,.nilslice,(.int .i64 0),(.int .i64 0),.nilslice,.nilslice] (tag 30)) (zC .none (zz 8 (.tmp 5) (.tmp 23)) zK))))
def K8r4:zF:=(zC (.tmp 6) (zE (.con (.int .i64 0))) zK)
def K8r5:zF:=(zC (.tmp 24) (zE (.tmp 6)) (zC (.tmp 25) (kUn (zZ 6) (.tmp 5)) (zC (.tmp 26) (zL none (.tmp 25)) (zC (.tmp 27) (kUn jH (.tmp 26)) (zC (.tmp 28) (zq vH (.tmp 24) (.tmp 27)) zK)))))
def K8r6:zF:=(yz [] (zC (.tmp 31) (kUn (zZ 6) (.tmp 5)) (zC (.tmp 32) (zL none (.tmp 31)) (zC (.tmp 33) (zE (.tmp 6)) (zC (.tmp 34) (kUn (zZ 6) (.tmp 5)) (zC (.tmp 35) (zL none (.tmp 34)) (zC (.tmp 36) (zE (.tmp 6)) (zC (.tmp 37) (jO (yJ 1) (.tmp 35) (.tmp 36)) (zC (.tmp 38) (zL none (.tmp 37)) (zC (.tmp 39) (zE (.tmp 3)) (zC (.tmp 40) (zE (.tmp 3)) (jW (some [31,34,37]) (.tmp 41) (.con (.func 25 [] [])) [(.tmp 40),(.con (.int .i64 60))] (zC (.tmp 42) (ze [(.int .i64 0),(.int .i64 0)] 2 [(0,1,(.con (.int .i64 0))),(1,1,(.tmp 41))]) (jW (some [31,34,37]) (.tmp 43) (.con (.func 34 [] [])) [(.tmp 39),(.tmp 42)] (zC (.tmp 44) (zq jK (.tmp 38) (.tmp 43)) (zC (.tmp 45) (jO (yJ 1) (.tmp 32) (.tmp 33)) (zC .none (zz 1 (.tmp 45) (.tmp 44)) zK)))))))))))))))))
def K8r7:zF:=(zC (.tmp 29) (zE (.tmp 6)) (zC (.tmp 30) (zq jK (.tmp 29) (.con (.int .i64 1))) (zC (.tmp 6) (zE (.tmp 30)) zK)))
def K8l0:K:=(zH (zH (zD K8r5 [28]) (jG (.tmp 28) jF (yW 0))) (zH (zj 1 (zv K8r6 [])) (zD K8r7 [6])))
def K8r8:zF:=(zC (.tmp 7) (zE (.con (.int .i64 0))) zK)
def K8r9:zF:=(zC (.tmp 46) (zE (.tmp 7)) (zC (.tmp 47) (kUn (zZ 7) (.tmp 5)) (zC (.tmp 48) (zL none (.tmp 47)) (zC (.tmp 49) (kUn jH (.tmp 48)) (zC (.tmp 50) (zq vH (.tmp 46) (.tmp 49)) zK)))))
def K8r10:zF:=(zC (.tmp 53) (kUn (zZ 7) (.tmp 5)) (zC (.tmp 54) (zL none (.tmp 53)) (zC (.tmp 55) (zE (.tmp 7)) (zC (.tmp 56) (jO (yJ 6) (.tmp 54) (.tmp 55)) (zC (.tmp 8) (zE (.tmp 56)) zK)))))
def K8r11:zF:=(yz [] (zC (.tmp 57) (zE (.tmp 8)) (zC (.tmp 58) (zE (.tmp 3)) (zC (.tmp 59) (zE (.tmp 8)) (zC (.tmp 60) (kUn vl (.tmp 59)) (zC (.tmp 61) (kUn (zZ 0) (.tmp 60)) (zC (.tmp 62) (kUn (zZ 0) (.tmp 61)) (zC (.tmp 63) (zL none (.tmp 62)) (jW (some [68,74,79]) (.tmp 64) (.con (.func 35 [] [])) [(.tmp 58),(.con (.int .i64 0)),(.tmp 63)] (zC (.tmp 65) (zE (.tmp 8)) (zC (.tmp 66) (kUn vl (.tmp 65)) (zC (.tmp 67) (kUn (zZ 0) (.tmp 66)) (zC (.tmp 68) (kUn (zZ 0) (.tmp 67)) (zC (.tmp 69) (zL none (.tmp 68)) (zC (.tmp 70) (zE (.tmp 3)) (zC (.tmp 71) (zE (.tmp 8)) (zC (.tmp 72) (kUn vl (.tmp 71)) (zC (.tmp 73) (kUn (zZ 0) (.tmp 72)) (zC (.tmp 74) (kUn (zZ 1) (.tmp 73)) (zC (.tmp 75) (zL none (.tmp 74)) (zC (.tmp 76) (zE (.tmp 8)) (zC (.tmp 77) (kUn vl (.tmp 76)) (zC (.tmp 78) (kUn (zZ 0) (.tmp 77)) (zC (.tmp 79) (kUn (zZ 0) (.tmp 78)) (zC (.tmp 80) (zL none (.tmp 79)) (zC (.tmp 81) (zq wF (.tmp 75) (.tmp 80)) (zC (.tmp 82) (zq jK (.tmp 81) (.con (.int .i64 1))) (jW (some [68]) (.tmp 83) (.con (.func 25 [] [])) [(.tmp 70),(.tmp 82)] (zC (.tmp 84) (zq jK (.tmp 69) (.tmp 83)) (jC (.tmp 85) (.con (.func 20 [] [])) [(.tmp 64),(.tmp 84)] (zC (.tmp 86) (kUn vl (.tmp 57)) (zC (.tmp 87) (kUn (zZ 0) (.tmp 86)) (zC .none (zz 2 (.tmp 87) (.tmp 85)) zK)))))))))))))))))))))))))))))))))
def K8r12:zF:=(yz [] (zC (.tmp 88) (zE (.tmp 8)) (zC (.tmp 89) (zE (.tmp 8)) (zC (.tmp 90) (zE (.tmp 8)) (zC (.tmp 91) (kUn vl (.tmp 90)) (zC (.tmp 92) (kUn (zZ 4) (.tmp 91)) (zC (.tmp 93) (zL none (.tmp 92)) (zC (.tmp 94) (zE (.tmp 3)) (jW (some [92,99]) (.tmp 95) (.con (.func 25 [] [])) [(.tmp 94),(.con (.int .i64 9))] (zC (.tmp 96) (zq jK (.tmp 93) (.tmp 95)) (zC (.tmp 97) (zE (.tmp 8)) (zC (.tmp 98) (kUn vl (.tmp 97)) (zC (.tmp 99) (kUn (zZ 5) (.tmp 98)) (zC (.tmp 100) (zL none (.tmp 99)) (zC (.tmp 101) (zE (.tmp 3)) (jW (some [92,99]) (.tmp 102) (.con (.func 25 [] [])) [(.tmp 101),(.con (.int .i64 2))] (zC (.tmp 103) (zq jK (.tmp 100) (.tmp 102)) (zC (.tmp 104) (kUn vl (.tmp 88)) (zC (.tmp 105) (kUn (zZ 4) (.tmp 104)) (zC .none (zz 1 (.tmp 105) (.tmp 96)) (zC (.tmp 106) (kUn vl (.tmp 89)) (zC (.tmp 107) (kUn (zZ 5) (.tmp 106)) (zC .none (zz 1 (.tmp 107) (.tmp 103)) zK)))))))))))))))))))))))
def K8r13:zF:=(zC (.tmp 9) (zE (.con (.int .i64 0))) zK)
def K8r14:zF:=(zC (.tmp 108) (zE (.tmp 9)) (zC (.tmp 109) (zE (.tmp 8)) (zC (.tmp 110) (kUn vl (.tmp 109)) (zC (.tmp 111) (kUn (zZ 3) (.tmp 110)) (zC (.tmp 112) (zL none (.tmp 111)) (zC (.tmp 113) (kUn jH (.tmp 112)) (zC (.tmp 114) (zq vH (.tmp 108) (.tmp 113)) zK)))))))
def K8r15:zF:=(yz [] (zC (.tmp 117) (zE (.tmp 8)) (zC (.tmp 118) (kUn vl (.tmp 117)) (zC (.tmp 119) (kUn (zZ 3) (.tmp 118)) (zC (.tmp 120) (zL none (.tmp 119)) (zC (.tmp 121) (zE (.tmp 9)) (zC (.tmp 122) (zE (.tmp 3)) (zC (.tmp 123) (zE (.tmp 8)) (zC (.tmp 124) (kUn vl (.tmp 123)) (zC (.tmp 125) (kUn (zZ 3) (.tmp 124)) (zC (.tmp 126) (zL none (.tmp 125)) (zC (.tmp 127) (zE (.tmp 9)) (zC (.tmp 128) (jO (yJ 1) (.tmp 126) (.tmp 127)) (zC (.tmp 129) (zL none (.tmp 128)) (jW (some [119]) (.tmp 130) (.con (.func 35 [] [])) [(.tmp 122),(.con (.int .i64 0)),(.tmp 129)] (zC (.tmp 131) (jO (yJ 1) (.tmp 120) (.tmp 121)) (zC .none (zz 1 (.tmp 131) (.tmp 130)) zK)))))))))))))))))
def K8r16:zF:=(zC (.tmp 115) (zE (.tmp 9)) (zC (.tmp 116) (zq jK (.tmp 115) (.con (.int .i64 1))) (zC (.tmp 9) (zE (.tmp 116)) zK)))
def K8l1:K:=(zH (zH (zD K8r14 [114]) (jG (.tmp 114) jF (yW 4))) (zH (zj 5 (zv K8r15 [])) (zD K8r16 [9])))
def K8r17:zF:=(zC (.tmp 51) (zE (.tmp 7)) (zC (.tmp 52) (zq jK (.tmp 51) (.con (.int .i64 1))) (zC (.tmp 7) (zE (.tmp 52)) zK)))
def K8l2:K:=(zH (zH (zD K8r9 [50]) (jG (.tmp 50) jF (yW 2))) (zH (zj 3 (zH (zD K8r10 [8]) (zH (zv K8r11 []) (zH (zv K8r12 []) (zH (zD K8r13 [9]) (zj 4 (yR K8l1))))))) (zD K8r17 [7])))
def K8r18:zF:=(zC (.tmp 133) (zL (some 8) (.tmp 4)) (jC (.tmp 134) (.con (.func 29 [] [])) [(.tmp 133)] (zC (.tmp 132) (zE (.tmp 134)) (zC (.tmp 135) (kUn (extA 0) (.tmp 132)) (zC (.tmp 136) (kUn (extA 1) (.tmp 132)) (zC (.tmp 10) (zE (.tmp 135)) (zC (.tmp 11) (zE (.tmp 136)) zK)))))))
def K8r19:zF:=(zC (.tmp 138) (zL (some 8) (.tmp 5)) (jC (.tmp 139) (.con (.func 29 [] [])) [(.tmp 138)] (zC (.tmp 137) (zE (.tmp 139)) (zC (.tmp 140) (kUn (extA 0) (.tmp 137)) (zC (.tmp 141) (kUn (extA 1) (.tmp 137)) (zC (.tmp 12) (zE (.tmp 140)) (zC (.tmp 13) (zE (.tmp 141)) zK)))))))
def K8r20:zF:=(zC (.tmp 143) (zL (some 8) (.tmp 4)) (zC (.tmp 144) (zE (.tmp 10)) (jC (.tmp 145) (.con (.func 23 [] [])) [(.tmp 143),(.tmp 144)] (zC (.tmp 142) (zE (.tmp 145)) (zC (.tmp 146) (kUn (extA 0) (.tmp 142)) (zC (.tmp 147) (kUn (extA 1) (.tmp 142)) (zC (.tmp 14) (zE (.tmp 146)) (zC (.tmp 15) (zE (.tmp 147)) zK))))))))
def K8r21:zF:=(zC (.tmp 149) (zL (some 8) (.tmp 5)) (zC (.tmp 150) (zE (.tmp 12)) (jC (.tmp 151) (.con (.func 23 [] [])) [(.tmp 149),(.tmp 150)] (zC (.tmp 148) (zE (.tmp 151)) (zC (.tmp 152) (kUn (extA 0) (.tmp 148)) (zC (.tmp 153) (kUn (extA 1) (.tmp 148)) (zC (.tmp 16) (zE (.tmp 152)) (zC (.tmp 17) (zE (.tmp 153)) zK))))))))
def K8r22s21:zF:=(zC (.tmp 175) (vn (.tmp 173) (.tmp 174) (.con (.bool false))) (zC (.tmp 2) (zE (.tmp 175)) zK))
def K8r22s18:zF:=(zC (.tmp 172) (vn (.tmp 168) (.tmp 171) (.con (.bool false))) (zC (.tmp 173) (zE (.tmp 172)) (oIf 173 true (jC (.tmp 174) (.con (.func 19 [] [])) [] K8r22s21) (jV (.tmp 174) K8r22s21))))
def K8r22s17:zF:=(oIf 168 true (zC (.tmp 171) (zq aGeq (.tmp 169) (.tmp 170)) K8r22s18) (jV (.tmp 171) K8r22s18))
def K8r22s16:zF:=(oIf 168 true (zC (.tmp 170) (zE (.tmp 14)) K8r22s17) (jV (.tmp 170) K8r22s17))
def K8r22s13:zF:=(zC (.tmp 167) (vn (.tmp 164) (.tmp 166) (.con (.bool false))) (zC (.tmp 168) (zE (.tmp 167)) (oIf 168 true (zC (.tmp 169) (zE (.tmp 16)) K8r22s16) (jV (.tmp 169) K8r22s16))))
def K8r22s12:zF:=(oIf 164 true (zC (.tmp 166) (zq aEql (.tmp 165) (.con (.int .i64 0))) K8r22s13) (jV (.tmp 166) K8r22s13))
def K8r22s9:zF:=(zC (.tmp 163) (vn (.tmp 160) (.tmp 162) (.con (.bool false))) (zC (.tmp 164) (zE (.tmp 163)) (oIf 164 true (zC (.tmp 165) (zE (.tmp 17)) K8r22s12) (jV (.tmp 165) K8r22s12))))
def K8r22s8:zF:=(oIf 160 true (zC (.tmp 162) (zq aEql (.tmp 161) (.con (.int .i64 0))) K8r22s9) (jV (.tmp 162) K8r22s9))
def K8r22s5:zF:=(zC (.tmp 159) (vn (.tmp 156) (.tmp 158) (.con (.bool false))) (zC (.tmp 160) (zE (.tmp 159)) (oIf 160 true (zC (.tmp 161) (zE (.tmp 15)) K8r22s8) (jV (.tmp 161) K8r22s8))))
def K8r22s4:zF:=(oIf 156 true (zC (.tmp 158) (zq aEql (.tmp 157) (.con (.int .i64 0))) K8r22s5) (jV (.tmp 158) K8r22s5))
def K8r22:zF:=(zC (.tmp 154) (zE (.tmp 11)) (zC (.tmp 155) (zq aEql (.tmp 154) (.con (.int .i64 0))) (zC (.tmp 156) (zE (.tmp 155)) (oIf 156 true (zC (.tmp 157) (zE (.tmp 13)) K8r22s4) (jV (.tmp 157) K8r22s4)))))
theorem res8:Try.f8.results.toList=[.tmp 2]:=by kernel_rfl
def K33r0:zF:=(zC (.tmp 1) (yY (tag 30) (.tmp 0)) (zC (.tmp 2) (jP [(.int .i64 0),(.int .i64 0),.nilslice,.nilslice,(.int .i64 0),(.int .i64 0),.nilslice,.nilslice] (tag 30)) zK))
def K33r1:zF:=(yz [(6,11),(6,14),(10,14)] (zC (.tmp 6) (ze [] 0 []) (zC (.tmp 7) (kUn (zZ 2) (.tmp 1)) (zC (.tmp 8) (zL none (.tmp 7)) (zC (.tmp 9) (jO (jZ false 2 16 (tag 27)) (.tmp 6) (.tmp 8)) (zC (.tmp 10) (ze [] 0 []) (zC (.tmp 11) (kUn (zZ 3) (.tmp 1)) (zC (.tmp 12) (zL none (.tmp 11)) (zC (.tmp 13) (jO (jZ false 2 16 (tag 27)) (.tmp 10) (.tmp 12)) (zC (.tmp 14) (kUn (zZ 6) (.tmp 1)) (zC (.tmp 15) (zL none (.tmp 14)) (jC (.tmp 16) (.con (.func 59 [] [])) [(.tmp 15)] (zC (.tmp 17) (kUn (zZ 2) (.tmp 1)) (zC .none (zz 1 (.tmp 17) (.tmp 9)) (zC (.tmp 18) (kUn (zZ 3) (.tmp 1)) (zC .none (zz 1 (.tmp 18) (.tmp 13)) (zC (.tmp 19) (kUn (zZ 6) (.tmp 1)) (zC .none (zz 1 (.tmp 19) (.tmp 16)) zK))))))))))))))))))
def K33r2:zF:=(zC (.tmp 20) (kUn (zZ 7) (.tmp 1)) (zC (.tmp 21) (zL none (.tmp 20)) (zC (.tmp 3) (zE (.tmp 21)) zK)))
def K33r3:zF:=(zC (.tmp 22) (kUn (zZ 7) (.tmp 1)) (zC .none (zz 1 (.tmp 22) (.con .nilslice)) zK))
def K33r4:zF:=(zC (.tmp 4) (zE (.con (.int .i64 0))) zK)
def K33r5:zF:=(zC (.tmp 23) (zE (.tmp 4)) (zC (.tmp 24) (zE (.tmp 3)) (zC (.tmp 25) (kUn jH (.tmp 24)) (zC (.tmp 26) (zq vH (.tmp 23) (.tmp 25)) zK))))
def K33r6:zF:=(zC (.tmp 29) (zE (.tmp 3)) (zC (.tmp 30) (zE (.tmp 4)) (zC (.tmp 31) (jO (yJ 6) (.tmp 29) (.tmp 30)) (zC (.tmp 32) (zL (some 6) (.tmp 31)) (zC (.tmp 5) (jP [(.int .i64 0),(.int .i64 0),(.bool false),.nilslice,(.int .i64 0),(.int .i64 0)] (tag 49)) (zC .none (zz 6 (.tmp 5) (.tmp 32)) zK))))))
def K33r7:zF:=(zC (.tmp 33) (kUn (zZ 3) (.tmp 5)) (zC (.tmp 34) (zL none (.tmp 33)) (jC (.tmp 35) (.con (.func 59 [] [])) [(.tmp 34)] (zC (.tmp 36) (kUn (zZ 3) (.tmp 5)) (zC .none (zz 1 (.tmp 36) (.tmp 35)) zK)))))
def K33r8:zF:=(zC (.tmp 37) (kUn (zZ 7) (.tmp 1)) (zC (.tmp 38) (zL none (.tmp 37)) (zC (.tmp 39) (zL (some 6) (.tmp 5)) (zC (.tmp 40) (ze [(.int .i64 0),(.int .i64 0),(.bool false),.nilslice,(.int .i64 0),(.int .i64 0)] 1 [(0,6,(.tmp 39))]) (zC (.tmp 41) (jO (jZ false 6 64 (tag 49)) (.tmp 38) (.tmp 40)) (zC (.tmp 42) (kUn (zZ 7) (.tmp 1)) (zC .none (zz 1 (.tmp 42) (.tmp 41)) zK)))))))
def K33r9:zF:=(zC (.tmp 27) (zE (.tmp 4)) (zC (.tmp 28) (zq jK (.tmp 27) (.con (.int .i64 1))) (zC (.tmp 4) (zE (.tmp 28)) zK)))
def K33l0:K:=(zH (zH (zD K33r5 [26]) (jG (.tmp 26) jF (yW 0))) (zH (zj 1 (zH (zD K33r6 [5]) (zH (zD K33r7 []) (zD K33r8 [])))) (zD K33r9 [4])))
def K33r10:zF:=(zC (.tmp 43) (zL (some 8) (.tmp 1)) (zC .none (zz 8 (.tmp 2) (.tmp 43)) zK))
theorem res33:Try.f33.results.toList=[.cell 2 30]:=by kernel_rfl
def K33:K:=(zH (zD K33r0 [1,2]) (zH (zv K33r1 []) (zH (zD K33r2 [3]) (zH (zD K33r3 []) (zH (zH (zD K33r4 [4]) (zj 0 (yR K33l0))) (zH (zD K33r10 []) jT))))))
theorem enter33 (cl:zR) (a0:AV) (s:St):za Try.prog X cl 33 [a0] s Try.f33=yF Try.prog Try.f33 (K33 cl ⟨33,none,Try.f33.ntmps,X 33⟩ (zQ 0 [a0] .nil) [] s) :=
  zX (b:=Try.f33.body.getD .skip) (by kernel_rfl) (by kernel_rfl) (by kernel_rfl) (by kernel_rfl) (by kernel_rfl)
def K59r0:zF:=(zC (.tmp 2) (zE (.con .nilslice)) zK)
def K59r1:zF:=(zC (.tmp 3) (ze [] 0 []) (zC (.tmp 4) (zE (.tmp 0)) (zC (.tmp 5) (jO (jZ false 1 8 (tag 3)) (.tmp 3) (.tmp 4)) (zC (.tmp 2) (zE (.tmp 5)) zK))))
theorem res59:Try.f59.results.toList=[.tmp 2]:=by kernel_rfl
def K59:K:=(zH (zD K59r0 [2]) (zH (zD K59r1 [2]) jT))
theorem enter59 (cl:zR) (a0:AV) (s:St):za Try.prog X cl 59 [a0] s Try.f59=yF Try.prog Try.f59 (K59 cl ⟨59,none,Try.f59.ntmps,X 59⟩ (zQ 0 [a0] .nil) [] s) :=
  zX (b:=Try.f59.body.getD .skip) (by kernel_rfl) (by kernel_rfl) (by kernel_rfl) (by kernel_rfl) (by kernel_rfl)
end
end Go.Proofs.Ytoklbkgcclkejaa.code
