/- Places with a stall more, and with one who withdraws: the loops that compare them. -/
import Derived.Test.YthbhjgbpjlnbcaaM11
import Derived.Test.YthbhjgbpjlnbcaaM7
import Derived.Test.YthbhjgbpjlnbcaaM4
import Derived.Test.YthbhjgbpjlnbcaaProg
import Derived.Tactics
import Derived.Tactics2
import Derived.WalkKit
import Derived.OpenShut
import Derived.Below
import Derived.Lib.Hide
import Derived.KernelRfl
import Derived.Deep.RegionHeld3
import Derived.OwnWalk
import Derived.StillTailTactics
import Derived.Test.YthbhjgbpjlnbcaaAbsTop
import Derived.Test.YthbhjgbpjlnbcaaAbsWalk
import Derived.Test.YthbhjgbpjlnbcaaAwake
import Derived.Test.YthbhjgbpjlnbcaaWalkAll
set_option linter.unusedSimpArgs false
set_option maxHeartbeats 16000000
set_option linter.unusedVariables false
set_option maxRecDepth 10000
namespace Go.Proofs.Ythbhjgbpjlnbcaa.walk
open Go.Abs Go.Proofs.Ythbhjgbpjlnbcaa.code
theorem room_loop0 (N:Nat) (hN:8≤N) {cx:Ctx} {u:St} {d p4 p5 lo bS bA z4:Nat} {l:Letting} {vS vA vS1 v2:AV} {L:Env} {r:R} (hr:loopN K7l0 rounds (awd N) cx L [] u=r) (J:RoomJ u u d p5 lo bS bA 0 0 l vS1 v2) (ok:l.Ok) (g4:u.h.get p4=some (.cells [vS,vA] z4)) (kS:∀ t,okA (.val vS t)=.val vS t) (lS:∀ s,lenSlA s vS=.val (.int .i64 (l.stalls.length:Int)) s) (hd:d<lo) (h4:p4<lo∧p4≠d) (h5:p5<u.n∧(0<l.appls.length→p5≠bA)∧lo≤p5) (hlo:lo≤u.n) (hs:u.n+3000≤far)
  (q3:L.find 3=.ptr d 0) (q4:L.find 4=.ptr p4 0) (q5:L.find 5=.ptr p5 0) (q6:L.find 6=.int .i64 (0:Nat)) :
  ∃ L1 t,r=.done (.exit 0) L1 [] t∧RoomJ u t d p5 lo bS bA l.appls.length 300 l vS1 v2∧∀ c,c<6→L1.find c=L.find c:=by
 have hf:far=1000000000:=rfl
 have m1:=ok.m1
 obtain ⟨e,L1,t,rfl,rfl,h1,h2⟩:=loop_of hr (fun i L' t'=>RoomJ u t' d p5 lo bS bA i (30 * i) l vS1 v2∧L'.find 6=.int .i64 (i:Nat)∧∀ c,c<6→L'.find c=L.find c) (fun e L' t'=>e=.exit 0∧RoomJ u t' d p5 lo bS bA l.appls.length 300 l vS1 v2∧∀ c,c<6→L'.find c=L.find c) l.appls.length (by unfold rounds;omega)
  ⟨J,q6,fun _ _=>rfl⟩
  (fun i L' t' hi ⟨J',p6,q⟩=>by
   by_cases hlt:i<l.appls.length
   ·obtain ⟨L2,t2,x1,x2,x3,x4⟩:=room_round N hN cx J' ok g4 kS lS hlt hd h4 ⟨h5.1,h5.2.1 (by omega),h5.2.2⟩ hlo (by omega) ((q 3 (by omega)).trans q3) ((q 4 (by omega)).trans q4) ((q 5 (by omega)).trans q5) p6
    exact .inl ⟨hlt,L2,t2,x1,by rw [Nat.mul_succ];exact x2,x3,fun c hc=>(x4 c hc).trans (q c hc)⟩
   ·obtain rfl:i=l.appls.length:=by omega
    obtain ⟨⟨m,R,hm,own⟩,g5,die,same,jn,jle,jml⟩:=J'
    have kA:=own.at_.okV
    have lA:=own.at_.lenA
    rw [R.len] at lA
    have p5':=(q 5 (by omega)).trans q5
    have e0:decide ((l.appls.length:Int)<(l.appls.length:Int))=false:=by simp
    refine .inr ⟨.exit 0,L'.set 38 (.bool false),t',by simp,?_,rfl,⟨⟨m,R,hm,own⟩,g5,die,same,jn,by omega,jml⟩,fun c hc=>?_⟩
    ·simp (disch:=first|omega|(with_unfolding_all exact rfl)|(simp only[new_n,put_n,new_m];omega)|(refine put_m_le ?_;simp only[new_m];omega)) only [K7l0,K7r6,Abs.W,reduceIte,Nat.reduceEqDiff,Nat.reduceAdd,decide_true,decide_false,kLoop_def,Nat.reduceSub,List.cons_append,List.nil_append,List.append_nil,List.length_cons,List.length_nil,Env.find_set,p5',p6,g5,kA,lA,e0,Nat.zero_add]
    ·simp only [Env.find_set]
     rw [if_neg (by omega)]
     exact q c hc)
 exact ⟨L1,t,rfl,h1,h2⟩
theorem room_loop1 (N:Nat) (hN:8≤N) {cx:Ctx} {w:St} {p4 p5 z4 z5:Nat} {l m:Letting} {vS vA vS1 v2 vX vY:AV} {no na no4 na4 nx ny:Nat→Prop} {hsX hsY:List Int} {L:Env} {r:R} (hr:loopN K7l1 rounds (awd N) cx L [] w=r) (ok:l.Ok) (okm:m.Ok) (hml:m.appls.length=l.appls.length) (hL:LetAt no4 na4 w.h w.n l vS vA) (hM:LetAt no na w.h w.n m vS1 v2) (g4:w.h.get p4=some (.cells [vS,vA] z4)) (g5:w.h.get p5=some (.cells [vS1,v2] z5)) (hX:Sl nx w.h w.n 1 (intRows hsX) vX) (hY:Sl ny w.h w.n 1 (intRows hsY) vY) (hXl:hsX.length≤7) (hYl:hsY.length≤8) (hp:p4<w.n∧p5<w.n)
  (hle:∀ a,a<l.appls.length→placeI m hsY a≤placeI m (hsX++[-1]) a) (hm:w.m≤far) (hs:w.n+3000≤far)
  (q4:L.find 4=.ptr p4 0) (q5:L.find 5=.ptr p5 0) (q9:L.find 9=vX) (q11:L.find 11=vY) (q13:L.find 13=.int .i64 (0:Nat)) :
  ∃ L1 t,r=.done (.exit 2) L1 [] t∧(∀ c,c<w.n→t.h.get c=w.h.get c)∧w.n≤t.n∧t.n≤w.n+300∧t.m≤far∧∀ c,c<13→L1.find c=L.find c:=by
 have hf:far=1000000000:=rfl
 have knC:∀ args s,awd N (.fn 28) args s=call Try.prog X N (.fn 28) args s:=fun _ _=>rfl
 have knP:∀ args s,awd N (.fn 23) args s=call Try.prog X N (.fn 23) args s:=fun _ _=>rfl
 have m1:=ok.m1
 obtain ⟨e,L1,t,rfl,rfl,h1,h2,h3,h4,h5⟩:=loop_of hr (fun i L' t'=>(∀ c,c<w.n→t'.h.get c=w.h.get c)∧w.n≤t'.n∧t'.n≤w.n+10 * i∧t'.m≤far∧L'.find 13=.int .i64 (i:Nat)∧∀ c,c<13→L'.find c=L.find c) (fun e L' t'=>e=.exit 2∧(∀ c,c<w.n→t'.h.get c=w.h.get c)∧w.n≤t'.n∧t'.n≤w.n+300∧t'.m≤far∧∀ c,c<13→L'.find c=L.find c) l.appls.length (by unfold rounds;omega)
  ⟨fun _ _=>rfl,Nat.le_refl _,by omega,hm,q13,fun _ _=>rfl⟩
  (fun i L' t' hi ⟨same,jn,jle,jml,p13,q⟩=>by
   have p4':=(q 4 (by omega)).trans q4
   have t4:=(same p4 hp.1).trans g4
   have kA:=hL.okV
   have lA:=hL.lenA
   by_cases hlt:i<l.appls.length
   ·have e0:decide ((i:Int)<(l.appls.length:Int))=true:=decide_eq_true (by omega)
    have p5':=(q 5 (by omega)).trans q5
    have p9:=(q 9 (by omega)).trans q9
    have p11:=(q 11 (by omega)).trans q11
    have ad:∀ s,aAdd s .i64 (i:Int) 1=.val (.int .i64 ((i:Int)+1)) s:=fun s=>aAdd_i64 s _ _ (by omega)
    simp (disch:=first|omega|(with_unfolding_all exact rfl)|(simp only[new_n,put_n,new_m];omega)|(refine put_m_le ?_;simp only[new_m];omega)) only [K7l1,K7r18,K7r19,Abs.W,reduceIte,Nat.reduceEqDiff,Nat.reduceAdd,decide_true,decide_false,kLoop_def,Nat.reduceSub,List.cons_append,List.nil_append,List.append_nil,List.length_cons,List.length_nil,Env.find_set,p4',p5',p9,p11,p13,t4,kA,lA,e0,knC,Nat.zero_add]
    generalize hc:call _ _ _ (.fn 28) _ _=rc
    obtain ⟨v1,t1,rfl,s1,S1,I1,Z1⟩:=copyInts_ex (l:=hsX) hc (by omega) (hX.grow same jn) (by omega) (by omega)
    have s1n:=s1.n
    have s1l:=s1.le
    have s1m:=s1.m
    obtain ⟨y,hy⟩:∃ y:St,y=t1.new (.cells [.int .i64 (-1)] 0):=⟨_,rfl⟩
    have yn:y.n=t1.n+1:=by rw [hy];rfl
    have ym:y.m=t1.m:=by rw [hy];rfl
    have yg:∀ c,c<t1.n→y.h.get c=t1.h.get c:=fun c hc=>by rw [hy,get_new_ne _ _ _ (by omega)]
    have yp:y.h.get t1.n=some (.cells [.int .i64 (-1)] 0):=by rw [hy];exact get_new_eq _ _ _ rfl (by omega)
    have t1z:hsX=[]→t'.n<t1.n:=fun h=>by
     obtain ⟨sz,h1,h2⟩:=Z1 h
     rcases S1.is with ⟨_,z⟩ | ⟨bb,o,cap,e,c,sz,z1,z2,z3,z4,_⟩
     ·rw [h1] at z;cases z
     ·rw [h1] at z4
      injection z4 with z5
      have z5:t'.n=bb:=z5
      omega
    obtain ⟨v2',t2,e2,I2,n2,g2,m2,m2'⟩:=copy_push (l:=hsX) (s:=y) (a:=t'.n) (fun h=>(I1 h).mono (fun hb=>yg _ hb) (by omega)) (fun h=>by obtain ⟨sz,h1,h2⟩:=Z1 h;exact ⟨sz,h1,(yg _ (t1z h)).trans h2⟩) yp (by omega) (by omega)
    rw [hy] at e2
    have t2w:∀ c,c<w.n→t2.h.get c=w.h.get c:=fun c hc=>(g2 c (by omega) (by omega)).trans ((yg c (by omega)).trans ((s1.same c (by omega)).trans (same c hc)))
    have t25:=(t2w p5 hp.2).trans g5
    have hM2:=hM.grow (h':=t2.h) (n':=t2.n) t2w (by omega)
    have hY2:=hY.grow (h':=t2.h) (n':=t2.n) t2w (by omega)
    have kI:=I2.okA
    have kM1:=hM2.okS
    have kM2:=hM2.okV
    have kY:=hY2.okA
    have pl1:=place_ok N (by omega) (s:=⟨t2.h,t2.n,far⟩) okm (show i<m.appls.length by omega) hM2 hY2 hYl (by show t2.n+300≤far;omega)
    have pl2:=place_ok N (by omega) (s:=t2) okm (show i<m.appls.length by omega) hM2 (Sl.of_at (no:=fun _=>True) I2 fun _=>trivial) (by rw [List.length_append,List.length_singleton];omega) (by omega)
    have hl:=hle i hlt
    have e1:decide ((placeI m (hsX++[-1]) i:Int)<(placeI m hsY i:Int))=false:=decide_eq_false (by omega)
    refine .inl ⟨hlt,_,t2,by
     simp (disch:=first|omega|(with_unfolding_all exact rfl)|(simp only[new_n,put_n,new_m];omega)|(refine put_m_le ?_;simp only[new_m];omega)) only [K7r20,K7r22,Abs.W,reduceIte,Nat.reduceEqDiff,Nat.reduceAdd,decide_true,decide_false,kLoop_def,Nat.reduceSub,List.cons_append,List.nil_append,List.append_nil,List.length_cons,List.length_nil,Env.find_set,p5',p9,p11,p13,e2,kI,t25,kM1,kM2,kY,knP,pl1,pl2,e1,ad,Nat.zero_add]
     rfl,t2w,by omega,by omega,by omega,?_,fun c hc=>?_⟩
    ·simp only [Env.find_set,reduceIte,Nat.reduceEqDiff];rfl
    ·simp only [Env.find_set]
     repeat rw [if_neg (by omega)]
     exact q c hc
   ·obtain rfl:i=l.appls.length:=by omega
    have e0:decide ((l.appls.length:Int)<(l.appls.length:Int))=false:=by simp
    refine .inr ⟨.exit 2,L'.set 134 (.bool false),t',by simp,?_,rfl,same,jn,by omega,jml,fun c hc=>?_⟩
    ·simp (disch:=first|omega|(with_unfolding_all exact rfl)|(simp only[new_n,put_n,new_m];omega)|(refine put_m_le ?_;simp only[new_m];omega)) only [K7l1,K7r18,Abs.W,reduceIte,Nat.reduceEqDiff,Nat.reduceAdd,decide_true,decide_false,kLoop_def,Nat.reduceSub,List.cons_append,List.nil_append,List.append_nil,List.length_cons,List.length_nil,Env.find_set,p4',p13,t4,kA,lA,e0,Nat.zero_add]
    ·simp only [Env.find_set]
     rw [if_neg (by omega)]
     exact q c hc)
 exact ⟨L1,t,rfl,h1,h2,h3,h4,h5⟩
theorem room_loop2 (N:Nat) (hN:8≤N) {cx:Ctx} {w:St} {p4 z4 who:Nat} {l:Letting} {vS vA vX vZ:AV} {no na nx nz:Nat→Prop} {hsX hsZ:List Int} {L:Env} {r:R} (hr:loopN K7l2 rounds (awd N) cx L [] w=r) (ok:l.Ok) (hL:LetAt no na w.h w.n l vS vA) (g4:w.h.get p4=some (.cells [vS,vA] z4)) (hX:Sl nx w.h w.n 1 (intRows hsX) vX) (hZ:Sl nz w.h w.n 1 (intRows hsZ) vZ) (hXl:hsX.length≤8) (hZl:hsZ.length≤8)
  (hle:∀ a,a<l.appls.length→a≠who→placeI l hsZ a≤placeI l hsX a) (hm:w.m≤far) (hs:w.n+3000≤far)
  (q4:L.find 4=.ptr p4 0) (q9:L.find 9=vX) (q15:L.find 15=.int .i64 (who:Int)) (q17:L.find 17=vZ) (q19:L.find 19=.int .i64 (0:Nat)) :
  ∃ L1,r=.done (.exit 4) L1 [] w:=by
 have hf:far=1000000000:=rfl
 have knP:∀ args s,awd N (.fn 23) args s=call Try.prog X N (.fn 23) args s:=fun _ _=>rfl
 have m1:=ok.m1
 have kA:=hL.okV
 have kS:=hL.okS
 have lA:=hL.lenA
 have kX:=hX.okA
 have kZ:=hZ.okA
 obtain ⟨e,L1,t,rfl,rfl,rfl⟩:=loop_of hr (fun i L' t'=>t'=w∧L'.find 19=.int .i64 (i:Nat)∧∀ c,c<19→L'.find c=L.find c) (fun e L' t'=>e=.exit 4∧t'=w) l.appls.length (by unfold rounds;omega)
  ⟨rfl,q19,fun _ _=>rfl⟩
  (fun i L' t' hi ⟨hw,p19,q⟩=>by
   subst hw
   have p4':=(q 4 (by omega)).trans q4
   by_cases hlt:i<l.appls.length
   ·have e0:decide ((i:Int)<(l.appls.length:Int))=true:=decide_eq_true (by omega)
    have p9:=(q 9 (by omega)).trans q9
    have p15:=(q 15 (by omega)).trans q15
    have p17:=(q 17 (by omega)).trans q17
    have ad:∀ s,aAdd s .i64 (i:Int) 1=.val (.int .i64 ((i:Int)+1)) s:=fun s=>aAdd_i64 s _ _ (by omega)
    have u5:=fun cl L s=>congrFun (congrFun (congrFun K7r33s5.eq_1 cl) L) s
    have u6:=fun cl L s=>congrFun (congrFun (congrFun K7r33s6.eq_1 cl) L) s
    have u7:=fun cl L s=>congrFun (congrFun (congrFun K7r33s7.eq_1 cl) L) s
    have u8:=fun cl L s=>congrFun (congrFun (congrFun K7r33s8.eq_1 cl) L) s
    have u9:=fun cl L s=>congrFun (congrFun (congrFun K7r33s9.eq_1 cl) L) s
    have u10:=fun cl L s=>congrFun (congrFun (congrFun K7r33s10.eq_1 cl) L) s
    have u11:=fun cl L s=>congrFun (congrFun (congrFun K7r33s11.eq_1 cl) L) s
    have u12:=fun cl L s=>congrFun (congrFun (congrFun K7r33s12.eq_1 cl) L) s
    have u13:=fun cl L s=>congrFun (congrFun (congrFun K7r33s13.eq_1 cl) L) s
    by_cases hw:i=who
    ·subst hw
     have e1:decide ((i:Int)=(i:Int))=true:=by simp
     refine .inl ⟨hlt,_,t',by
      simp (disch:=first|omega|(with_unfolding_all exact rfl)|(simp only[new_n,put_n,new_m];omega)|(refine put_m_le ?_;simp only[new_m];omega)) only [K7l2,K7r32,K7r33,u5,u6,u7,u8,u9,u10,u11,u12,u13,K7r35,Abs.W,reduceIte,Nat.reduceEqDiff,Nat.reduceAdd,decide_true,decide_false,kLoop_def,Nat.reduceSub,List.cons_append,List.nil_append,List.append_nil,List.length_cons,List.length_nil,Env.find_set,p4',p9,p15,p17,p19,g4,kA,lA,e0,e1,ad,Nat.zero_add]
      rfl,rfl,?_,fun c hc=>?_⟩
     ·simp only [Env.find_set,reduceIte,Nat.reduceEqDiff];rfl
     ·simp only [Env.find_set]
      repeat rw [if_neg (by omega)]
      exact q c hc
    ·have e1:decide ((i:Int)=(who:Int))=false:=decide_eq_false (by omega)
     have pl1:=place_ok N (by omega) (s:=⟨t'.h,t'.n,far⟩) ok hlt hL hZ hZl (by show t'.n+300≤far;omega)
     have pl2:=place_ok N (by omega) (s:=t') ok hlt hL hX hXl (by omega)
     have hl:=hle i hlt hw
     have e2:decide ((placeI l hsX i:Int)<(placeI l hsZ i:Int))=false:=decide_eq_false (by omega)
     refine .inl ⟨hlt,_,t',by
      simp (disch:=first|omega|(with_unfolding_all exact rfl)|(simp only[new_n,put_n,new_m];omega)|(refine put_m_le ?_;simp only[new_m];omega)) only [K7l2,K7r32,K7r33,u5,u6,u7,u8,u9,u10,u11,u12,u13,K7r35,Abs.W,reduceIte,Nat.reduceEqDiff,Nat.reduceAdd,decide_true,decide_false,kLoop_def,Nat.reduceSub,List.cons_append,List.nil_append,List.append_nil,List.length_cons,List.length_nil,Env.find_set,p4',p9,p15,p17,p19,g4,kS,kA,lA,kX,kZ,knP,pl1,pl2,e0,e1,e2,ad,Nat.zero_add]
      rfl,rfl,?_,fun c hc=>?_⟩
     ·simp only [Env.find_set,reduceIte,Nat.reduceEqDiff];rfl
     ·simp only [Env.find_set]
      repeat rw [if_neg (by omega)]
      exact q c hc
   ·obtain rfl:i=l.appls.length:=by omega
    have e0:decide ((l.appls.length:Int)<(l.appls.length:Int))=false:=by simp
    refine .inr ⟨.exit 4,L'.set 191 (.bool false),t',by simp,?_,rfl,rfl⟩
    simp (disch:=first|omega|(with_unfolding_all exact rfl)|(simp only[new_n,put_n,new_m];omega)|(refine put_m_le ?_;simp only[new_m];omega)) only [K7l2,K7r32,Abs.W,reduceIte,Nat.reduceEqDiff,Nat.reduceAdd,decide_true,decide_false,kLoop_def,Nat.reduceSub,List.cons_append,List.nil_append,List.append_nil,List.length_cons,List.length_nil,Env.find_set,p4',p19,g4,kA,lA,e0,Nat.zero_add])
 exact ⟨L1,rfl⟩
end Go.Proofs.Ythbhjgbpjlnbcaa.walk
set_option maxRecDepth 10000
namespace Go.Abs
theorem apart_ptrs {b c o p:Nat} (h:b≠c):apartA (.ptr b o) (.ptr c p)=true:=by
 show (!Nat.beq b c)=true
 rw [nbeq_f h];rfl
end Go.Abs
namespace Go.Proofs.Ythbhjgbpjlnbcaa.walk
open Go.Abs Go.Proofs.Ythbhjgbpjlnbcaa.code
theorem LetOwn.pick {h:Heap} {n lo bS bA:Nat} {l:Letting} {vS vA:AV} (r:LetOwn h n lo bS bA l vS vA):∃ bA',LetOwn h n lo bS bA' l vS vA∧(bA'<n∨far<bA')∧(0<l.appls.length→bA'<n):=by
 obtain ⟨s,⟨ws,q1,q2,q3⟩,l1,l2,l3⟩:=r
 have lr:=rowsOf_len q1
 rcases q2.is with ⟨z,z2⟩ | ⟨_,z1,_⟩
 ·rw [z] at lr
  have lr:0=l.appls.length:=lr
  refine ⟨far+lo+bS+1,⟨s,⟨ws,q1,?_,fun i h1 h2=>by omega⟩,l1,by omega,by omega⟩,.inr (by omega),fun h=>by omega⟩
  rw [z,z2]
  exact IsAt.nil _ _ _ _ _
 ·exact ⟨bA,⟨s,⟨ws,q1,q2,q3⟩,l1,l2,l3⟩,.inl z1,fun _=>z1⟩
noncomputable def rooRest:K:=(kSeq (kRegion K7r2 [4]) (kSeq (kRegion K7r3 [5]) (kSeq (kRegionD K7r4 []) (kSeq (kSeq (kRegion K7r5 [6]) (kBlock 0 (kLoop K7l0))) (kSeq (kRegion K7r13 [9,10]) (kSeq (kRegion K7r14 [11,12]) (kSeq (kSeq (kRegion K7r15 [129]) (kCond (.tmp 129) (kSeq (kRegion K7r16 [2]) kRet) kSkip)) (kSeq (kSeq (kRegion K7r17 [13]) (kBlock 2 (kLoop K7l1))) (kSeq (kSeq (kRegion K7r23 [153]) (kCond (.tmp 153) (kSeq (kRegion K7r24 [2]) kRet) kSkip)) (kSeq (kRegion K7r25 [15]) (kSeq (kRegion K7r26 [16]) (kSeq (kRegionD K7r27 []) (kSeq (kRegion K7r28 [17,18]) (kSeq (kSeq (kRegion K7r29 [186]) (kCond (.tmp 186) (kSeq (kRegion K7r30 [2]) kRet) kSkip)) (kSeq (kSeq (kRegion K7r31 [19]) (kBlock 4 (kLoop K7l2))) (kSeq (kRegion K7r36 [2]) kRet))))))))))))))))
noncomputable def rooLess:K:=(kSeq (kRegion K7r25 [15]) (kSeq (kRegion K7r26 [16]) (kSeq (kRegionD K7r27 []) (kSeq (kRegion K7r28 [17,18]) (kSeq (kSeq (kRegion K7r29 [186]) (kCond (.tmp 186) (kSeq (kRegion K7r30 [2]) kRet) kSkip)) (kSeq (kSeq (kRegion K7r31 [19]) (kBlock 4 (kLoop K7l2))) (kSeq (kRegion K7r36 [2]) kRet)))))))
theorem roo_less (n:Nat) (hn:20≤n) (cx:Ctx) {w:St} {d p4 z4 lo bS bA:Nat} {l:Letting} {vS vA vX:AV} {nx:Nat→Prop} {hsX:List Int} {L:Env} (ok:l.Ok) (hne:0<l.appls.length) (own:LetOwn w.h w.n lo bS bA l vS vA) (die:Die d w.h) (hd:d<lo) (hdw:d<w.n) (g4:w.h.get p4=some (.cells [vS,vA] z4)) (hp:p4<w.n∧p4≠d) (hX:Sl nx w.h w.n 1 (intRows hsX) vX) (hnx:¬ nx d) (hXl:hsX.length=l.stalls.length) (IX:(mktOf l).Inv (holdF hsX) []) (hm:w.m≤far) (hs:w.n+10000000≤far)
  (q3:L.find 3=.ptr d 0) (q4:L.find 4=.ptr p4 0) (q9:L.find 9=vX) :
  ∃ s',finA Try.prog Try.f7 (rooLess (awd n) cx L [] w)=.val (.bool true) s':=by
 have hf:far=1000000000:=rfl
 have knC:∀ args s,awd n (.fn 15) args s=call Try.prog X n (.fn 15) args s:=fun _ _=>rfl
 have knY:∀ args s,awd n (.fn 25) args s=call Try.prog X n (.fn 25) args s:=fun _ _=>rfl
 have knL:∀ args s,awd n (.fn 18) args s=call Try.prog X n (.fn 18) args s:=fun _ _=>rfl
 have knA:∀ s,awd n (.fn 14) [] s=.val (.bool true) s:=fun _=>rfl
 have kA:=own.at_.okV
 have kS:=own.at_.okS
 have lA:=own.at_.lenA
 have lS:=own.at_.lenS
 have m1:=ok.m1
 have k1:=ok.k1
 unfold rooLess
 simp (disch:=first|omega|(with_unfolding_all exact rfl)|(simp only[new_n,put_n,new_m];omega)|(refine put_m_le ?_;simp only[new_m];omega)) only [K7r25,Abs.W,reduceIte,Nat.reduceEqDiff,Nat.reduceAdd,decide_true,decide_false,kLoop_def,Nat.reduceSub,List.cons_append,List.nil_append,List.append_nil,List.length_cons,List.length_nil,Env.find_set,q3,q4,g4,kA,lA,knC,Nat.zero_add]
 generalize hc1:call _ _ _ (.fn 15) _ _=r1
 obtain ⟨x1,t1,rfl,st1,d1,x10,x11⟩:=cast_ex hc1 (by omega) die (by omega) (by omega) (by omega)
 obtain ⟨who,rfl⟩:∃ n:Nat,x1=n:=⟨x1.toNat,by omega⟩
 have hwho:who<l.appls.length:=by omega
 have s1n:=st1.n
 have s1l:=st1.le
 have s1m:=st1.mle
 have g1:∀ c,c<w.n→c≠d→t1.h.get c=w.h.get c:=fun c h1 h2=>st1.same c h1 h2
 have own1:=own.grow (h':=t1.h) (n':=t1.n) (fun c h1 h2=>g1 c h1 (by omega)) (by omega)
 have t14:=(g1 p4 hp.1 hp.2).trans g4
 simp (disch:=first|omega|(with_unfolding_all exact rfl)|(simp only[new_n,put_n,new_m];omega)|(refine put_m_le ?_;simp only[new_m];omega)) only [K7r26,Abs.W,reduceIte,Nat.reduceEqDiff,Nat.reduceAdd,decide_true,decide_false,kLoop_def,Nat.reduceSub,List.cons_append,List.nil_append,List.append_nil,List.length_cons,List.length_nil,Env.find_set,q4,t14,kS,kA,knY,Nat.zero_add]
 generalize hc2:call _ _ _ (.fn 25) _ _=r2
 obtain ⟨v1,v2,b1,b2',t2,rfl,s2,own2'⟩:=copyLetting_ex hc2 (by omega) ok own1.at_ (by omega)
 obtain ⟨b2,own2,hb2n,hb2l⟩:=own2'.pick
 have s2n:=s2.n
 have s2l:=s2.le
 have s2m:=s2.m
 have sc:=own2.at_.scal
 have kv1:=own2.at_.okS
 have kv2:=own2.at_.okV
 simp (disch:=first|omega|(with_unfolding_all exact rfl)|(simp only[new_n,put_n,new_m];omega)|(refine put_m_le ?_;simp only[new_m];omega)) only [Abs.W,reduceIte,Nat.reduceEqDiff,Nat.reduceAdd,decide_true,decide_false,kLoop_def,Nat.reduceSub,List.cons_append,List.nil_append,List.append_nil,List.length_cons,List.length_nil,Env.find_set,sc,Nat.zero_add]
 obtain ⟨hsS,⟨ws,w1,w2,w3⟩,l1,l2,l3⟩:=own2
 have lr:=rowsOf_len w1
 have hb2:v2=.slice b2 0 l.appls.length l.appls.length true∧b2<t2.n∧t2.h.get b2=some (.cells (rowsOf l.appls ws).flatten (4+tag 37)):=by
  rcases w2.is with ⟨z,_⟩ | ⟨_,z1,z2,z3⟩
  ·rw [z] at lr;simp at lr;omega
  ·rw [lr] at z2;exact ⟨z2,z1,z3⟩
 obtain ⟨hv2,hb2,gF⟩:=hb2
 obtain ⟨y,hy⟩:∃ y:St,y=(t2.new (.cells [.nilslice,.nilslice] (tag 28))).put t2.n (.cells [v1,v2] (tag 28)):=⟨_,rfl⟩
 have yn:y.n=t2.n+1:=by rw [hy];rfl
 have ym:y.m≤t2.m:=by rw [hy];simp only [St.put,minN_eq,new_m];omega
 have yg:∀ c,c<t2.n→y.h.get c=t2.h.get c:=fun c hc=>by rw [hy,get_put_ne' _ _ _ _ (by omega),get_new_ne _ _ _ (by omega)]
 have yp:y.h.get t2.n=some (.cells [v1,v2] (tag 28)):=by rw [hy];exact get_put_eq _ _ _ _ rfl (by omega)
 have yF:=(yg b2 hb2).trans gF
 have ix2:∀ s,ixsA 4 s v2 (.int .i64 (who:Int))=.val (.ptr b2 (who * 4)) s:=fun s=>by rw [hv2,ixs_slice 4 s b2 0 _ _ true who hwho,Nat.zero_add]
 have flen:(rowsOf l.appls ws).flatten.length=l.appls.length * 4:=by rw [flatten_len (rowsOf_wide w1),lr]
 have ov1:=over_cell (c:=(rowsOf l.appls ws).flatten) (i:=who * 4+2) .nilslice (by omega)
 have ov2:=over_cell (c:=(rowsOf l.appls ws).flatten.set (who * 4+2) .nilslice) (i:=who * 4+3) .nilslice (by rw [List.length_set];omega)
 obtain ⟨z,hz⟩:∃ z:St,z=(y.put b2 (.cells ((rowsOf l.appls ws).flatten.set (who * 4+2) .nilslice) (4+tag 37))).put b2 (.cells (((rowsOf l.appls ws).flatten.set (who * 4+2) .nilslice).set (who * 4+3) .nilslice) (4+tag 37)):=⟨_,rfl⟩
 have zn:z.n=y.n:=by rw [hz];rfl
 have zm:z.m≤y.m:=by rw [hz];simp only [St.put,minN_eq];omega
 have zg:∀ c,c≠b2→z.h.get c=y.h.get c:=fun c hc=>by rw [hz,get_put_ne' _ _ _ _ hc,get_put_ne' _ _ _ _ hc]
 have zA:z.h.get b2=some (.cells (((rowsOf l.appls ws).flatten.set (who * 4+2) .nilslice).set (who * 4+3) .nilslice) (4+tag 37)):=by rw [hz];exact get_put_eq _ _ _ _ rfl (by omega)
 have yb:b2≠t2.n:=by omega
 rw [← hy]
 simp (disch:=first|omega|(with_unfolding_all exact rfl)|(simp only[new_n,put_n,new_m];omega)|(refine put_m_le ?_;simp only[new_m];omega)) only [K7r27,Abs.W,reduceIte,Nat.reduceEqDiff,Nat.reduceAdd,decide_true,decide_false,kLoop_def,Nat.reduceSub,List.cons_append,List.nil_append,List.append_nil,List.length_cons,List.length_nil,Env.find_set,yp,kv1,kv2,ix2,yF,ov1,ov2,Nat.zero_add]
 rw [endO_one (by simp only [find_cons,Env.find_set,reduceIte,Nat.reduceEqDiff];exact apart_ptrs yb),← hz]
 have own3:=set_own (w:=y) (t:=z) (lo:=t1.n) (bS:=b1) (wl:=[]) (bl:=[]) hwho (hsS.mono (fun h=>yg b1 h) (by omega)) w1 (w2.mono (fun h=>yg b2 h) (by omega)) yF (fun i h1 h2=>⟨(w3 i h1 h2).1.move (fun b hb h=>⟨yg b hb,h⟩) (by omega),(w3 i h1 h2).2.move (fun b hb h=>⟨yg b hb,h⟩) (by omega)⟩) ⟨l1,l2,l3⟩ zA (Sl.nil _ _ _ _) (Sl.nil _ _ _ _) (fun c _ _ h=>zg c h) (by omega)
 have ok':=told_ok ok hwho (g:=[]) List.nodup_nil (fun k hk=>by cases hk)
 have zp:=(zg t2.n (by omega)).trans yp
 simp (disch:=first|omega|(with_unfolding_all exact rfl)|(simp only[new_n,put_n,new_m];omega)|(refine put_m_le ?_;simp only[new_m];omega)) only [K7r28,Abs.W,reduceIte,Nat.reduceEqDiff,Nat.reduceAdd,decide_true,decide_false,kLoop_def,Nat.reduceSub,List.cons_append,List.nil_append,List.append_nil,List.length_cons,List.length_nil,Env.find_set,zp,kv1,kv2,knL,Nat.zero_add]
 generalize hc5:call _ _ _ (.fn 18) _ _=rc
 obtain ⟨vZ,t5,hsZ,rfl,s5,SZ,hZl,IZ⟩:=Let_ex hc5 (by omega) ok' own3.at_ (by omega)
 have hZl:hsZ.length=l.stalls.length:=hZl
 have s5n:=s5.n
 have s5l:=s5.le
 have s5m:=s5.m
 have g5:∀ c,c<w.n→c≠d→t5.h.get c=w.h.get c:=fun c h1 h2=>(s5.same c (by omega)).trans ((zg c (by omega)).trans ((yg c (by omega)).trans ((s2.same c (by omega)).trans (g1 c h1 h2))))
 have t54:=(g5 p4 hp.1 hp.2).trans g4
 have hL5:=own.grow (h':=t5.h) (n':=t5.n) (fun c h1 h2=>g5 c h1 (by omega)) (by omega)
 have hX5:=hX.move (h':=t5.h) (n':=t5.n) (fun b hb h=>⟨g5 b hb (fun e=>hnx (e▸h)),h⟩) (by omega)
 have kZ:=SZ.okA
 have lZ:∀ s,lenSlA s vZ=.val (.int .i64 (l.stalls.length:Int)) s:=fun s=>by
  have:=rowLen SZ.at_ s
  rw [hZl] at this
  exact this
 have ex0:∀ (a b:AV) (s:St),extA 0 s (.tup [a,b])=.val a s:=fun _ _ _=>rfl
 have ex1:∀ (a b:AV) (s:St),extA 1 s (.tup [a,b])=.val b s:=fun _ _ _=>rfl
 have okt:∀ (a b:AV) (s:St),okA (.val (.tup [a,b]) s)=.val (.tup [a,b]) s:=fun _ _ _=>rfl
 have z0:decide ((0:Int)=0)=true:=rfl
 have z1:decide ((l.stalls.length:Int)=(l.stalls.length:Int))=true:=by simp
 simp (disch:=first|omega|(with_unfolding_all exact rfl)|(simp only[new_n,put_n,new_m];omega)|(refine put_m_le ?_;simp only[new_m];omega)) only [K7r29,K7r29s4,K7r29s5,K7r29s6,K7r29s7,K7r29s8,K7r29s9,K7r31,Abs.W,reduceIte,Nat.reduceEqDiff,Nat.reduceAdd,decide_true,decide_false,kLoop_def,Nat.reduceSub,List.cons_append,List.nil_append,List.append_nil,List.length_cons,List.length_nil,Env.find_set,ex0,ex1,okt,q4,t54,kS,kA,lS,kZ,lZ,z0,z1,Nat.zero_add]
 generalize hlp:loopN _ rounds _ _ _ _ _=rl
 obtain ⟨L1,rfl⟩:=room_loop2 n (by omega) (p4:=p4) (who:=who) hlp ok hL5.at_ t54 hX5 SZ (by omega) (by omega) (fun a ha hne=>lessL ok hwho IX IZ ha hne) (by omega) (by omega)
  (by simp only [find_cons,Env.find_set,q4,reduceIte,Nat.reduceEqDiff]) (by simp only [find_cons,Env.find_set,q9,reduceIte,Nat.reduceEqDiff]) (by simp only [find_cons,Env.find_set,reduceIte,Nat.reduceEqDiff]) (by simp only [find_cons,Env.find_set,reduceIte,Nat.reduceEqDiff]) (by simp only [find_cons,Env.find_set,reduceIte,Nat.reduceEqDiff];rfl)
 simp (disch:=first|omega|(with_unfolding_all exact rfl)|(simp only[new_n,put_n,new_m];omega)|(refine put_m_le ?_;simp only[new_m];omega)) only [K7r36,res7,Abs.W,reduceIte,Nat.reduceEqDiff,Nat.reduceAdd,decide_true,decide_false,kLoop_def,Nat.reduceSub,List.cons_append,List.nil_append,List.append_nil,List.length_cons,List.length_nil,Env.find_set,knA]
 exact ⟨_,rfl⟩
theorem roo_body (n:Nat) (hn:20≤n) (cx:Ctx) (s:St) (d:Nat) (hd:Die d s.h) (hdn:d<s.n) (hs:s.n+900000000≤far) (hm:s.m=far) :
  ∃ s',finA Try.prog Try.f7 (rooRest (awd n) cx (.cons 3 (.ptr d 0) .nil) [] s)=.val (.bool true) s':=by
 have hf:far=1000000000:=rfl
 have knB:∀ args s,awd n (.fn 12) args s=call Try.prog X n (.fn 12) args s:=fun _ _=>rfl
 have knF:∀ args s,awd n (.fn 26) args s=call Try.prog X n (.fn 26) args s:=fun _ _=>rfl
 have knY:∀ args s,awd n (.fn 25) args s=call Try.prog X n (.fn 25) args s:=fun _ _=>rfl
 have knD:∀ args s,awd n (.fn 18) args s=call Try.prog X n (.fn 18) args s:=fun _ _=>rfl
 have knA:∀ s,awd n (.fn 14) [] s=.val (.bool true) s:=fun _=>rfl
 unfold rooRest
 simp (disch:=first|omega|(with_unfolding_all exact rfl)|(simp only[new_n,put_n,new_m];omega)|(refine put_m_le ?_;simp only[new_m];omega)) only [K7r2,Abs.W,reduceIte,Nat.reduceEqDiff,Nat.reduceAdd,decide_true,decide_false,kLoop_def,Nat.reduceSub,List.cons_append,List.nil_append,List.append_nil,List.length_cons,List.length_nil,Env.find_set,knB]
 generalize hc1:call _ _ _ (.fn 12) _ _=r1
 obtain ⟨l,vS,vA,bS,bA,t1,rfl,st1,d1,ok,hk,hmm,own⟩:=LettingOf_ex (k:=6) (m:=6) hc1 (by omega) hd hdn (by omega) (by omega) (by omega)
 have n1:=st1.n
 have k1:=st1.le
 have m1:=st1.mle
 have k0:=ok.k0
 have scB:=own.at_.scal
 have kA:=own.at_.okV
 have kS:=own.at_.okS
 have lA:=own.at_.lenA
 have lS:=own.at_.lenS
 simp (disch:=first|omega|(with_unfolding_all exact rfl)|(simp only[new_n,put_n,new_m];omega)|(refine put_m_le ?_;simp only[new_m];omega)) only [Abs.W,reduceIte,Nat.reduceEqDiff,Nat.reduceAdd,decide_true,decide_false,kLoop_def,Nat.reduceSub,List.cons_append,List.nil_append,List.append_nil,List.length_cons,List.length_nil,Env.find_set,scB,Nat.zero_add]
 obtain ⟨y,hy⟩:∃ y:St,y=(t1.new (.cells [.nilslice,.nilslice] (tag 28))).put t1.n (.cells [vS,vA] (tag 28)):=⟨_,rfl⟩
 have yn:y.n=t1.n+1:=by rw [hy];rfl
 have ym:y.m≤t1.m:=by rw [hy];simp only [St.put,minN_eq,new_m];omega
 have yg:∀ c,c<t1.n→y.h.get c=t1.h.get c:=fun c hc=>by rw [hy,get_put_ne' _ _ _ _ (by omega),get_new_ne _ _ _ (by omega)]
 have y4:y.h.get t1.n=some (.cells [vS,vA] (tag 28)):=by rw [hy];exact get_put_eq _ _ _ _ rfl (by omega)
 have dy:Die d y.h:=Die.keep d1 (yg d (by omega))
 have owny:=own.grow (h':=y.h) (n':=y.n) (fun c h1 _=>yg c h1) (by omega)
 rw [← hy]
 clear hy
 simp (disch:=first|omega|(with_unfolding_all exact rfl)|(simp only[new_n,put_n,new_m];omega)|(refine put_m_le ?_;simp only[new_m];omega)) only [K7r3,Abs.W,reduceIte,Nat.reduceEqDiff,Nat.reduceAdd,decide_true,decide_false,kLoop_def,Nat.reduceSub,List.cons_append,List.nil_append,List.append_nil,List.length_cons,List.length_nil,Env.find_set,y4,kS,kA,knY,Nat.zero_add]
 generalize hc2:call _ _ _ (.fn 25) _ _=r2
 obtain ⟨v1,v2,b1,b2,t2,rfl,s2,own2,apO⟩:=copyLetting_ex2 hc2 (by omega) ok owny.at_ (by omega)
 have hb2n:=apO.hb
 have s2n:=s2.n
 have s2l:=s2.le
 have s2m:=s2.m
 have sc:=own2.at_.scal
 have kv1:=own2.at_.okS
 have kv2:=own2.at_.okV
 simp (disch:=first|omega|(with_unfolding_all exact rfl)|(simp only[new_n,put_n,new_m];omega)|(refine put_m_le ?_;simp only[new_m];omega)) only [Abs.W,reduceIte,Nat.reduceEqDiff,Nat.reduceAdd,decide_true,decide_false,kLoop_def,Nat.reduceSub,List.cons_append,List.nil_append,List.append_nil,List.length_cons,List.length_nil,Env.find_set,sc,Nat.zero_add]
 obtain ⟨z,hz⟩:∃ z:St,z=(t2.new (.cells [.nilslice,.nilslice] (tag 28))).put t2.n (.cells [v1,v2] (tag 28)):=⟨_,rfl⟩
 have zn:z.n=t2.n+1:=by rw [hz];rfl
 have zm:z.m≤t2.m:=by rw [hz];simp only [St.put,minN_eq,new_m];omega
 have zg:∀ c,c<t2.n→z.h.get c=t2.h.get c:=fun c hc=>by rw [hz,get_put_ne' _ _ _ _ (by omega),get_new_ne _ _ _ (by omega)]
 have z5:z.h.get t2.n=some (.cells [v1,v2] (tag 28)):=by rw [hz];exact get_put_eq _ _ _ _ rfl (by omega)
 have dz:Die d z.h:=Die.keep dy ((zg d (by omega)).trans (s2.same d (by omega)))
 have hsS:IsAt z.h z.n b1 3 (tag 53) (l.stalls.map StallR.cells) v1:=own2.st.mono (fun h=>zg b1 h) (by omega)
 obtain ⟨l1,l2,l3⟩:=own2.lo
 rw [← hz]
 clear hz
 simp (disch:=first|omega|(with_unfolding_all exact rfl)|(simp only[new_n,put_n,new_m];omega)|(refine put_m_le ?_;simp only[new_m];omega)) only [K7r4,Abs.W,reduceIte,Nat.reduceEqDiff,Nat.reduceAdd,decide_true,decide_false,kLoop_def,Nat.reduceSub,List.cons_append,List.nil_append,List.append_nil,List.length_cons,List.length_nil,Env.find_set,z5,kv1,kv2,knF,Nat.zero_add]
 generalize hc3:call _ _ _ (.fn 26) _ _=r3
 obtain ⟨x,t3,rfl,st3,d3,x0,x1⟩:=from_ex (s:=⟨z.h,z.n,far⟩) hc3 (by omega) dz (by show d<z.n;omega) (by show z.n+200≤far;omega) (by omega) (by omega) (by omega) (by omega)
 have s3n:z.n≤t3.n:=st3.n
 have s3l:t3.n≤z.n+0:=st3.le
 have g3:∀ c,c<z.n→c≠d→t3.h.get c=z.h.get c:=st3.same
 have t35:=(g3 t2.n (by omega) (by omega)).trans z5
 have kp:keptV z.h t3.h (.ptr t2.n 0)=true:=by rw [keptV_ptr,t35,z5,sameO_cells]
 have hmn:minN z.m t3.m=min z.m t3.m:=minN_min _ _
 obtain ⟨q,hq⟩:∃ q:St,q=(⟨t3.h,t3.n,minN z.m t3.m⟩:St).new (.cells [.int .i64 x,.int .i64 0,.int .i64 (-1)] 0):=⟨_,rfl⟩
 have qn:q.n=t3.n+1:=by rw [hq];rfl
 have qm:q.m=min z.m t3.m:=by rw [← hmn,hq];rfl
 have qg:∀ c,c<t3.n→q.h.get c=t3.h.get c:=fun c hc=>by rw [hq];exact get_new_ne _ _ _ (by show c≠t3.n;omega)
 have qp:q.h.get t3.n=some (.cells [.int .i64 x,.int .i64 0,.int .i64 (-1)] 0):=by rw [hq];exact get_new_eq _ _ _ rfl (by show t3.n<_;omega)
 obtain ⟨s7,e7,l7,n7,g7,m7,m7'⟩:=append_at (bytes:=24) (hsS.mono (h':=q.h) (n':=q.n) (fun h=>(qg b1 (by omega)).trans (g3 b1 h (by omega))) (by omega)) qp rfl rfl (by rw [List.length_map];omega) (by kernel_rfl) (by omega)
 rw [List.length_map] at e7 l7
 obtain ⟨v7,hv7⟩:∃ v7,v7=AV.slice q.n 0 (l.stalls.length+1) (l.stalls.length+1) true:=⟨_,rfl⟩
 rw [← hv7] at e7 l7
 have sc7:scalars [v7]=true:=by rw [hv7];rfl
 have cc7:cellsOf 1 v7=some [v7]:=by rw [hv7];rfl
 have s7z:∀ c,c<z.n→c≠d→c≠b1→s7.h.get c=z.h.get c:=fun c h1 h2 h3=>(g7 c (by omega) h3).trans ((qg c (by omega)).trans (g3 c h1 h2))
 have b1t:b1<t2.n:=by
  rcases own2.st.is with ⟨z',_⟩ | ⟨_,z1,_⟩
  ·have:=congrArg List.length z'
   rw [List.length_map,List.length_nil] at this
   omega
  ·exact z1
 have s75:=(s7z t2.n (by omega) (by omega) (by omega)).trans z5
 have q5:=(qg t2.n (by omega)).trans t35
 rw [hq] at e7
 simp (disch:=first|omega|(with_unfolding_all exact rfl)|(simp only[new_n,put_n,new_m];omega)|(refine put_m_le ?_;simp only[new_m];omega)) only [thenT_turn,Abs.W,reduceIte,Nat.reduceEqDiff,Nat.reduceAdd,decide_true,decide_false,kLoop_def,Nat.reduceSub,List.cons_append,List.nil_append,List.append_nil,List.length_cons,List.length_nil,Env.find_set,e7,s75,sc7,cc7,Nat.zero_add]
 rw [endT_kept (l:=[26]) (s':=t3) (by simp only [keptAll_cons,keptAll_nil,find_cons,Env.find_set,kp,reduceIte,Nat.reduceEqDiff,Bool.and_self])]
 have e0n:∀ (M:Env) (s:St),endO [] (.ok M s)=.ok M s:=fun _ _=>rfl
 rw [e0n]
 obtain ⟨u,hu⟩:∃ u:St,u=s7.put t2.n (.cells [v7,v2] (tag 28)):=⟨_,rfl⟩
 have un:u.n=s7.n:=by rw [hu];rfl
 have um:u.m≤s7.m:=by rw [hu];simp only [St.put,minN_eq];omega
 have ug:∀ c,c≠t2.n→u.h.get c=s7.h.get c:=fun c hc=>by rw [hu,get_put_ne' _ _ _ _ hc]
 have u5:u.h.get t2.n=some (.cells [v7,v2] (tag 28)):=by rw [hu];exact get_put_eq _ _ _ _ rfl (by omega)
 have uz:∀ c,c<z.n→c≠d→c≠b1→c≠t2.n→u.h.get c=z.h.get c:=fun c h1 h2 h3 h4=>(ug c h4).trans (s7z c h1 h2 h3)
 have du:Die d u.h:=Die.keep d3 ((ug d (by omega)).trans ((g7 d (by omega) (by omega)).trans (qg d (by omega))))
 have ownu:LetOwn u.h u.n y.n q.n b2 ⟨l.stalls++[⟨x,0, -1⟩],l.appls⟩ v7 v2:=by
  obtain ⟨⟨ws,w1,w2,w3⟩,_,_⟩:=apO
  refine ⟨?_,⟨ws,w1,w2.mono (fun h=>(uz b2 (by omega) (by omega) (Ne.symm l3) (by omega)).trans (zg b2 h)) (by omega),fun i h1 h2=>?_⟩,by omega,l2,by omega⟩
  ·rw [List.map_append]
   exact l7.mono (fun _=>ug q.n (by omega)) (by omega)
  ·exact ⟨(w3 i h1 h2).1.move (fun b hb h=>⟨(uz b (by omega) (by omega) (by omega) (by omega)).trans (zg b hb),by omega,h.2⟩) (by omega),(w3 i h1 h2).2.move (fun b hb h=>⟨(uz b (by omega) (by omega) (by omega) (by omega)).trans (zg b hb),by omega,h.2⟩) (by omega)⟩
 have R0:RoomL l ⟨l.stalls++[⟨x,0, -1⟩],l.appls⟩:=⟨⟨x,by omega,by omega,rfl⟩,rfl,fun i h h'=>.inl rfl,hk⟩
 have u4:=(uz t1.n (by omega) (by omega) (by omega) (by omega)).trans ((zg t1.n (by omega)).trans ((s2.same t1.n (by omega)).trans y4))
 have uy:∀ c,c<y.n→c≠d→u.h.get c=y.h.get c:=fun c h1 h2=>(uz c (by omega) h2 (by omega) (by omega)).trans ((zg c (by omega)).trans (s2.same c h1))
 rw [← hu]
 clear hu
 simp (disch:=first|omega|(with_unfolding_all exact rfl)|(simp only[new_n,put_n,new_m];omega)|(refine put_m_le ?_;simp only[new_m];omega)) only [K7r5,Abs.W,reduceIte,Nat.reduceEqDiff,Nat.reduceAdd,decide_true,decide_false,kLoop_def,Nat.reduceSub,List.cons_append,List.nil_append,List.append_nil,List.length_cons,List.length_nil,Env.find_set]
 generalize hlp:loopN _ rounds _ _ _ _ _=rl
 obtain ⟨L1,t6,rfl,J6,gL⟩:=room_loop0 n (by omega) (d:=d) (p4:=t1.n) (p5:=t2.n) (lo:=y.n) (bS:=q.n) (bA:=b2) (l:=l) (vS:=vS) (vA:=vA) (vS1:=v7) (v2:=v2) hlp ⟨⟨_,R0,fun j h h' _=>rfl,ownu⟩,u5,du,fun _ _ _=>rfl,Nat.le_refl _,by omega,by omega⟩ ok u4 kS lS (by omega) ⟨by omega,by omega⟩ ⟨by omega,fun h=>by omega,by omega⟩ (by omega) (by omega)
  (by simp only [find_cons,Env.find_set,reduceIte,Nat.reduceEqDiff]) (by simp only [find_cons,Env.find_set,reduceIte,Nat.reduceEqDiff]) (by simp only [find_cons,Env.find_set,reduceIte,Nat.reduceEqDiff]) (by simp only [find_cons,Env.find_set,reduceIte,Nat.reduceEqDiff];rfl)
 obtain ⟨⟨m,R,_,own6⟩,g65,d6,same6,n6,k6,m6⟩:=J6
 have okm:=R.ok ok
 have f3:L1.find 3=.ptr d 0:=(gL 3 (by omega)).trans (by simp only [find_cons,Env.find_set,reduceIte,Nat.reduceEqDiff])
 have f4:L1.find 4=.ptr t1.n 0:=(gL 4 (by omega)).trans (by simp only [find_cons,Env.find_set,reduceIte,Nat.reduceEqDiff])
 have f5:L1.find 5=.ptr t2.n 0:=(gL 5 (by omega)).trans (by simp only [find_cons,Env.find_set,reduceIte,Nat.reduceEqDiff])
 have y6:∀ c,c<y.n→c≠d→t6.h.get c=y.h.get c:=fun c h1 h2=>(same6 c h1 h2).trans (uy c h1 h2)
 have t64:=(y6 t1.n (by omega) (by omega)).trans y4
 have own61:=owny.grow (h':=t6.h) (n':=t6.n) (fun c h1 h2=>y6 c h1 (by omega)) (by omega)
 have km1:=own6.at_.okS
 have km2:=own6.at_.okV
 have lmS:=own6.at_.lenS
 rw [R.slen] at lmS
 simp (disch:=first|omega|(with_unfolding_all exact rfl)|(simp only[new_n,put_n,new_m];omega)|(refine put_m_le ?_;simp only[new_m];omega)) only [K7r13,Abs.W,reduceIte,Nat.reduceEqDiff,Nat.reduceAdd,decide_true,decide_false,kLoop_def,Nat.reduceSub,List.cons_append,List.nil_append,List.append_nil,List.length_cons,List.length_nil,Env.find_set,f4,t64,kS,kA,knD,Nat.zero_add]
 generalize hc7:call _ _ _ (.fn 18) _ _=r7
 obtain ⟨vX,t7,hsX,rfl,s7',SX,hXl,IX⟩:=Let_ex hc7 (by omega) ok own61.at_ (by omega)
 have n7:=s7'.n
 have k7:=s7'.le
 have m7:=s7'.m
 have ex0:∀ (a b:AV) (s:St),extA 0 s (.tup [a,b])=.val a s:=fun _ _ _=>rfl
 have ex1:∀ (a b:AV) (s:St),extA 1 s (.tup [a,b])=.val b s:=fun _ _ _=>rfl
 have okt:∀ (a b:AV) (s:St),okA (.val (.tup [a,b]) s)=.val (.tup [a,b]) s:=fun _ _ _=>rfl
 have t75:=(s7'.same t2.n (by omega)).trans g65
 have own7:=own6.grow (h':=t7.h) (n':=t7.n) (fun c h1 _=>s7'.same c h1) (by omega)
 have kX:=SX.okA
 have lX:∀ s,lenSlA s vX=.val (.int .i64 (l.stalls.length:Int)) s:=fun s=>by
  have:=rowLen SX.at_ s
  rw [hXl] at this
  exact this
 simp (disch:=first|omega|(with_unfolding_all exact rfl)|(simp only[new_n,put_n,new_m];omega)|(refine put_m_le ?_;simp only[new_m];omega)) only [K7r14,Abs.W,reduceIte,Nat.reduceEqDiff,Nat.reduceAdd,decide_true,decide_false,kLoop_def,Nat.reduceSub,List.cons_append,List.nil_append,List.append_nil,List.length_cons,List.length_nil,Env.find_set,ex0,ex1,okt,kX,f5,t75,km1,km2,knD,Nat.zero_add]
 generalize hc8:call _ _ _ (.fn 18) _ _=r8
 obtain ⟨vY,t8,hsY,rfl,s8,SY,hYl,IY⟩:=Let_ex hc8 (by omega) okm own7.at_ (by omega)
 have n8:=s8.n
 have k8:=s8.le
 have m8:=s8.m
 have hYl':hsY.length=l.stalls.length+1:=by rw [hYl,R.slen]
 have kY:=SY.okA
 have lY:∀ s,lenSlA s vY=.val (.int .i64 ((l.stalls.length+1:Nat):Int)) s:=fun s=>by
  have:=rowLen SY.at_ s
  rw [hYl'] at this
  exact this
 have g8:∀ c,c<t6.n→t8.h.get c=t6.h.get c:=fun c hc=>(s8.same c (by omega)).trans (s7'.same c hc)
 have t84:=(g8 t1.n (by omega)).trans t64
 have t85:=(g8 t2.n (by omega)).trans g65
 have SX8:=SX.grow s8.same (by omega:t7.n≤t8.n)
 have own8:=own61.grow (h':=t8.h) (n':=t8.n) (fun c h1 _=>g8 c h1) (by omega)
 have own8m:=own6.grow (h':=t8.h) (n':=t8.n) (fun c h1 _=>g8 c h1) (by omega)
 have z0:decide ((0:Int)=0)=true:=rfl
 have z1:decide ((l.stalls.length:Int)=(l.stalls.length:Int))=true:=by simp
 have z2:decide (((l.stalls.length+1:Nat):Int)=((l.stalls.length+1:Nat):Int))=true:=by simp
 have u4:=fun cl L s=>congrFun (congrFun (congrFun K7r15s4.eq_1 cl) L) s
 have u5:=fun cl L s=>congrFun (congrFun (congrFun K7r15s5.eq_1 cl) L) s
 have u8:=fun cl L s=>congrFun (congrFun (congrFun K7r15s8.eq_1 cl) L) s
 have u9:=fun cl L s=>congrFun (congrFun (congrFun K7r15s9.eq_1 cl) L) s
 have u10:=fun cl L s=>congrFun (congrFun (congrFun K7r15s10.eq_1 cl) L) s
 have u11:=fun cl L s=>congrFun (congrFun (congrFun K7r15s11.eq_1 cl) L) s
 have u12:=fun cl L s=>congrFun (congrFun (congrFun K7r15s12.eq_1 cl) L) s
 have u13:=fun cl L s=>congrFun (congrFun (congrFun K7r15s13.eq_1 cl) L) s
 have u16:=fun cl L s=>congrFun (congrFun (congrFun K7r15s16.eq_1 cl) L) s
 have u17:=fun cl L s=>congrFun (congrFun (congrFun K7r15s17.eq_1 cl) L) s
 have u18:=fun cl L s=>congrFun (congrFun (congrFun K7r15s18.eq_1 cl) L) s
 have u19:=fun cl L s=>congrFun (congrFun (congrFun K7r15s19.eq_1 cl) L) s
 have u20:=fun cl L s=>congrFun (congrFun (congrFun K7r15s20.eq_1 cl) L) s
 have u21:=fun cl L s=>congrFun (congrFun (congrFun K7r15s21.eq_1 cl) L) s
 simp (config:={ maxSteps:=2000000 }) (disch:=first|omega|(with_unfolding_all exact rfl)|(simp only[new_n,put_n,new_m];omega)|(refine put_m_le ?_;simp only[new_m];omega)) only [K7r15,u4,u5,u8,u9,u10,u11,u12,u13,u16,u17,u18,u19,u20,u21,K7r17,Abs.W,reduceIte,Nat.reduceEqDiff,Nat.reduceAdd,decide_true,decide_false,kLoop_def,Nat.reduceSub,List.cons_append,List.nil_append,List.append_nil,List.length_cons,List.length_nil,Env.find_set,ex0,ex1,okt,f4,f5,t84,t85,kS,kX,kY,km1,lS,lX,lY,lmS,z0,z1,z2,Nat.zero_add]
 generalize hlp:loopN _ rounds _ _ _ _ _=rl
 obtain ⟨L2,t9,rfl,g9,n9,k9,m9,gL2⟩:=room_loop1 n (by omega) (p4:=t1.n) (p5:=t2.n) hlp ok okm R.len own8.at_ own8m.at_ t84 t85 SX8 SY (by omega) (by omega) ⟨by omega,by omega⟩ (fun a ha=>roomL_place R ok hXl IX IY ha) (by omega) (by omega)
  (by simp only [find_cons,Env.find_set,f4,reduceIte,Nat.reduceEqDiff]) (by simp only [find_cons,Env.find_set,f5,reduceIte,Nat.reduceEqDiff]) (by simp only [find_cons,Env.find_set,reduceIte,Nat.reduceEqDiff]) (by simp only [find_cons,Env.find_set,reduceIte,Nat.reduceEqDiff]) (by simp only [find_cons,Env.find_set,reduceIte,Nat.reduceEqDiff];rfl)
 have h3:L2.find 3=.ptr d 0:=(gL2 3 (by omega)).trans (by simp only [find_cons,Env.find_set,f3,reduceIte,Nat.reduceEqDiff])
 have h4:L2.find 4=.ptr t1.n 0:=(gL2 4 (by omega)).trans (by simp only [find_cons,Env.find_set,f4,reduceIte,Nat.reduceEqDiff])
 have h9:L2.find 9=vX:=(gL2 9 (by omega)).trans (by simp only [find_cons,Env.find_set,reduceIte,Nat.reduceEqDiff])
 have t94:=(g9 t1.n (by omega)).trans t84
 have own9:=own8.grow (h':=t9.h) (n':=t9.n) (fun c h1 _=>g9 c h1) (by omega)
 have SX9:=SX8.grow g9 (by omega:t8.n≤t9.n)
 have d9:Die d t9.h:=Die.keep d6 ((g9 d (by omega)).trans (g8 d (by omega)))
 by_cases h0:l.appls.length=0
 ·rw [h0] at lA
  have e0:decide (((0:Nat):Int)=0)=true:=rfl
  simp (disch:=first|omega|(with_unfolding_all exact rfl)|(simp only[new_n,put_n,new_m];omega)|(refine put_m_le ?_;simp only[new_m];omega)) only [K7r23,K7r24,res7,Abs.W,reduceIte,Nat.reduceEqDiff,Nat.reduceAdd,decide_true,decide_false,kLoop_def,Nat.reduceSub,List.cons_append,List.nil_append,List.append_nil,List.length_cons,List.length_nil,Env.find_set,h4,t94,kA,lA,e0,knA,Nat.zero_add]
  exact ⟨_,rfl⟩
 ·have e0:decide ((l.appls.length:Int)=0)=false:=decide_eq_false (by omega)
  have hless:=fun L q3 q4 q9=>roo_less n hn cx (w:=t9) (L:=L) (z4:=tag 28) ok (by omega) own9 d9 (by omega) (by omega) t94 ⟨by omega,by omega⟩ SX9 (by omega) hXl IX (by omega) (by omega) q3 q4 q9
  unfold rooLess at hless
  simp (disch:=first|omega|(with_unfolding_all exact rfl)|(simp only[new_n,put_n,new_m];omega)|(refine put_m_le ?_;simp only[new_m];omega)) only [K7r23,Abs.W,reduceIte,Nat.reduceEqDiff,Nat.reduceAdd,decide_true,decide_false,kLoop_def,Nat.reduceSub,List.cons_append,List.nil_append,List.append_nil,List.length_cons,List.length_nil,Env.find_set,h4,t94,kA,lA,e0,Nat.zero_add] at hless ⊢
  refine hless _ ?_ ?_ ?_
  ·simp only [Env.find_set,h3,reduceIte,Nat.reduceEqDiff]
  ·simp only [Env.find_set,h4,reduceIte,Nat.reduceEqDiff]
  ·simp only [Env.find_set,h9,reduceIte,Nat.reduceEqDiff]
end Go.Proofs.Ythbhjgbpjlnbcaa.walk
set_option maxRecDepth 10000
namespace Go.Proofs.Ythbhjgbpjlnbcaa.walk
open Go.Abs Go.Proofs.Ythbhjgbpjlnbcaa.code
end Go.Proofs.Ythbhjgbpjlnbcaa.walk
namespace Go.Proofs.Ythbhjgbpjlnbcaa.mdie
open Go.RowKit
def Die (b:Nat) (w:World):Prop:=∃ s,w.heap[b]? = some (.cells #[.int .u64 s] 63 (0,0))
theorem Die.old {b:Nat} {w:World} (h:Die b w):(∃ s,w.cell? ⟨b,0,none⟩=some (.int .u64 s))∧w.frozen? ⟨b,0,none⟩=false:=by
 obtain ⟨s,hs⟩:=h
 refine ⟨⟨s,?_⟩,?_⟩
 ·unfold World.cell?;simp [hs]
 ·unfold World.frozen?;simp [hs]
structure Stir (b:Nat) (w w':World):Prop where
 below:Below b w w'
 rest:∀ p:Addr,p.block≠b→p.block<w.heap.size→w'.cell? p=w.cell? p∧w'.frozen? p=w.frozen? p
 die:Die b w'
def Gives (b:Nat) (k:IntKind) (Q:Int→Prop) (w:World) (e:Ending) (w':World):Prop:=∃ r,Q r∧e=.returned (.int k r)∧Stir b w w'
theorem bits_nonneg (op:BinOp) (x y:Int):0≤bits op .u64 x y:=by
 have:=bounds_u64 (wf_bits (k:=.u64) (op:=op) (x:=x) (y:=y))
 exact this.1
theorem Stir.set {b:Nat} {w:World} (h:Die b w) (s:Int):Stir b w (w.setCell ⟨b,0,none⟩ (.int .u64 s)):=by
 obtain ⟨t,ht⟩:=h
 refine ⟨(Below.refl b w).setCell (p:=⟨b,0,none⟩) (Nat.le_refl b) _,fun p hp _=>⟨World.cell?_of_block (Below.heap_setCell _ _ _ _ hp),World.frozen?_of_block (Below.heap_setCell _ _ _ _ hp)⟩,⟨s,?_⟩⟩
 unfold World.setCell
 simp [Array.getElem?_modify,ht]
theorem roll (b:Nat) (w:World) (h:Die b w):Calls Try.prog 32 #[.pointer (some ⟨b,0,none⟩)] w (Gives b .u64 (fun r=>0≤r) w):=by
 have h':=Lib.hid h
 obtain ⟨⟨s,hs⟩,hf⟩:=h.old
 clear h
 go_enter Try.func32,Try.ntmps32
 go_wp2
 go_ret
 exact ⟨_,bits_nonneg _ _ _,rfl,Stir.set h'.out _⟩
theorem Stir.refl {b:Nat} {w:World} (h:Die b w):Stir b w w:=⟨Below.refl _ _,fun _ _ _=>⟨rfl,rfl⟩,h⟩
theorem Stir.trans {b:Nat} {u v w:World} (h:Stir b u v) (k:Stir b v w):Stir b u w :=
 ⟨h.below.trans k.below,fun p hp hb=>⟨(k.rest p hp (Nat.lt_of_lt_of_le hb h.below.size)).1.trans (h.rest p hp hb).1,(k.rest p hp (Nat.lt_of_lt_of_le hb h.below.size)).2.trans (h.rest p hp hb).2⟩,k.die⟩
theorem Die.lt {b:Nat} {w:World} (h:Die b w):b<w.heap.size:=by obtain ⟨⟨s,hs⟩,_⟩:=h.old;exact World.block_lt_of_cell? w _ hs
theorem Stir.drew {b:Nat} {w w':World} (h:Stir b w w'):Stir b w w'.drew:=h.trans ⟨⟨rfl,rfl,rfl,Nat.le_refl _,fun _ _=>rfl⟩,fun _ _ _=>⟨rfl,rfl⟩,h.die⟩
def Born (w:World) (e:Ending) (w':World):Prop:=e=.returned (.pointer (some ⟨w.heap.size,0,none⟩))∧Below w.heap.size w w'∧Die w.heap.size w'∧w.heap.size<w'.heap.size
theorem Die.born (w:World) (s:Int):Die w.heap.size (w.alloc (.cells #[.int .u64 s] 63)):=⟨s,by show (w.heap.push _)[w.heap.size]? = _;rw [Array.getElem?_push,if_pos rfl]⟩
set_option maxRecDepth 100000 in
theorem born (x:Option Addr) (n c:Nat) (w:World) (hn:n≤maxLen) (hc:∀ i,i<n→∃ b o,x=some ⟨b,o,none⟩∧∃ v,w.cell? ⟨b,o+i,none⟩=some (.int .i64 v)) :
  Calls Try.prog 11 #[.slice x n c] w (Born w):=by
 unfold maxLen at hn
 have HC:=Lib.hid hc
 clear hc
 have hdie:=Lib.hid (Die.born w 2611923443488327891)
 go_enter Try.func11,Try.ntmps11
 go_wp2
 go_loopw [4] (fun i wr=>∃ k:Nat,k≤n∧i=.int .i64 k∧Stir w.heap.size (w.alloc (.cells #[.int .u64 2611923443488327891] 63)) wr) (fun i _=>n - (intOf i).toNat)
 case atStart=>exact ⟨0,Nat.zero_le _,rfl,Stir.refl hdie.out⟩
 case round =>
  obtain ⟨k,hk,rfl,hs⟩:=hrel
  by_cases hlt:k<n
  ·obtain ⟨b,o,rfl,v,hv⟩:=HC.out k hlt
   have hb:=World.block_lt_of_cell? _ _ hv
   simp only at hb
   have hv1:wr.cell? ⟨b,o+k,none⟩=some (.int .i64 v):=((hs.rest ⟨b,o+k,none⟩ (Nat.ne_of_lt hb) (by simp;omega)).1.trans (World.cell?_of_block (Below.heap_alloc _ _ _ hb))).trans hv
   clear hv
   obtain ⟨⟨s,hd⟩,hf⟩:=hs.die.old
   have hst:=Lib.hid (fun s1:Int=>(hs.drew).trans (Stir.set hs.drew.die s1))
   have hlt':(k:Int)<(n:Int):=by omega
   have hk0:(0:Int)≤(k:Int):=by omega
   go_wp2
   go_still_tail 12,(by kernel_rfl)
   change wpList _ _ _ _ _ wr.drew
   go_wp2_with (go_at_call 32;refine (roll _ _ ?_).mono ?_;exact (hst.out _).die;rintro e w1 ⟨r,hr,rfl,hs1⟩;(have hs2:=(hst.out _).trans hs1))
   go_roundw
   case rel=>exact ⟨k+1,by omega,by go_num,hs2⟩
   case measure=>simp [intOf];omega
  ·go_wp2
   go_ret
   exact ⟨rfl,((Below.refl w.heap.size w).alloc (Nat.le_refl _) _).trans hs.below,hs.die,by have:=hs.below.size;simp at this;omega⟩
end Go.Proofs.Ythbhjgbpjlnbcaa.mdie
namespace Go.Abs
open Go.RowKit
variable {P:Program}
theorem mid_calls {cl:CallF} (hc:CallSound P cl) {f:FuncId} {fn:Func} (hf:P.funcs[f]? = some fn) {c0 c1 rest:Code} (hb:fn.body=some (.seq c0 (.seq c1 rest))) {X:FuncId→List Nat} {k:K} {A:Array Value} {W:World} {R:Ending→World→Prop}
  (h:c0.wp P (Exit.then (fun a w=>c1.wp P (Exit.then (fun a w=>∃ ρ L s v s',ActRel ρ fn.ntmps L [] a∧Clean (X f) L∧SRel ρ s w∧finA P fn (k cl ⟨f,none,fn.ntmps,X f⟩ L [] s)=.val v s'∧∀ ρ' V W',After ρ s w ρ' s' W'→VRel ρ' v V→R (.returned V) W') fun _ _ _=>False) a w) fun _ _ _=>False)
   { tmps:=A++Array.replicate (fn.ntmps - A.size) undef,defers:=[] } W)
  (hk:codeK P (X f) fn.ntmps rest=some k):Calls P f A W R:=by
 intro cs
 obtain ⟨b,hbd⟩:∃ b:Frame,b={ (default:Frame) with fn:=f,kind:=.normal }:=⟨_,rfl⟩
 have hr:b.roundOf=none:=by rw [hbd];rfl
 have henter:Frame.enter P f A .normal=b.at { tmps:=A++Array.replicate (fn.ntmps - A.size) undef,defers:=[] } [.code (.seq c0 (.seq c1 rest))]:=by
  rw [hbd];simp [Frame.enter,Frame.at,hf,hb]
 obtain ⟨e0,a0,w0,q0,ar0⟩:=h b [.code (.seq c1 rest)] cs
 cases e0<;>simp only [Exit.then] at q0
 obtain ⟨e1,a1,w1,q1,ar1⟩:=q0 b [.code rest] cs
 cases e1<;>simp only [Exit.then] at q1
 obtain ⟨ρ,L,s,v,s',hact,hclean,hs,hfin,hR⟩:=q1
 have st1:Steps P (lone (Frame.enter P f A .normal) cs W) (lone (b.atR a1 [.code rest]) cs w1):=by
  rw [henter,Frame.atR_of_none hr]
  exact (Steps.head step_seq ar0).trans (Steps.head step_seq ar1)
 have hctx:CtxRel ρ ⟨f,none,fn.ntmps,X f⟩ b:=⟨by rw [hbd],by rw [hbd],fun _=>hr,fun l e=>by cases e⟩
 generalize hr2:k cl ⟨f,none,fn.ntmps,X f⟩ L [] s=r at hfin
 cases r with
 | fail=>cases hfin
 | done e L1 d s₁ =>
  obtain ⟨ρ₁,a₁,W₁,af,ha₁,_,_,st⟩:=codeK_sound rest hk hc rfl rfl hctx hact hclean hs hr2
  have fin:∀ (hle:leaveA P fn.results.toList L1 d s₁=.val v s') (hst:∃ t,Steps P (lone (Frame.enter P f A .normal) cs W) (lone (back b a₁ t) cs W₁)),
    ∃ V w' fr,R (.returned V) w'∧Steps P (lone (Frame.enter P f A .normal) cs W) (lone fr cs w')∧fr.fn=f∧fr.leaving P w' (.returned V):=by
   intro hle hst
   obtain ⟨V,W₂,af₂,hv,st₂⟩:=leaveA_calls ha₁ af.rel hle
   obtain ⟨t,st₁⟩:=hst
   obtain ⟨fr,h1,h2,h3⟩:=st₂ b (by rw [hbd]) (by rw [hbd];exact hf) t cs
   exact ⟨V,W₂,fr,hR _ _ _ (af.trans af₂) hv,Steps.trans st₁ h1,by rw [h2,hbd],h3⟩
  cases e with
  | exit id=>cases hfin
  | norm =>
   have z:=st [] cs
   obtain ⟨V,w',fr,h1,h2,h3,h4⟩:=fin hfin ⟨[],st1.trans (Steps.trans z (.one (stepR_end hr)))⟩
   exact ⟨.returned V,w',fr,h1,h2,h3,h4⟩
  | ret =>
   obtain ⟨k0,z⟩:=st [] cs
   obtain ⟨V,w',fr,h1,h2,h3,h4⟩:=fin hfin ⟨.code .ret::k0,st1.trans (z.trans (.one (stepR_ret hr)))⟩
   exact ⟨.returned V,w',fr,h1,h2,h3,h4⟩
end Go.Abs
set_option maxRecDepth 10000
namespace Go.Proofs.Ythbhjgbpjlnbcaa.walk
open Go.Abs Go.RowKit Go.Proofs.Ythbhjgbpjlnbcaa.code
noncomputable def die0 (F:Int):St:=St.new ⟨.nil,0,far⟩ (.cells [.int .u64 F] (tag 63))
def rho0 (d:Nat):Rho:=fun b=>if b=0 then some (d,(0,0)) else none
theorem die0_get {F:Int} {b:Nat} {o:AObj} (h:(die0 F).h.get b=some o):b=0∧o=.cells [.int .u64 F] (tag 63):=by
 by_cases e:b=0
 ·subst e
  have:(die0 F).h.get 0=some (.cells [.int .u64 F] (tag 63)):=get_new_eq _ _ _ rfl (by decide)
  rw [this] at h
  exact ⟨rfl,(Option.some.inj h).symm⟩
 ·unfold die0 at h
  rw [get_new_ne _ _ _ e] at h
  cases h
theorem die0_has {F:Int} {b x:Nat} {o:AObj} (h:Has (die0 F).h b x o):b=0∧x=0∧o=.cells [.int .u64 F] (tag 63):=by
 obtain ⟨y,hy,hp⟩:=h
 obtain ⟨rfl,rfl⟩:=die0_get hy
 have hl:AObj.lone (.cells [.int .u64 F] (tag 63)):=trivial
 rw [parts_lone hl] at hp
 have:=List.mem_singleton.mp hp
 cases this
 exact ⟨rfl,rfl,rfl⟩
theorem die0_rel {F:Int} {d:Nat} {W:World} (h:W.heap[d]? = some (.cells #[.int .u64 F] 63 (0,0))):SRel (rho0 d) (die0 F) W:=by
 refine ⟨⟨fun b o hb=>?_,fun b x o hb=>?_,fun b b' x x' o o' c e e' hb hb' _ _=>?_,fun g cs hg=>(by cases hg),fun b x o c e hb hr=>rfl,fun b x x' o o' c e e' hb hb' hr hr'=>?_⟩,fun b hb=>?_⟩
 ·rw [(die0_get hb).1];decide
 ·obtain ⟨rfl,rfl,rfl⟩:=die0_has hb
  exact ⟨d,(0,0),_,if_pos rfl,h,.cells rfl (.cons (.int _ _) .nil) (Typed.tag _)⟩
 ·rw [(die0_has hb).1,(die0_has hb').1]
 ·obtain ⟨_,rfl,_⟩:=die0_has hb
  obtain ⟨_,rfl,_⟩:=die0_has hb'
  rw [hr] at hr'
  cases hr'
  rfl
 ·have:1≤b:=hb
  exact if_neg (by omega)
end Go.Proofs.Ythbhjgbpjlnbcaa.walk
set_option maxRecDepth 10000
namespace Go.Proofs.Ythbhjgbpjlnbcaa.walk
open Go.Abs Go.RowKit Go.Proofs.Ythbhjgbpjlnbcaa.code
set_option maxRecDepth 100000 in
theorem roo_calls (a:Option Addr) (n c:Nat) (w:World) (hn:n≤maxLen) (hc:∀ i,i<n→∃ b o,a=some ⟨b,o,none⟩∧∃ v,w.cell? ⟨b,o+i,none⟩=some (.int .i64 v)) :
  Calls Try.prog 7 #[.slice a n c] w fun e w'=>e=.returned (.bool true)∧Below w.heap.size w w':=by
 have HC:=Lib.hid hc
 clear hc
 refine mid_calls (cl:=knows 14 (call Try.prog X 20)) (knows_sound (call_sound 200) Try.func14 awake.entered (call_sound 20)) Try.func7 rfl (X:=X) (k:=rooRest) ?_ (by kernel_rfl)
 simp only [Try.ntmps7,List.size_toArray,List.length_cons,List.length_nil,Nat.reduceAdd,Nat.reduceSub,Array.replicate_succ,Array.replicate_zero,List.push_toArray,List.append_toArray,List.nil_append,List.cons_append]
 go_wp2_with (go_at_call 11;((with_reducible refine (mdie.born _ _ _ _ hn HC.out).mono ?_);rintro e w1 ⟨rfl,hB1,⟨F,hF⟩,hg1⟩))
 have hd0:walk.Die 0 (die0 F).h:=⟨F,get_new_eq _ _ _ rfl (by decide)⟩
 obtain ⟨s',hs'⟩:=roo_body 20 (by omega) ⟨7,none,Try.f7.ntmps,X 7⟩ (die0 F) 0 hd0 (by show 0<1;omega) (by show 1+900000000≤1000000000;omega) rfl
 refine ⟨rho0 w.heap.size,.cons 3 (.ptr 0 0) .nil,die0 F,.bool true,s',⟨fun t=>?_,rfl,.nil⟩,fun t ht=>?_,die0_rel hF,hs',fun ρ' V W' af hv=>?_⟩
 ·by_cases e:t=3
  ·subst e
   exact .ptr (e:=(0,0)) (if_pos rfl)
  ·rw [show (Env.cons 3 (.ptr 0 0) .nil).find t=AV.bad by rw [find_cons,if_neg (by omega)];rfl]
   exact .bad _
 ·by_cases e:t=3
  ·subst e
   have hx:(X 7).contains 3=true:=by kernel_rfl
   rw [hx] at ht
   cases ht
  ·rw [find_cons,if_neg (by omega)];rfl
 ·cases hv
  refine ⟨rfl,hB1.trans ⟨af.os,af.tape,af.output,af.size,fun k hk=>af.frame k (by omega) fun b x o e hb hr=>?_⟩⟩
  obtain ⟨_,rfl,_⟩:=die0_has hb
  have hr:some (w.heap.size,(0,0))=some (k,e):=hr
  injection hr with hr
  injection hr with hr _
  omega
end Go.Proofs.Ythbhjgbpjlnbcaa.walk
