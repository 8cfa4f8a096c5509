/- Lists of numbers that are sorted. -/
import Derived.Test.YthbhjgbpjlnbcaaM5
import Derived.Test.YthbhjgbpjlnbcaaM3
import Derived.Test.YthbhjgbpjlnbcaaCodes
import Derived.Test.YthbhjgbpjlnbcaaM1
import Derived.Test.YthbhjgbpjlnbcaaM2
import Derived.Test.YthbhjgbpjlnbcaaWalkAll
set_option maxHeartbeats 16000000
set_option linter.unusedVariables false
set_option maxRecDepth 10000
namespace Go.Proofs.Ythbhjgbpjlnbcaa.walk
open Go.Abs Go.Proofs.Ythbhjgbpjlnbcaa.code
def idK (a:Nat):Int:=a
theorem less_ok (N:Nat) (hN:2≤N) (a b:Int) (s:St) (hs:s.n≤far):call Try.prog X N (.fn 78) [.int .i64 a,.int .i64 b] s=.val (.bool (decide (a<b))) s:=by
 obtain ⟨n,rfl⟩:∃ n,N=n+1:=⟨N - 1,by omega⟩
 obtain ⟨m,rfl⟩:∃ m,n=m+1:=⟨n - 1,by omega⟩
 have hf:far=1000000000:=rfl
 have nn:∀ (x:Int) (u:St),u.n≤far→call Try.prog X (m+1) (.fn 93) [.int .i64 x] u=.val (.bool false) u:=fun x u hu=>by
  refine call_plain' Try.func93 (fun u uh un um=>?_) rfl
  have e0:decide (x=x)=true:=by simp
  rw [enter93]
  simp (disch:=first|omega|(with_unfolding_all exact rfl)|(simp only[new_n,put_n,new_m];omega)|(refine put_m_le ?_;simp only[new_m];omega)) only [res93,K93r0,K93r1,K93,Abs.W,reduceIte,Nat.reduceEqDiff,Nat.reduceAdd,decide_true]
  exact ⟨_,rfl,by omega⟩
 refine call_plain' Try.func78 (fun u uh un um=>?_) rfl
 have na:=nn a u (by omega)
 rw [enter78]
 simp (disch:=first|omega|(with_unfolding_all exact rfl)|(simp only[new_n,put_n,new_m];omega)|(refine put_m_le ?_;simp only[new_m];omega)) only [res78,K78r0,K78r1s11,K78r1s10,K78r1s9,K78r1s6,K78r1s5,K78r1s4,K78r1,K78,Abs.W,reduceIte,Nat.reduceEqDiff,Nat.reduceAdd,na]
 exact ⟨_,rfl,by omega⟩
theorem insO_round (N:Nat) (hN:2≤N) (cx:Ctx) {w t:St} {bd sz n i j:Nat} {e:Bool} {f g:List Nat} {L:Env} (J:SortJ w t bd sz f g n) (hB:ButAt idK g i j) (hij:j≤i) (hi:i<n) (hn:n≤8) (hbd:bd<w.n) (hs:w.n+300000≤far)
  (q0:L.find 0=.slice bd 0 n n e) (q1:L.find 1=.int .i64 0) (q9:L.find 7=.int .i64 (j:Nat)) :
  (∃ L1 t1,0<j∧K72l0 (call Try.prog X N) cx L [] t=.done .norm L1 [] t1∧SortJ w t1 bd sz f (swp g j) n∧ButAt idK (swp g j) i (j - 1)∧L1.find 7=.int .i64 ((j - 1:Nat):Int)∧∀ c,c<7→L1.find c=L.find c)∨(∃ L1,K72l0 (call Try.prog X N) cx L [] t=.done (.exit 2) L1 [] t∧Upto idK g (i+1)∧∀ c,c<7→L1.find c=L.find c):=by
 have hf:far=1000000000:=rfl
 obtain ⟨jc,js,jn,jm,jml,jun,⟨sl,smm,snd⟩⟩:=J
 have hgl:(natRows g).length=n:=by rw [natRows_len,sl]
 have u5:=eq3 K72r3s5.eq_1
 have u6:=eq3 K72r3s6.eq_1
 have u7:=eq3 K72r3s7.eq_1
 have u8:=eq3 K72r3s8.eq_1
 have u9:=eq3 K72r3s9.eq_1
 have u10:=eq3 K72r3s10.eq_1
 have u11:=eq3 K72r3s11.eq_1
 have u12:=eq3 K72r3s12.eq_1
 have u13:=eq3 K72r3s13.eq_1
 have u14:=eq3 K72r3s14.eq_1
 by_cases h0:0<j
 ·have e0:decide ((0:Int)<((j:Nat):Int))=true:=decide_eq_true (by omega)
  have sb:∀ s,aSub s .i64 ((j:Nat):Int) 1=.val (.int .i64 ((j - 1:Nat):Int)) s:=fun s=>by rw [aSub_i64 s _ _ (by omega)];congr 2;omega
  have ij:∀ s,ixsA 1 s (.slice bd 0 n n e) (.int .i64 (j:Int))=.val (.ptr bd j) s:=fun s=>by rw [ixs_slice 1 s bd 0 n n e j (by omega),Nat.zero_add,Nat.mul_one]
  have ij1:∀ s,ixsA 1 s (.slice bd 0 n n e) (.int .i64 ((j - 1:Nat):Int))=.val (.ptr bd (j - 1)) s:=fun s=>by rw [ixs_slice 1 s bd 0 n n e (j - 1) (by omega),Nat.zero_add,Nat.mul_one]
  have nj:=natRows_nth (f:=g) (k:=j) (by omega)
  have nj1:=natRows_nth (f:=g) (k:=j - 1) (by omega)
  have hne:at0 g j≠at0 g (j - 1):=fun h=>by have:=at0_inj snd (by omega) (by omega) h;omega
  have mj:=(smm _).mp (at0_mem (g:=g) (p:=j) (by omega))
  have mj1:=(smm _).mp (at0_mem (g:=g) (p:=j - 1) (by omega))
  have hc:=less_ok N hN (at0 g j:Nat) (at0 g (j - 1):Nat) t (by omega)
  by_cases hlt:at0 g j<at0 g (j - 1)
  ·have d1:decide (((at0 g j:Nat):Int)<((at0 g (j - 1):Nat):Int))=true:=decide_eq_true (by omega)
   rw [d1] at hc
   have o1:=natRows_over (f:=g) (k:=j) (by omega) (at0 g (j - 1))
   have o2:=natRows_over (f:=g.set j (at0 g (j - 1))) (k:=j - 1) (by rw [List.length_set];omega) (at0 g j)
   refine .inl ⟨_,_,h0,by
    simp (disch:=first|omega|(with_unfolding_all exact rfl)|(simp only[new_n,put_n,new_m];omega)|(refine put_m_le ?_;simp only[new_m];omega)) only [K72l0,K72r3,K72r4,K72r5,u5,u6,u7,u8,u9,u10,u11,u12,u13,u14,Abs.W,reduceIte,Nat.reduceEqDiff,efs,q0,q1,q9,e0,sb,ij,ij1,jc,nj,nj1,hc,o1,o2]
    rfl,⟨get_put_eq _ _ _ _ rfl (by omega),fun c hc=>?_,by simp only [put_n];exact jn,?_,?_,.inl (by simp only [St.put,minN_eq];omega),swp_same ⟨sl,smm,snd⟩ (by omega) h0⟩,hB.step hij (by omega) h0 (by unfold idK;omega),?_,fun c hc=>?_⟩
   ·rw [get_put_ne' _ _ _ _ hc,get_put_ne' _ _ _ _ hc];exact js c hc
   ·simp only [St.put,minN_eq];omega
   ·simp only [St.put,minN_eq];omega
   ·simp only [efs,reduceIte,Nat.reduceEqDiff]
   ·simp only [efs]
    repeat rw [if_neg (by omega)]
  ·have d1:decide (((at0 g j:Nat):Int)<((at0 g (j - 1):Nat):Int))=false:=decide_eq_false (by omega)
   rw [d1] at hc
   refine .inr ⟨_,by
    simp (disch:=first|omega|(with_unfolding_all exact rfl)|(simp only[new_n,put_n,new_m];omega)|(refine put_m_le ?_;simp only[new_m];omega)) only [K72l0,K72r3,u5,u6,u7,u8,u9,u10,u11,u12,u13,u14,Abs.W,reduceIte,Nat.reduceEqDiff,efs,q0,q1,q9,e0,sb,ij,ij1,jc,nj,nj1,hc]
    rfl,hB.stop hij (.inr ?_),fun c hc=>?_⟩
   ·unfold idK
    omega
   ·simp only [efs]
    repeat rw [if_neg (by omega)]
 ·obtain rfl:j=0:=by omega
  have e0:decide ((0:Int)<((0:Nat):Int))=false:=rfl
  refine .inr ⟨_,by
   simp (disch:=first|omega|(with_unfolding_all exact rfl)|(simp only[new_n,put_n,new_m];omega)|(refine put_m_le ?_;simp only[new_m];omega)) only [K72l0,K72r3,u5,u6,u7,u8,u9,u10,u11,u12,u13,u14,Abs.W,reduceIte,Nat.reduceEqDiff,efs,q1,q9,e0]
   rfl,hB.stop hij (.inl rfl),fun c hc=>?_⟩
  simp only [efs]
  repeat rw [if_neg (by omega)]
theorem insortO_ex {N bd sz n:Nat} (hN:2≤N) {e:Bool} {f:List Nat} {s:St} (hg:s.h.get bd=some (.cells (natRows f).flatten sz)) (hf':f.length=n) (hnd:f.Nodup) (hn:n≤8) (hbd:bd<s.n) (hs:s.n+300000≤far) (hm:s.m≤far) :
  ∃ t g,call Try.prog X (N+1) (.fn 72) [.slice bd 0 n n e,.int .i64 0,.int .i64 (n:Int)] s=.val (.tup []) t∧SortJ s t bd sz f g n∧Upto idK g n:=by
 have hf:far=1000000000:=rfl
 obtain ⟨v',t,mm,e',⟨rfl,g,a1,a2,a3,a4,a5,a6⟩,hm'⟩:=call_any (X:=X) (n:=N) (args:=[.slice bd 0 n n e,.int .i64 0,.int .i64 (n:Int)]) (s:=s) (Q:=fun v h n' m'=>v=.tup []∧∃ g,h.get bd=some (.cells (natRows g).flatten sz)∧(∀ c,c≠bd→h.get c=s.h.get c)∧n'=s.n∧(bd≤m'∧m'≤far)∧(m'≤bd∨h.get bd=s.h.get bd)∧Same f g n∧Upto idK g n) Try.func72 rfl (fun u uh un um=>by
  rw [← uh] at hg
  rw [← un] at hbd
  rw [enter72]
  have ad01:∀ s,aAdd s .i64 0 1=.val (.int .i64 1) s:=fun s=>rfl
  simp (disch:=first|omega|(with_unfolding_all exact rfl)|(simp only[new_n,put_n,new_m];omega)|(refine put_m_le ?_;simp only[new_m];omega)) only [K72,K72r0,Abs.W,reduceIte,Nat.reduceEqDiff,Nat.reduceAdd,kLoop_def,ad01]
  generalize hlp:loopN _ rounds _ _ _ _ _=rl
  obtain ⟨e1,L1,s1,rfl,rfl,g,hJ,hU⟩:=loop_of hlp (fun i L' t'=>L'.find 0=.slice bd 0 n n e∧L'.find 1=.int .i64 0∧L'.find 2=.int .i64 (n:Int)∧L'.find 6=.int .i64 (i+1:Nat)∧∃ g,SortJ u t' bd sz f g n∧Upto idK g (i+1))
   (fun e1 L1 t'=>e1=.exit 0∧∃ g,SortJ u t' bd sz f g n∧Upto idK g n) (n - 1) (by unfold rounds;omega)
   ⟨by simp only [find_cons,reduceIte,Nat.reduceEqDiff],by simp only [find_cons,reduceIte,Nat.reduceEqDiff],by simp only [find_cons,reduceIte,Nat.reduceEqDiff],by simp only [find_cons,reduceIte,Nat.reduceEqDiff];rfl,f,⟨hg,fun _ _=>rfl,rfl,by omega,Nat.le_refl _,.inr rfl,⟨hf',fun _=>Iff.rfl,hnd⟩⟩,fun p q h1 h2=>by omega⟩
   (fun i L' t' hi ⟨q0,q1,q2,q8,g,hJ,hU⟩=>by
    by_cases hlt:i+1<n
    ·have e0:decide (((i+1:Nat):Int)<(n:Int))=true:=decide_eq_true (by omega)
     have ad:∀ s,aAdd s .i64 ((i+1:Nat):Int) 1=.val (.int .i64 ((i+2:Nat):Int)) s:=fun s=>by rw [aAdd_i64 s _ _ (by omega)];rfl
     have hin:∃ L2 t2 g2,K72l1 (call Try.prog X N) ⟨72,none,Try.f72.ntmps,X 72⟩ L' [] t'=.done .norm L2 [] t2∧L2.find 6=.int .i64 ((i+2:Nat):Int)∧(∀ c,c<6→L2.find c=L'.find c)∧SortJ u t2 bd sz f g2 n∧Upto idK g2 (i+2):=by
      simp (disch:=first|omega|(with_unfolding_all exact rfl)|(simp only[new_n,put_n,new_m];omega)|(refine put_m_le ?_;simp only[new_m];omega)) only [K72l1,K72r1,K72r2,Abs.W,reduceIte,Nat.reduceEqDiff,kLoop_def,efs,q2,q8,e0]
      generalize hl2:loopN _ rounds _ _ _ _ _=rl2
      obtain ⟨e2,L2,t2,rfl,rfl,g2,hJ2,hU2,hc2⟩:=loop_of hl2 (fun q L2 t2=>q≤i+1∧∃ g2,SortJ u t2 bd sz f g2 n∧ButAt idK g2 (i+1) (i+1 - q)∧L2.find 7=.int .i64 ((i+1 - q:Nat):Int)∧∀ c,c<7→L2.find c=L'.find c)
       (fun e2 L2 t2=>e2=.exit 2∧∃ g2,SortJ u t2 bd sz f g2 n∧Upto idK g2 (i+2)∧∀ c,c<7→L2.find c=L'.find c) (i+1) (by unfold rounds;omega)
       ⟨Nat.zero_le _,g,hJ,ButAt.start hU,by simp only [efs,reduceIte,Nat.reduceEqDiff];rfl,fun c hc=>by
        simp only [efs]
        repeat rw [if_neg (by omega)]⟩
       (fun q L2 t2 hq ⟨hq',g2,hJ2,hB2,p9,hc2⟩=>by
        rcases insO_round N hN ⟨72,none,Try.f72.ntmps,X 72⟩ hJ2 hB2 (by omega) hlt hn hbd (by omega) ((hc2 0 (by omega)).trans q0) ((hc2 1 (by omega)).trans q1) p9 with ⟨L3,t3,z0,z1,z2,z3,z4,z5⟩ | ⟨L3,z1,z2,z3⟩
        ·exact .inl ⟨by omega,L3,t3,z1,by omega,_,z2,by rw [show i+1 - (q+1)=i+1 - q - 1 by omega];exact z3,by rw [show i+1 - (q+1)=i+1 - q - 1 by omega];exact z4,fun c hc=>(z5 c hc).trans (hc2 c hc)⟩
        ·exact .inr ⟨.exit 2,L3,t2,by simp,z1,rfl,g2,hJ2,z2,fun c hc=>(z3 c hc).trans (hc2 c hc)⟩)
      have p8:L2.find 6=.int .i64 ((i+1:Nat):Int):=(hc2 6 (by omega)).trans q8
      simp (disch:=first|omega|(with_unfolding_all exact rfl)|(simp only[new_n,put_n,new_m];omega)|(refine put_m_le ?_;simp only[new_m];omega)) only [K72r6,Abs.W,reduceIte,Nat.reduceEqDiff,p8,ad]
      refine ⟨_,t2,g2,rfl,by simp only [efs,reduceIte],fun c hc=>?_,hJ2,hU2⟩
      simp only [efs]
      repeat rw [if_neg (by omega)]
      exact hc2 c (by omega)
     obtain ⟨L2,t2,g2,z1,z2,z3,z4,z5⟩:=hin
     exact .inl ⟨by omega,L2,t2,z1,(z3 0 (by omega)).trans q0,(z3 1 (by omega)).trans q1,(z3 2 (by omega)).trans q2,z2,g2,z4,z5⟩
    ·have e0:decide (((i+1:Nat):Int)<(n:Int))=false:=decide_eq_false (by omega)
     refine .inr ⟨.exit 0,L'.set 12 (.bool false),t',by simp,?_,rfl,g,hJ,fun p q h1 h2=>hU p q h1 (by omega)⟩
     simp (disch:=first|omega|(with_unfolding_all exact rfl)|(simp only[new_n,put_n,new_m];omega)|(refine put_m_le ?_;simp only[new_m];omega)) only [K72l1,K72r1,Abs.W,reduceIte,Nat.reduceEqDiff,efs,q2,q8,e0])
  simp (disch:=first|omega|(with_unfolding_all exact rfl)|(simp only[new_n,put_n,new_m];omega)|(refine put_m_le ?_;simp only[new_m];omega)) only [res72,Abs.W,leave_nil]
  obtain ⟨jc,js,jn,jm,jml,jun,jsm⟩:=hJ
  refine ⟨_,_,rfl,⟨rfl,g,jc,fun c hc=>by rw [js c hc,uh],by omega,by omega,by rw [← uh];exact jun,jsm,hU⟩,fun _ hle=>⟨rfl,g,?_,fun _ _=>trivial,trivial,by omega,.inr trivial,jsm,hU⟩⟩
  rcases jun with h | h
  ·omega
  ·rw [← uh,← h];exact jc)
 refine ⟨t,g,e',⟨a1,a2,a3,?_,?_,?_,a6.1⟩,a6.2⟩
 ·rcases hm' with ⟨_,hm'⟩ | ⟨_,hm'⟩<;>omega
 ·rcases hm' with ⟨_,hm'⟩ | ⟨_,hm'⟩<;>omega
 ·rcases a5 with h | h
  ·rcases hm' with ⟨_,hm'⟩ | ⟨_,hm'⟩
   ·omega
   ·exact .inl (by omega)
  ·exact .inr h
theorem insort0O_ex {N:Nat} {v:AV} {s:St} (hs:s.n≤far):call Try.prog X (N+1) (.fn 72) [v,.int .i64 0,.int .i64 0] s=.val (.tup []) s:=by
 refine call_plain (s':=⟨s.h,s.n,far⟩) Try.func72 ?_ rfl hs
 have ad01:∀ s,aAdd s .i64 0 1=.val (.int .i64 1) s:=fun s=>rfl
 have e0:decide ((1:Int)<0)=false:=rfl
 rw [enter72]
 simp only [K72,K72r0,Abs.W,reduceIte,Nat.reduceEqDiff,Nat.reduceAdd,kLoop_def,ad01]
 rw [show rounds=(rounds - 1)+1 from rfl,loopN_succ]
 simp only [K72l1,K72r1,res72,Abs.W,reduceIte,Nat.reduceEqDiff,e0,leave_nil]
theorem pdqO_ex {N bd sz n:Nat} (hN:2≤N) {e:Bool} {lim:Int} {f:List Nat} {s:St} (hg:s.h.get bd=some (.cells (natRows f).flatten sz)) (hf':f.length=n) (hnd:f.Nodup) (hn:n≤8) (hbd:bd<s.n) (hs:s.n+300000≤far) (hm:s.m≤far) :
  ∃ t,call Try.prog X (N+2) (.fn 58) [.slice bd 0 n n e,.int .i64 0,.int .i64 (n:Int),.int .i64 lim] s=.val (.tup []) t∧Sorts s t bd sz idK f n:=by
 have hf:far=1000000000:=rfl
 refine sorts_call (n:=N+1) Try.func58 hbd hm (fun u uh un um=>?_)
 rw [← uh] at hg
 rw [← un] at hbd
 obtain ⟨t,g,e1,hJ,hU⟩:=insortO_ex (N:=N) (e:=e) hN hg hf' hnd hn hbd (by omega) (by omega)
 have sb:∀ s,aSub s .i64 (n:Int) 0=.val (.int .i64 (n:Int)) s:=fun s=>by rw [aSub_i64 s _ _ (by omega),Int.sub_zero]
 have e0:decide ((n:Int)≤12)=true:=decide_eq_true (by omega)
 rw [enter58]
 simp (disch:=first|omega|(with_unfolding_all exact rfl)|(simp only[new_n,put_n,new_m];omega)|(refine put_m_le ?_;simp only[new_m];omega)) only [K58,K58r0,K58r1,Abs.W,reduceIte,Nat.reduceEqDiff,Nat.reduceAdd,kLoop_def]
 rw [show rounds=(rounds - 1)+1 from rfl,loopN_succ]
 simp (disch:=first|omega|(with_unfolding_all exact rfl)|(simp only[new_n,put_n,new_m];omega)|(refine put_m_le ?_;simp only[new_m];omega)) only [K58l0,K58r2,K58r3,K58r4,res58,Abs.W,reduceIte,Nat.reduceEqDiff,sb,e0,e1,leave_nil]
 exact ⟨_,rfl,g,hJ,hU⟩
theorem pdq0O_ex {N:Nat} {v:AV} {lim:Int} {s:St} (hs:s.n≤far):call Try.prog X (N+2) (.fn 58) [v,.int .i64 0,.int .i64 0,.int .i64 lim] s=.val (.tup []) s:=by
 refine call_plain (s':=⟨s.h,s.n,far⟩) Try.func58 ?_ rfl hs
 have i0:=insort0O_ex (N:=N) (v:=v) (s:=⟨s.h,s.n,far⟩) hs
 have sb:∀ s,aSub s .i64 0 0=.val (.int .i64 0) s:=fun s=>rfl
 have e0:decide ((0:Int)≤12)=true:=rfl
 rw [enter58]
 simp only [K58,K58r0,K58r1,Abs.W,reduceIte,Nat.reduceEqDiff,Nat.reduceAdd,kLoop_def]
 rw [show rounds=(rounds - 1)+1 from rfl,loopN_succ]
 simp only [K58l0,K58r2,K58r3,K58r4,res58,Abs.W,reduceIte,Nat.reduceEqDiff,sb,e0,i0,leave_nil]
theorem sortfO_ex {N bd sz n:Nat} (hN:2≤N) {e:Bool} {f:List Nat} {s:St} (hg:s.h.get bd=some (.cells (natRows f).flatten sz)) (hf':f.length=n) (hnd:f.Nodup) (hn:n≤8) (hbd:bd<s.n) (hs:s.n+300000≤far) (hm:s.m≤far) :
  ∃ t,call Try.prog X (N+3) (.fn 44) [.slice bd 0 n n e] s=.val (.tup []) t∧Sorts s t bd sz idK f n:=by
 have hf:far=1000000000:=rfl
 refine sorts_call (n:=N+2) Try.func44 hbd hm (fun u uh un um=>?_)
 rw [← uh] at hg
 rw [← un] at hbd
 obtain ⟨lim,hl⟩:=len_ok (N+2) (by omega) n hn u (by omega)
 obtain ⟨t,e1,hS⟩:=pdqO_ex (N:=N) (e:=e) (lim:=lim) hN hg hf' hnd hn hbd (by omega) (by omega)
 have w1:wrapA .u64 (n:Int)=n:=wrap_u64 n (by omega)
 rw [enter44]
 simp (disch:=first|omega|(with_unfolding_all exact rfl)|(simp only[new_n,put_n,new_m];omega)|(refine put_m_le ?_;simp only[new_m];omega)) only [res44,K44r0,K44r1,K44,Abs.W,reduceIte,Nat.reduceEqDiff,Nat.reduceAdd,cviA_int,w1,hl,e1,leave_nil]
 exact ⟨_,rfl,hS⟩
theorem sortf0O_ex {N:Nat} {v:AV} {s:St} (hv:∀ s,lenSlA s v=.val (.int .i64 0) s) (hs:s.n≤far):call Try.prog X (N+3) (.fn 44) [v] s=.val (.tup []) s:=by
 refine call_plain (s':=⟨s.h,s.n,far⟩) Try.func44 ?_ rfl hs
 obtain ⟨lim,hl⟩:=len_ok (N+2) (by omega) 0 (by omega) ⟨s.h,s.n,far⟩ hs
 have p0:=pdq0O_ex (N:=N) (v:=v) (lim:=lim) (s:=⟨s.h,s.n,far⟩) hs
 have w1:wrapA .u64 0=((0:Nat):Int):=rfl
 rw [enter44]
 simp only [res44,K44r0,K44r1,K44,Abs.W,reduceIte,Nat.reduceEqDiff,Nat.reduceAdd,hv,cviA_int,w1,hl,p0,leave_nil]
end Go.Proofs.Ythbhjgbpjlnbcaa.walk
set_option maxRecDepth 10000
namespace Go.Abs
theorem loop_dinv {body:K} {cl:CallF} {cx:Ctx} (I:Nat→Env→List Nat→St→Prop) (Q:Ex→Env→List Nat→St→Prop) (k:Nat)
  (step:∀ i L d s,i≤k→I i L d s→(i<k∧∃ L1 d1 s1,body cl cx L d s=.done .norm L1 d1 s1∧I (i+1) L1 d1 s1)∨(∃ e L1 d1 s1,e≠.norm∧body cl cx L d s=.done e L1 d1 s1∧Q e L1 d1 s1)) :
  ∀ (m i fuel:Nat) (L:Env) (d:List Nat) (s:St),i+m=k→m<fuel→I i L d s→∃ e L1 d1 s1,loopN body fuel cl cx L d s=.done e L1 d1 s1∧Q e L1 d1 s1
 | m,i,0,_,_,_,_,hf,_=>by omega
 | m,i,fuel+1,L,d,s,hm,hf,hI=>by
  rcases step i L d s (by omega) hI with ⟨hi,L1,d1,s1,h1,h2⟩ | ⟨e,L1,d1,s1,he,h1,h2⟩
  ·obtain ⟨m',rfl⟩:∃ m',m=m'+1:=⟨m - 1,by omega⟩
   obtain ⟨e,L2,d2,s2,h3,h4⟩:=loop_dinv I Q k step m' (i+1) fuel L1 d1 s1 (by omega) (by omega) h2
   exact ⟨e,L2,d2,s2,by rw [loopN_succ,h1];exact h3,h4⟩
  ·refine ⟨e,L1,d1,s1,?_,h2⟩
   rw [loopN_succ,h1]
   cases e<;>first | rfl | exact absurd rfl he
theorem loop_d {body:K} {cl:CallF} {cx:Ctx} {L:Env} {d:List Nat} {s:St} {r:R} (hr:loopN body rounds cl cx L d s=r) (I:Nat→Env→List Nat→St→Prop) (Q:Ex→Env→List Nat→St→Prop) (k:Nat) (hk:k<rounds) (h0:I 0 L d s)
  (step:∀ i L d s,i≤k→I i L d s→(i<k∧∃ L1 d1 s1,body cl cx L d s=.done .norm L1 d1 s1∧I (i+1) L1 d1 s1)∨(∃ e L1 d1 s1,e≠.norm∧body cl cx L d s=.done e L1 d1 s1∧Q e L1 d1 s1)) :
  ∃ e L1 d1 s1,r=.done e L1 d1 s1∧Q e L1 d1 s1:=by
 obtain ⟨e,L1,d1,s1,h1,h2⟩:=loop_dinv I Q k step k 0 rounds L d s (by omega) hk h0
 exact ⟨e,L1,d1,s1,hr.symm.trans h1,h2⟩
theorem take_dfrs:∀ {d:List Nat} {s:St},d.Nodup→(∀ c ∈ d,s.h.get c=some .dfr)→∃ s',takeDfs s d=some s'∧(∀ c,c ∉ d→s'.h.get c=s.h.get c)∧s'.n=s.n∧(∀ u,u≤s.m→(∀ c ∈ d,u≤c)→u≤s'.m)∧s'.m≤s.m
 | [],s,_,_=>⟨s,rfl,fun _ _=>rfl,rfl,fun _ h _=>h,Nat.le_refl _⟩
 | b::d,s,hd,h=>by
  obtain ⟨h1,h2⟩:=List.nodup_cons.mp hd
  have hb:=h b (List.mem_cons_self ..)
  obtain ⟨s',e,a1,a2,a3,a4⟩:=take_dfrs (d:=d) (s:=s.kill b) h2 (fun c hc=>by
   rw [get_kill_ne _ _ _ (show c≠b from fun e=>h1 (by rw [← e];exact hc))]
   exact h c (List.mem_cons_of_mem _ hc))
  have km:(s.kill b).m=min s.m b:=by simp only [St.kill,minN_eq]
  refine ⟨s',?_,fun c hc=>?_,a2,fun u hu hc=>a3 u ?_ (fun c h=>hc c (List.mem_cons_of_mem _ h)),?_⟩
  ·show (match s.h.get b with | some .dfr=>takeDfs (s.kill b) d | _=>none)=_
   rw [hb];exact e
  ·rw [a1 c (fun h=>hc (List.mem_cons_of_mem _ h)),get_kill_ne _ _ _ (fun e=>hc (by rw [e];exact List.mem_cons_self ..))]
  ·rw [km]
   have:=hc b (List.mem_cons_self ..)
   omega
  ·rw [km] at a4;omega
theorem leave_dfrs {P:Program} {rs:List ResultVar} {d:List Nat} {L:Env} {s s':St} (h:takeDfs s d=some s'):leaveA P rs L d s=leaveA P rs L [] s':=by
 unfold leaveA
 rw [h]
 rfl
end Go.Abs
namespace Go.Proofs.Ythbhjgbpjlnbcaa.walk
open Go.Abs Go.Proofs.Ythbhjgbpjlnbcaa.code
theorem repA_hcell (k:Nat):repA k k=hcell (List.replicate k (-1)):=by
 unfold repA hcell intRows
 rw [Nat.sub_self,List.replicate_zero,List.append_nil,List.map_replicate]
 induction k with
 | zero=>rfl
 | succ k ih=>rw [List.replicate_succ,List.replicate_succ,List.flatten_cons,← ih];rfl
theorem holdF_none (k:Nat):holdF (List.replicate k (-1))=fun _ => -1:=by
 funext s
 unfold holdF
 by_cases h:s<k
 ·simp [List.getD,h]
 ·simp [List.getD,h]
theorem Let_ex {N:Nat} {no na:Nat→Prop} {l:Letting} {vS vA:AV} {s:St} {r:ARes} (hr:call Try.prog X N (.fn 18) [.agg (letV vS vA)] s=r) (hN:16≤N) (ok:l.Ok) (hL:LetAt no na s.h s.n l vS vA) (hs:s.n+4000000≤far) :
  ∃ v t hs,r=.val (.tup [v,.int .i64 0]) t∧New s t 2200000∧Sl (fun x=>s.n≤x) t.h t.n 1 (intRows hs) v∧hs.length=l.stalls.length∧(mktOf l).Inv (holdF hs) []:=by
 obtain ⟨M,rfl⟩:∃ M,N=M+5:=⟨N - 5,by omega⟩
 have hf:far=1000000000:=rfl
 obtain ⟨v,t,e,st,v',hs,rfl,hq⟩:=call_new (n:=M+4) (args:=[.agg (letV vS vA)]) (s:=s) (k:=2200000) (Q:=fun v h n=>∃ v' hs,v=.tup [v',.int .i64 0]∧Sl (fun x=>s.n≤x) h n 1 (intRows hs) v'∧hs.length=l.stalls.length∧(mktOf l).Inv (holdF hs) []) Try.func18 rfl (fun u uh un um=>by
  rw [← uh,← un] at hL
  rw [← un]
  have k0:=ok.k0
  have k1:=ok.k1
  have m1:=ok.m1
  have kA:=hL.okV
  have kS:=hL.okS
  have lS:=hL.lenS
  have z0:decide ((0:Int)=0)=true:=rfl
  obtain ⟨w0,hw0⟩:∃ w:St,w=u.new (.cells [vS,vA] (tag 28)):=⟨_,rfl⟩
  have w0n:w0.n=u.n+1:=by rw [hw0];rfl
  have w0m:w0.m=far:=by rw [hw0];exact um
  have w0g:∀ c,c<u.n→w0.h.get c=u.h.get c:=fun c hc=>by rw [hw0,get_new_ne _ _ _ (by omega)]
  have w00:w0.h.get u.n=some (.cells [vS,vA] (tag 28)):=by rw [hw0];exact get_new_eq _ _ _ rfl (by omega)
  have hM:=hL.grow w0g (by omega:u.n≤w0.n)
  have c1:=check_ok (M+4) (by omega) l ok vS vA w0 hM (by omega)
  rw [enter18]
  simp (disch:=first|omega|(with_unfolding_all exact rfl)|(simp only[new_n,put_n,new_m];omega)|(refine put_m_le ?_;simp only[new_m];omega)) only [K18,K18r0,Abs.W,reduceIte,Nat.reduceEqDiff,Nat.reduceAdd]
  rw [← hw0]
  simp (disch:=first|omega|(with_unfolding_all exact rfl)|(simp only[new_n,put_n,new_m];omega)|(refine put_m_le ?_;simp only[new_m];omega)) only [K18r1,K18r2,K18r4,Abs.W,reduceIte,Nat.reduceEqDiff,decide_true,Nat.reduceSub,w00,c1]
  generalize hc:call _ _ _ (.fn 39) _ _=rc
  obtain ⟨vr,t1,bm,rfl,s1,hR,hbm⟩:=rank_ex hc (by omega) ok hM (by omega)
  have s1n:=s1.n
  have s1l:=s1.le
  have s1m:=s1.m
  obtain ⟨hv,hbm2⟩:=hR.slice (by omega)
  subst hv
  have t1g:∀ c,c<u.n→t1.h.get c=u.h.get c:=fun c hc=>(s1.same c (by omega)).trans (w0g c hc)
  have t10:=(s1.same u.n (by omega)).trans w00
  simp (disch:=first|omega|(with_unfolding_all exact rfl)|(simp only[new_n,put_n,new_m];omega)|(refine put_m_le ?_;simp only[new_m];omega)) only [Abs.W,reduceIte,Nat.reduceEqDiff,Nat.reduceSub]
  generalize hy:St.put _ _ _=y
  have yn:y.n=t1.n+1:=by rw [← hy,put_n,new_n]
  have yg:∀ c,c<t1.n→y.h.get c=t1.h.get c:=fun c hc=>by rw [← hy,get_put_ne' _ _ _ _ (by omega),get_new_ne _ _ _ (by omega)]
  have yp:∃ z5,y.h.get t1.n=some (.cells [.slice bm 0 l.stalls.length l.stalls.length true] z5):=⟨_,by rw [← hy];exact get_put_eq _ _ _ _ rfl (by omega)⟩
  have ym:y.m=min t1.m t1.n:=by rw [← hy];simp only [St.put,minN_eq,new_m]
  obtain ⟨z5,yp⟩:=yp
  have y0:=(yg u.n (by omega)).trans t10
  obtain ⟨x,hx⟩:∃ x:St,x=y.new (.cells [.int .i64 (-1)] 0):=⟨_,rfl⟩
  have xn:x.n=y.n+1:=by rw [hx];rfl
  have xm:x.m=y.m:=by rw [hx];rfl
  have xg:∀ c,c<y.n→x.h.get c=y.h.get c:=fun c hc=>by rw [hx,get_new_ne _ _ _ (by omega)]
  have xp:x.h.get y.n=some (.cells [.int .i64 (-1)] 0):=by rw [hx];exact get_new_eq _ _ _ rfl (by omega)
  have x0:=(xg u.n (by omega)).trans y0
  simp (disch:=first|omega|(with_unfolding_all exact rfl)|(simp only[new_n,put_n,new_m];omega)|(refine put_m_le ?_;simp only[new_m];omega)) only [K18r5,Abs.W,reduceIte,Nat.reduceEqDiff,Nat.reduceSub,Nat.zero_add]
  rw [← hx]
  simp (disch:=first|omega|(with_unfolding_all exact rfl)|(simp only[new_n,put_n,new_m];omega)|(refine put_m_le ?_;simp only[new_m];omega)) only [Abs.W,reduceIte,Nat.reduceEqDiff,Nat.reduceSub,y0,kS,lS]
  generalize hc2:call _ _ _ (.fn 40) _ _=rc
  obtain ⟨t2,rfl,s2,t2n,t2g⟩:=repeat_ex hc2 (by omega) k0 k1 xp (by omega) (by omega)
  have s2m:=s2.m
  simp (disch:=first|omega|(with_unfolding_all exact rfl)|(simp only[new_n,put_n,new_m];omega)|(refine put_m_le ?_;simp only[new_m];omega)) only [Abs.W,reduceIte,Nat.reduceEqDiff,Nat.reduceSub]
  generalize hy3:St.put _ _ _=y3
  have y3n:y3.n=t2.n+1:=by rw [← hy3,put_n,new_n]
  have y3g:∀ c,c<t2.n→y3.h.get c=t2.h.get c:=fun c hc=>by rw [← hy3,get_put_ne' _ _ _ _ (by omega),get_new_ne _ _ _ (by omega)]
  have y3p:∃ z6,y3.h.get t2.n=some (.cells [.slice x.n 0 l.stalls.length l.stalls.length false] z6):=⟨_,by rw [← hy3];exact get_put_eq _ _ _ _ rfl (by omega)⟩
  have y3m:y3.m=min t2.m t2.n:=by rw [← hy3];simp only [St.put,minN_eq,new_m]
  obtain ⟨z6,y3p⟩:=y3p
  have b3:∀ c,c<x.n→y3.h.get c=x.h.get c:=fun c hc=>(y3g c (by omega)).trans (s2.same c hc)
  have y30:=(b3 u.n (by omega)).trans x0
  have hL3:=hL.grow (h':=y3.h) (n':=y3.n) (fun c hc=>(b3 c (by omega)).trans ((xg c (by omega)).trans ((yg c (by omega)).trans (t1g c hc)))) (by omega)
  simp (disch:=first|omega|(with_unfolding_all exact rfl)|(simp only[new_n,put_n,new_m];omega)|(refine put_m_le ?_;simp only[new_m];omega)) only [K18r6,Abs.W,reduceIte,Nat.reduceEqDiff,Nat.reduceSub,y30]
  generalize hc3:call _ _ _ (.fn 41) _ _=rc
  obtain ⟨t3,rfl,s3,t3n,t3g⟩:=everybody_ex hc3 (by omega) ok hL3 (by omega)
  have s3m:=s3.m
  simp (disch:=first|omega|(with_unfolding_all exact rfl)|(simp only[new_n,put_n,new_m];omega)|(refine put_m_le ?_;simp only[new_m];omega)) only [Abs.W,reduceIte,Nat.reduceEqDiff,kLoop_def,Nat.reduceSub]
  generalize hw:St.put _ _ _=w
  have wn:w.n=t3.n+1:=by rw [← hw,put_n,new_n]
  have wg:∀ c,c<t3.n→w.h.get c=t3.h.get c:=fun c hc=>by rw [← hw,get_put_ne' _ _ _ _ (by omega),get_new_ne _ _ _ (by omega)]
  have wp:∃ z7,w.h.get t3.n=some (.cells [.slice (y3.n+1) 0 l.appls.length l.appls.length false] z7):=⟨_,by rw [← hw];exact get_put_eq _ _ _ _ rfl (by omega)⟩
  have wm:w.m=min t3.m t3.n:=by rw [← hw];simp only [St.put,minN_eq,new_m]
  obtain ⟨z7,wp⟩:=wp
  have b2:∀ c,c<y3.n→w.h.get c=y3.h.get c:=fun c hc=>(wg c (by omega)).trans (s3.same c hc)
  have b1:∀ c,c<x.n→w.h.get c=x.h.get c:=fun c hc=>(b2 c (by omega)).trans (b3 c hc)
  have b0:∀ c,c<t1.n→w.h.get c=t1.h.get c:=fun c hc=>(b1 c (by omega)).trans ((xg c (by omega)).trans (yg c hc))
  have hB:OfferB (fun y=>no y∧y<u.n) (fun y=>na y∧y<u.n) w u.n t1.n bm t1.n x.n t2.n (y3.n+1) t3.n z5 z6 l vS vA (.slice bm 0 l.stalls.length l.stalls.length true) :=
   ⟨(b0 u.n (by omega)).trans t10,hL.bound.move (fun b h1 h2=>⟨(b0 b (by omega)).trans (t1g b h1),h2⟩) (fun b h1 h2=>⟨(b0 b (by omega)).trans (t1g b h1),h2⟩) (Nat.le_refl _),(b1 t1.n (by omega)).trans ((xg t1.n (by omega)).trans yp),(hR.move (fun _=>by omega) (fun c h1 _=>b0 c h1) (Nat.le_refl _)).weak (by omega),fun _=>by omega,(b2 t2.n (by omega)).trans y3p,by omega,Nat.le_refl _,by omega,by omega,by omega,by omega,by omega⟩
  have hh0:w.h.get x.n=some (.cells (hcell (List.replicate l.stalls.length (-1))) 0):=by
   rw [b2 x.n (by omega),y3g x.n (by omega),t2g,repA_hcell]
  have hq0:QAt w.h w.n (y3.n+1) (List.range l.appls.length) (.slice (y3.n+1) 0 l.appls.length l.appls.length false):=by
   refine ⟨by omega,0,_,0,(wg (y3.n+1) (by omega)).trans t3g,.inl ⟨by rw [List.length_range],?_⟩⟩
   have:=cut1_all (arr (List.range l.appls.length))
   rw [arr_len] at this
   rw [cut_zero]
   exact this
  have hms:(mktOf l).meas (holdF (List.replicate l.stalls.length (-1))) (List.range l.appls.length)≤72:=by
   rw [holdF_none]
   refine Nat.le_trans (Mkt.meas_start (m:=mktOf l)) ?_
   show l.stalls.length * l.appls.length+l.appls.length≤72
   have:=Nat.mul_le_mul k1 m1
   omega
  generalize hlp:loopN _ rounds _ _ _ _ _=rl
  obtain ⟨e,L1,d1,s',rfl,rfl,hs,J,I,f6⟩:=loop_d hlp (fun i L d t=>∃ hs q,OfferJ w t u.n x.n (y3.n+1) t3.n 0 z7 l hs q d (30000 * i)∧(mktOf l).Inv (holdF hs) q∧i+(mktOf l).meas (holdF hs) q≤72∧L.find 1=.ptr u.n 0∧L.find 5=.ptr t1.n 0∧L.find 6=.ptr t2.n 0∧L.find 7=.ptr t3.n 0)
   (fun e L d t=>e=.exit 0∧∃ hs,OfferJ w t u.n x.n (y3.n+1) t3.n 0 z7 l hs [] d (30000 * 72)∧(mktOf l).Inv (holdF hs) []∧L.find 6=.ptr t2.n 0) 72 (by unfold rounds;omega)
   ⟨List.replicate l.stalls.length (-1),List.range l.appls.length,⟨hh0,List.length_replicate,⟨_,_,wp,hq0,.inl rfl⟩,fun _ _ _ _ _=>rfl,Nat.le_refl _,by omega,by omega,by omega,fun c h=>(by cases h),List.nodup_nil⟩,by rw [holdF_none];exact Mkt.Inv.start (mktOf_ok ok),by omega,by simp only [find_cons,reduceIte,Nat.reduceEqDiff],by simp only [find_cons,reduceIte,Nat.reduceEqDiff],by simp only [find_cons,reduceIte,Nat.reduceEqDiff],by simp only [find_cons,reduceIte,Nat.reduceEqDiff]⟩
   (fun i L d t hi ⟨hs,q,J,I,hm,f1,f5,f6,f7⟩=>by
    cases q with
    | nil =>
     obtain ⟨gh,hk,⟨vq,b,gw,hQ,hb⟩,same,jn,jle,jm,jml,dd,dn⟩:=J
     have kq:=hQ.okA
     have lq:=hQ.len
     have e0:decide ((0:Int)<((0:Nat):Int))=false:=by simp
     refine .inr ⟨.exit 0,L.set 27 (.bool false),d,t,by simp,?_,rfl,hs,⟨gh,hk,⟨vq,b,gw,hQ,hb⟩,same,jn,by omega,jm,jml,dd,dn⟩,I,?_⟩
     ·simp (disch:=first|omega|(with_unfolding_all exact rfl)|(simp only[new_n,put_n,new_m];omega)|(refine put_m_le ?_;simp only[new_m];omega)) only [K18l0,K18r7,Abs.W,reduceIte,Nat.reduceEqDiff,Nat.reduceSub,efs,f7,gw,kq,lq,e0]
     ·simp only [efs,f6,reduceIte,Nat.reduceEqDiff]
    | cons a r =>
     have hr:r.length≤90:=by
      have:(a::r).length≤(mktOf l).meas (holdF hs) (a::r):=Nat.le_add_left _ _
      rw [List.length_cons] at this
      omega
     obtain ⟨L1,d1,t1',hs1,q1,e1,J1,I1,hm1,g1,g5,g6,g7⟩:=offer_round M (by omega) ok hB J I hr f1 f5 f6 f7 (by omega)
     exact .inl ⟨by omega,L1,d1,t1',e1,hs1,q1,by rw [Nat.mul_succ];exact J1,I1,by omega,g1,g5,g6,g7⟩)
  obtain ⟨gh,hk,_,same,jn,jle,jm,jml,dd,dn⟩:=J
  obtain ⟨s'',ed,d0,d1n,d2,d3⟩:=take_dfrs dn (fun c hc=>(dd c hc).2.2)
  have g6:=(same t2.n (by omega) (by omega) (by omega) (by omega)).trans ((b2 t2.n (by omega)).trans y3p)
  simp (disch:=first|omega|(with_unfolding_all exact rfl)|(simp only[new_n,put_n,new_m];omega)|(refine put_m_le ?_;simp only[new_m];omega)) only [K18r11,res18,Abs.W,reduceIte,Nat.reduceEqDiff,Nat.reduceSub,f6,g6]
  rw [leave_dfrs ed]
  have dl:∀ c ∈ d1,w.n≤c:=fun c hc=>(dd c hc).1
  have hsm:=d2 u.n jm (fun c hc=>by have:=dl c hc;omega)
  have lv:leaveA Try.prog [.tmp 2,.tmp 3] (Env.set 3 (.int .i64 0) (Env.set 2 (.slice x.n 0 l.stalls.length l.stalls.length false) L1)) [] s''=.val (.tup [.slice x.n 0 l.stalls.length l.stalls.length false,.int .i64 0]) s'':=by
   have e2:(Env.set 3 (.int .i64 0) (Env.set 2 (.slice x.n 0 l.stalls.length l.stalls.length false) L1)).find 2=.slice x.n 0 l.stalls.length l.stalls.length false:=by simp only [efs,reduceIte,Nat.reduceEqDiff]
   have e3:(Env.set 3 (.int .i64 0) (Env.set 2 (.slice x.n 0 l.stalls.length l.stalls.length false) L1)).find 3=.int .i64 0:=by simp only [efs,reduceIte,Nat.reduceEqDiff]
   show ARes.val (oneA [Env.find 2 _,Env.find 3 _]) s''=_
   rw [e2,e3]
   rfl
  rw [lv]
  refine ⟨_,_,rfl,⟨fun c hc=>?_,by omega,by omega,hsm,by omega⟩,rfl,_,hs,rfl,⟨hcell_wide hs,.inr ⟨x.n,0,l.stalls.length,false,_,0,by omega,by omega,⟨by unfold intRows;rw [List.length_map];omega,fun h=>(by cases h)⟩,?_,(d0 x.n (fun h=>by have:=dl _ h;omega)).trans gh,?_⟩⟩,hk,I⟩
  ·rw [d0 c (fun h=>by have:=dl _ h;omega),same c (by omega) (by omega) (by omega) (by omega),b0 c (by omega)]
   exact t1g c hc
  ·have:(intRows hs).length=l.stalls.length:=by unfold intRows;rw [List.length_map];exact hk
   rw [this]
  ·rw [cut_zero,← flatten_len (hcell_wide hs)]
   exact cut1_all (hcell hs))
 exact ⟨v',t,hs,hr.symm.trans e,st,hq⟩
end Go.Proofs.Ythbhjgbpjlnbcaa.walk
set_option maxRecDepth 10000
namespace Go.Proofs.Ythbhjgbpjlnbcaa.walk
open Go.Abs Go.Proofs.Ythbhjgbpjlnbcaa.code
theorem Inv_valid {l:Letting} (ok:l.Ok) {hs:List Int} (hl:hs.length=l.stalls.length) (I:(mktOf l).Inv (holdF hs) []):ValidH l hs:=by
 have e:∀ s (h:s<hs.length),holdF hs s=hs[s]:=fun s h=>by unfold holdF;simp [List.getD,h]
 refine ⟨hl,fun s h=>?_,fun s t h h' he hn=>?_⟩
 ·rcases I.form s with h0 | ⟨a,h0⟩
  ·exact .inl (by rw [← e s h];exact h0)
  ·obtain ⟨q1,q2⟩:=I.hold s a h0
   exact .inr ⟨a,by rw [← e s h];exact h0,q1,(canI_iff ok q1).mpr q2⟩
 ·rcases I.form s with h0 | ⟨a,h0⟩
  ·exact absurd (by rw [← e s h];exact h0) hn
  ·exact I.inj s t a h0 (by rw [e t h',← he,← e s h];exact h0)
end Go.Proofs.Ythbhjgbpjlnbcaa.walk
set_option maxRecDepth 10000
namespace Go.Proofs.Ythbhjgbpjlnbcaa.walk
open Go.Abs Go.Proofs.Ythbhjgbpjlnbcaa.code
end Go.Proofs.Ythbhjgbpjlnbcaa.walk
set_option maxRecDepth 10000
namespace Go.Proofs.Ythbhjgbpjlnbcaa.walk
open Go.Abs Go.Proofs.Ythbhjgbpjlnbcaa.code
theorem can_idx {l:Letting} (ok:l.Ok) {a st:Nat} (ha:a<l.appls.length) (hst:st<l.stalls.length) (hc:canI l st a=true):∃ k,∃ (h1:k<l.appls[a].wishes.length) (h2:k<l.appls[a].bids.length),l.appls[a].wishes.idxOf (st:Int)=k∧(l.stalls[st].rule=3→l.stalls[st].least≤l.appls[a].bids[k]):=by
 have A:=ok.ap _ (List.getElem_mem ha)
 have h1:(bidOf (st:Int) (reachOf l.stalls (applAt l a))).2=true:=hc
 obtain ⟨x,hx,hxs⟩:=(bidOf_iff (st:Int) _).mp h1
 rw [applAt_of ha] at hx
 unfold reachOf at hx
 obtain ⟨z1,z2⟩:=List.mem_filter.mp hx
 obtain ⟨k,hk,he⟩:=List.getElem_of_mem z1
 rw [List.length_zip] at hk
 rw [List.getElem_zip] at he
 have k1:k<l.appls[a].wishes.length:=by omega
 have k2:k<l.appls[a].bids.length:=by omega
 have e1:l.appls[a].wishes[k]=(st:Int):=by rw [← hxs,← he]
 have e2:l.appls[a].bids[k]=x.2:=by rw [← he]
 refine ⟨k,k1,k2,idx_at k1 e1 fun y hy e=>?_,fun hr=>?_⟩
 ·exact not_mem_take A.nd k1 (by rw [e1,← e];exact hy)
 ·unfold can at z2
  have e3:stallAt l.stalls x.1=l.stalls[st]:=by rw [hxs];unfold stallAt;simp [List.getD,hst]
  rw [e3,hr] at z2
  rw [e2]
  simp at z2
  omega
end Go.Proofs.Ythbhjgbpjlnbcaa.walk
set_option maxRecDepth 10000
namespace Go.Proofs.Ythbhjgbpjlnbcaa.walk
open Go.Abs Go.Proofs.Ythbhjgbpjlnbcaa.code
theorem app_all {no:Nat→Prop} {s:St} {p w bytes tg sz:Nat} {rows:List (List AV)} {y:AV} (hY:Sl no s.h s.n w rows y) (hp:s.h.get p=some (.cells [] sz)) (hpn:p<s.n) (hsc:scalars rows.flatten=true) (hb:rows.length * bytes≤1000000) (htg:szOf (w+tg)=w) (hs:s.n+10≤far) :
  ∃ v s',appendA false w bytes tg s (.slice p 0 0 0 false) y=.val v s'∧Sl (fun x=>x=p∨x=s.n) s'.h s'.n w rows v∧(rows≠[]→IsAt s'.h s'.n s.n w tg rows v)∧s.n≤s'.n∧s'.n≤s.n+1∧(∀ c,c<s.n→s'.h.get c=s.h.get c)∧min s.m p≤s'.m∧s'.m≤s.m∧plain v=false∧(rows=[]→v=.slice p 0 0 0 false):=by
 have hf:far=1000000000:=rfl
 have hfl:=flatten_len hY.wide
 have e1:lenA y=some rows.length∧firstA w rows.length s y=some rows.flatten:=by
  rcases hY.is with ⟨h1,h2⟩ | ⟨b,o,cap,e,c,zz,h1,_,h2,h3,h4,h5⟩
  ·subst h1 h2;exact ⟨rfl,rfl⟩
  ·subst h3
   refine ⟨rfl,?_⟩
   show (match s.h.get b with | some (.cells c _)=>Abs.cut o (rows.length * w) c | some (.fam c _ q _)=>Abs.cut o (rows.length * w) (c.take q) | _=>none)=_
   rw [h4]
   exact h5
 have hA:appendA false w bytes tg s (.slice p 0 0 0 false) y=growA w bytes tg rows.length rows.flatten s (.slice p 0 0 0 false):=by
  unfold appendA
  simp only [e1.1,e1.2,hfl,Nat.beq_refl,hsc]
 have e2:Nat.ble (rows.length * bytes) limit=true:=Nat.ble_eq_true_of_le (by unfold limit;omega)
 rw [hA]
 by_cases h0:rows=[]
 ·subst h0
  refine ⟨.slice p 0 0 0 false,s.put p (.cells [] sz),?_,⟨hY.wide,.inr ⟨p,0,0,false,[],sz,hpn,.inl rfl,⟨Nat.le_refl _,fun h=>(by cases h)⟩,rfl,get_put_eq _ _ _ _ rfl (by omega),?_⟩⟩,fun h=>absurd rfl h,Nat.le_refl _,by rw [put_n];omega,fun c hc=>?_,by simp only [St.put,minN_eq];omega,by simp only [St.put,minN_eq];omega,rfl,fun _=>rfl⟩
  ·unfold growA
   simp only [hp,List.length_nil,List.flatten_nil,Nat.zero_mul,Nat.add_zero]
   rfl
  ·simp only [List.length_nil,Nat.zero_mul];rfl
  ·by_cases e:c=p
   ·subst e;rw [get_put_eq _ _ _ _ rfl (by omega)];exact hp.symm
   ·rw [get_put_ne' _ _ _ _ e]
 ·have hl:0<rows.length:=List.length_pos_iff.mpr h0
  have e3:Nat.ble rows.length 0=false:=by
   cases h:Nat.ble rows.length 0 with
   | false=>rfl
   | true=>have:=Nat.le_of_ble_eq_true h;omega
  have gI:IsAt (s.new (.cells rows.flatten (w+tg))).h (s.new (.cells rows.flatten (w+tg))).n s.n w tg rows (.slice s.n 0 rows.length rows.length true):=⟨hY.wide,.inr ⟨h0,by rw [new_n];omega,rfl,get_new_eq _ _ _ rfl (by omega)⟩⟩
  refine ⟨.slice s.n 0 rows.length rows.length true,s.new (.cells rows.flatten (w+tg)),?_,Sl.of_at gI fun _=>.inr rfl,fun _=>gI,by rw [new_n];omega,by rw [new_n];omega,fun c hc=>get_new_ne _ _ _ (by omega),by rw [new_m];omega,by rw [new_m];omega,rfl,fun h=>absurd h h0⟩
  unfold growA
  simp only [hp,Nat.zero_add,e3,e2,Nat.zero_mul]
  rfl
theorem intRows_scal (l:List Int):scalars (intRows l).flatten=true:=scalars_flatten fun r hr=>by
 unfold intRows at hr
 obtain ⟨x,_,rfl⟩:=List.mem_map.mp hr
 rfl
theorem copyInts_ex {N:Nat} {no:Nat→Prop} {l:List Int} {v:AV} {s:St} {r:ARes} (hr:call Try.prog X N (.fn 28) [v] s=r) (hN:1≤N) (hR:Sl no s.h s.n 1 (intRows l) v) (hl:l.length≤1000) (hs:s.n+100≤far) :
  ∃ w t,r=.val w t∧New s t 2∧Sl (fun x=>s.n≤x) t.h t.n 1 (intRows l) w∧(l≠[]→IsAt t.h t.n (s.n+1) 1 (tag 3) (intRows l) w)∧(l=[]→∃ sz,w=.slice s.n 0 0 0 false∧t.h.get s.n=some (.cells [] sz)):=by
 obtain ⟨n,rfl⟩:∃ n,N=n+1:=⟨N - 1,by omega⟩
 have hf:far=1000000000:=rfl
 obtain ⟨w,t,e,st,hq⟩:=call_new (n:=n) (args:=[v]) (s:=s) (k:=2) (Q:=fun w h n=>Sl (fun x=>s.n≤x) h n 1 (intRows l) w∧(l≠[]→IsAt h n (s.n+1) 1 (tag 3) (intRows l) w)∧(l=[]→∃ sz,w=.slice s.n 0 0 0 false∧h.get s.n=some (.cells [] sz))) Try.func28 rfl (fun u uh un um=>by
  rw [← uh,← un] at hR
  rw [← un]
  rw [enter28]
  obtain ⟨y,hy⟩:∃ y:St,y=u.new (.cells [] 0):=⟨_,rfl⟩
  have yn:y.n=u.n+1:=by rw [hy];rfl
  have ym:y.m=far:=by rw [hy];exact um
  have yg:∀ c,c<u.n→y.h.get c=u.h.get c:=fun c hc=>by rw [hy,get_new_ne _ _ _ (by omega)]
  have y0:y.h.get u.n=some (.cells [] 0):=by rw [hy];exact get_new_eq _ _ _ rfl (by omega)
  simp (disch:=first|omega|(with_unfolding_all exact rfl)|(simp only[new_n,put_n,new_m];omega)|(refine put_m_le ?_;simp only[new_m];omega)) only [K28r0,K28r1,K28,Abs.W,reduceIte,Nat.reduceEqDiff,Nat.reduceAdd]
  obtain ⟨w,s',e1,hS,hI,n1,n2,hg,m1,m2,hpl,hnil⟩:=app_all (tg:=tag 3) (bytes:=8) (hR.grow yg (by omega:u.n≤y.n)) y0 (by omega) (intRows_scal l) (by unfold intRows;rw [List.length_map];omega) (by kernel_rfl) (by omega)
  rw [hy] at e1
  simp (disch:=first|omega|(with_unfolding_all exact rfl)|(simp only[new_n,put_n,new_m];omega)|(refine put_m_le ?_;simp only[new_m];omega)) only [res28,Abs.W,reduceIte,Nat.reduceEqDiff,e1]
  have hne:l≠[]→intRows l≠[]:=fun h e=>h (List.map_eq_nil_iff.mp e)
  refine ⟨_,_,rfl,⟨fun c hc=>(hg c (by omega)).trans (yg c hc),by omega,by omega,by omega,by omega⟩,hpl,hS.move (fun b _ h=>⟨rfl,by omega⟩) (Nat.le_refl _),fun h=>?_,fun h=>?_⟩
  ·have:=hI (hne h)
   rwa [yn] at this
  ·subst h
   exact ⟨0,hnil rfl,(hg u.n (by omega)).trans y0⟩)
 exact ⟨w,t,hr.symm.trans e,st,hq⟩
end Go.Proofs.Ythbhjgbpjlnbcaa.walk
set_option maxRecDepth 10000
namespace Go.Proofs.Ythbhjgbpjlnbcaa.walk
open Go.Abs Go.Proofs.Ythbhjgbpjlnbcaa.code
theorem once_ex {N d:Nat} {n:Int} {s:St} {r:ARes} (hr:call Try.prog X N (.fn 27) [.ptr d 0,.int .i64 n] s=r) (hN:3≤N) (hd:Die d s.h) (hlt:d<s.n) (hs:s.n+200≤far) (hn:n≤4000000000) :
  ∃ b t,r=.val (.bool b) t∧Stir d s t 0∧Die d t.h:=by
 obtain ⟨m,rfl⟩:∃ m,N=m+1:=⟨N - 1,by omega⟩
 have hf:far=1000000000:=rfl
 obtain ⟨v,t,e,st,⟨x,rfl⟩,hd'⟩:=call_stir_plain (n:=m) (args:=[.ptr d 0,.int .i64 n]) (d:=d) (k:=0) (Q:=fun v=>∃ b,v=.bool b) (R:=Die d) Try.func27 hd (fun u uh un um=>by
  rw [← uh] at hd
  rw [enter27]
  simp (disch:=first|omega|(with_unfolding_all exact rfl)|(simp only[new_n,put_n,new_m];omega)|(refine put_m_le ?_;simp only[new_m];omega)) only [K27r0,K27r1,K27,Abs.W,reduceIte,Nat.reduceEqDiff,Nat.reduceAdd]
  generalize hc:call _ _ _ (.fn 15) _ _=r1
  obtain ⟨y,w,rfl,sw,dw,y0,y1⟩:=cast_ex hc (by omega) hd (by omega) (by omega) hn
  simp (disch:=first|omega|(with_unfolding_all exact rfl)|(simp only[new_n,put_n,new_m];omega)|(refine put_m_le ?_;simp only[new_m];omega)) only [res27,Abs.W,reduceIte,Nat.reduceEqDiff]
  exact ⟨_,_,rfl,sw,rfl,⟨_,rfl⟩,dw⟩) (by omega)
 exact ⟨x,t,hr.symm.trans e,st,hd'⟩
end Go.Proofs.Ythbhjgbpjlnbcaa.walk
set_option maxRecDepth 10000
namespace Go.Proofs.Ythbhjgbpjlnbcaa.walk
open Go.Abs Go.Proofs.Ythbhjgbpjlnbcaa.code
structure LetJ (u t:St) (d p7:Nat) (l:List StallR) (many:Nat) (vS:AV) (bS kk:Nat):Prop where
 die:Die d t.h
 g7:t.h.get p7=some (.cells [vS,.nilslice] (tag 28))
 is:IsAt t.h t.n bS 3 (tag 53) (l.map StallR.cells) vS
 lo:p7<bS
 same:∀ c,c<p7→c≠d→t.h.get c=u.h.get c
 n:p7<t.n
 le:t.n≤u.n+kk
 m:d≤u.m→d≤t.m
 mle:t.m≤u.m
 dp:d<p7
 ok:∀ s ∈ l,s.Ok many
theorem LetJ.stir {u t z:St} {d p7 many bS kk k:Nat} {l:List StallR} {vS:AV} (J:LetJ u t d p7 l many vS bS kk) (S:Stir d t z k) (D:Die d z.h):LetJ u z d p7 l many vS bS (kk+k):=by
 obtain ⟨jd,j7,ji,jlo,js,jn,jle,jm,jml,jdp,jok⟩:=J
 have:=S.n
 have:=S.le
 exact ⟨D,(S.same p7 jn (by omega)).trans j7,ji.mono (fun h=>S.same bS h (by omega)) (by omega),jlo,fun c hc hcd=>(S.same c (by omega) hcd).trans (js c hc hcd),by omega,by omega,fun h=>S.m (jm h),Nat.le_trans S.mle jml,jdp,jok⟩
theorem let_push {cl:CallF} {L:Env} {u z:St} {r:ORes} {d p7 many bS kk p:Nat} {l:List StallR} {vS:AV} {S:StallR} (hr:K12r8 cl L z=r) (J:LetJ u z d p7 l many vS bS kk) (hS:S.Ok many) (hp:z.h.get p=some (.cells S.cells (tag 53))) (hl:l.length≤7) (hs:u.n+kk+100≤far)
  (q7:L.find 7=.ptr p7 0) (q10:L.find 10=.ptr p 0):∃ M z1 v1 b1,r=.ok M z1∧LetJ u z1 d p7 (l++[S]) many v1 b1 (kk+2):=by
 subst hr
 have hf:far=1000000000:=rfl
 obtain ⟨jd,j7,ji,jlo,js,jn,jle,jm,jml,jdp,jok⟩:=J
 have kv:∀ t,okA (.val vS t)=.val vS t:=ji.okA
 obtain ⟨y,hy⟩:∃ y:St,y=z.new (.cells S.cells 0):=⟨_,rfl⟩
 have yn:y.n=z.n+1:=by rw [hy];rfl
 have ym:y.m=z.m:=by rw [hy];rfl
 have yg:∀ c,c<z.n→y.h.get c=z.h.get c:=fun c hc=>by rw [hy,get_new_ne _ _ _ (by omega)]
 have yp:y.h.get z.n=some (.cells S.cells 0):=by rw [hy];exact get_new_eq _ _ _ rfl (by omega)
 obtain ⟨s7,e7,l7,s7n,s7g,s7m,s7l⟩:=append_at (bytes:=24) (ji.mono (h':=y.h) (n':=y.n) (fun h=>yg bS h) (by omega)) yp rfl rfl (by rw [List.length_map];omega) (by kernel_rfl) (by omega)
 have hlen:(l.map StallR.cells).length=l.length:=List.length_map ..
 rw [hlen] at e7 l7
 obtain ⟨v7,hv7⟩:∃ v7,v7=AV.slice y.n 0 (l.length+1) (l.length+1) true:=⟨_,rfl⟩
 rw [← hv7] at e7 l7
 have sc7:scalars [v7]=true:=by rw [hv7];rfl
 have cc7:cellsOf 1 v7=some [v7]:=by rw [hv7];rfl
 have s9:=(s7g p7 (by omega) (by omega)).trans ((yg p7 (by omega)).trans j7)
 unfold StallR.cells at hp hy
 simp (disch:=first|omega|(with_unfolding_all exact rfl)|(simp only[new_n,put_n,new_m];omega)|(refine put_m_le ?_;simp only[new_m];omega)) only [K12r8,Abs.W,reduceIte,Nat.reduceEqDiff,Nat.reduceAdd,Nat.reduceSub,q7,q10,j7,hp,kv,Nat.zero_add]
 rw [← hy]
 simp (disch:=first|omega|(with_unfolding_all exact rfl)|(simp only[new_n,put_n,new_m];omega)|(refine put_m_le ?_;simp only[new_m];omega)) only [Abs.W,reduceIte,Nat.reduceEqDiff,Nat.reduceSub,e7,q7,s9,sc7,cc7,Nat.zero_add]
 have hcells:(l.map StallR.cells)++[S.cells]=(l++[S]).map StallR.cells:=by rw [List.map_append];rfl
 refine ⟨_,_,v7,y.n,rfl,⟨jd.keep ?_,get_put_eq _ _ _ _ rfl (by omega),?_,by omega,fun c hc hcd=>?_,by simp only [put_n];omega,by simp only [put_n];omega,fun hm=>?_,?_,jdp,fun x hx=>?_⟩⟩
 ·rw [get_put_ne' _ _ _ _ (by omega),s7g d (by omega) (by omega),yg d (by omega)]
 ·rw [← hcells]
  exact l7.mono (fun _=>get_put_ne' _ _ _ _ (by omega)) (by simp only [put_n];omega)
 ·rw [get_put_ne' _ _ _ _ (by omega),s7g c (by omega) (by omega),yg c (by omega)]
  exact js c hc hcd
 ·have:=jm hm
  have:=s7m d (by omega) (by omega) (by omega)
  simp only [St.put,minN_eq];omega
 ·simp only [St.put,minN_eq];omega
 ·rcases List.mem_append.mp hx with hx | hx
  ·exact jok x hx
  ·rw [List.mem_singleton.mp hx];exact hS
theorem let_round (N:Nat) (hN:5≤N) (cx:Ctx) {d p7 many bS kk i:Nat} {l:List StallR} {vS:AV} {u t:St} {L:Env} (J:LetJ u t d p7 l many vS bS kk) (hl:l.length≤7) (hs:u.n+kk+2000≤far) (hum:u.m≤far) (hi:i≤1000) (hmany:many≤1000)
  (q0:L.find 0=.ptr d 0) (q7:L.find 7=.ptr p7 0) (q8:L.find 8=.int .i64 many) (q9:L.find 9=.int .i64 (i+1:Nat)) :
  ∃ L1 t1 S v1 b1,K12l0 (call Try.prog X N) cx L [] t=.done .norm L1 [] t1∧LetJ u t1 d p7 (l++[S]) many v1 b1 (kk+10)∧L1.find 9=.int .i64 (i:Nat)∧∀ c,c<9→L1.find c=L.find c:=by
 have hf:far=1000000000:=rfl
 have jn:=J.n
 have jle:=J.le
 have jdp:=J.dp
 have e0:decide ((0:Int)<((i+1:Nat):Int))=true:=decide_eq_true (by omega)
 have sb:∀ s,aSub s .i64 ((i+1:Nat):Int) 1=.val (.int .i64 (i:Int)) s:=fun s=>by rw [aSub_i64 s _ _ (by omega)];congr 2;omega
 have sm:∀ s,aSub s .i64 (many:Int) 1=.val (.int .i64 ((many:Int) - 1)) s:=fun s=>aSub_i64 s _ _ (by omega)
 simp (disch:=first|omega|(with_unfolding_all exact rfl)|(simp only[new_n,put_n,new_m];omega)|(refine put_m_le ?_;simp only[new_m];omega)) only [K12r4,K12r5,K12l0,Abs.W,reduceIte,Nat.reduceEqDiff,efs,q0,q9,e0]
 generalize hc1:call _ _ _ (.fn 26) _ _=r1
 obtain ⟨x1,t1,rfl,st1,d1,x10,x11⟩:=from_ex hc1 (by omega) J.die (by omega) (by omega) (by omega) (by omega) (by omega) (by omega)
 have n1:=st1.n
 have k1:=st1.le
 simp (disch:=first|omega|(with_unfolding_all exact rfl)|(simp only[new_n,put_n,new_m];omega)|(refine put_m_le ?_;simp only[new_m];omega)) only [Abs.W,reduceIte,Nat.reduceEqDiff,efs,q0]
 generalize hc2:call _ _ _ (.fn 15) _ _=r2
 obtain ⟨x2,t2,rfl,st2,d2,x20,x21⟩:=cast_ex hc2 (by omega) d1 (by omega) (by omega) (by omega)
 have n2:=st2.n
 have k2:=st2.le
 simp (disch:=first|omega|(with_unfolding_all exact rfl)|(simp only[new_n,put_n,new_m];omega)|(refine put_m_le ?_;simp only[new_m];omega)) only [Abs.W,reduceIte,Nat.reduceEqDiff,efs,q0]
 generalize hc3:call _ _ _ (.fn 15) _ _=r3
 obtain ⟨x3,t3,rfl,st3,d3,x30,x31⟩:=cast_ex hc3 (by omega) d2 (by omega) (by omega) (by omega)
 have n3:=st3.n
 have k3:=st3.le
 simp (disch:=first|omega|(with_unfolding_all exact rfl)|(simp only[new_n,put_n,new_m];omega)|(refine put_m_le ?_;simp only[new_m];omega)) only [Abs.W,reduceIte,Nat.reduceEqDiff,Nat.reduceSub,efs]
 generalize hc4:call _ _ _ (.fn 33) _ _=r4
 obtain ⟨x4,t4,rfl,st4,d4,hx4⟩:=one_ex [0,x2,x3] (b:=t3.n) (sz:=0) hc4 (by omega) (d3.keep (get_new_ne _ _ _ (by omega))) (by simp only [new_n];omega) (by simp only [new_n];omega) (get_new_eq _ _ _ rfl (by omega)) (by simp only [new_n];omega) (by omega) rfl (by omega) (by omega)
 have n4:=st4.n
 have k4:=st4.le
 simp only [new_n] at n4 k4
 have hx4':0≤x4∧x4≤1000:=by simp at hx4;omega
 simp (disch:=first|omega|(with_unfolding_all exact rfl)|(simp only[new_n,put_n,new_m];omega)|(refine put_m_le ?_;simp only[new_m];omega)) only [K12r6,Abs.W,reduceIte,Nat.reduceEqDiff,Nat.reduceAdd,Nat.reduceSub,efs,q0,Nat.zero_add]
 have S4:Stir d t t4 1:=(((st1.trans st2).trans st3).new _).trans st4
 obtain ⟨y,hy⟩:∃ y:St,y=(t4.new (.cells [.int .i64 0,.int .i64 0,.int .i64 0] (tag 53))).put t4.n (.cells [.int .i64 x1,.int .i64 x4,.int .i64 (-1)] (tag 53)):=⟨_,rfl⟩
 have Sy:Stir d t y 2:=by rw [hy];exact (S4.new _).put (by omega) _ (.inr (by omega))
 have yn:y.n=t4.n+1:=by rw [hy];rfl
 have yp:y.h.get t4.n=some (.cells [.int .i64 x1,.int .i64 x4,.int .i64 (-1)] (tag 53)):=by rw [hy];exact get_put_eq _ _ _ _ rfl (by omega)
 have dy:Die d y.h:=d4.keep (by rw [hy,get_put_ne' _ _ _ _ (by omega),get_new_ne _ _ _ (by omega)])
 rw [← hy]
 generalize hc5:call _ _ _ (.fn 27) _ _=r5
 obtain ⟨bb,t5,rfl,st5,d5⟩:=once_ex hc5 (by omega) dy (by omega) (by omega) (by omega)
 have n5:=st5.n
 have k5:=st5.le
 have S5:=Sy.trans st5
 have p5:=(st5.same t4.n (by omega) (by omega)).trans yp
 cases bb with
 | false =>
  simp (disch:=first|omega|(with_unfolding_all exact rfl)|(simp only[new_n,put_n,new_m];omega)|(refine put_m_le ?_;simp only[new_m];omega)) only [Abs.W,reduceIte,Nat.reduceEqDiff,efs]
  generalize hq:K12r8 _ _ _=q8
  obtain ⟨M,z1,v1,b1,rfl,J1⟩:=let_push (S:=⟨x1,x4, -1⟩) hq (J.stir S5 d5) ⟨by simp only;omega,by simp only;omega,by simp only;omega,by simp only;omega,by simp only;omega,by simp only;omega⟩ p5 hl (by omega) (by simp only [efs,q7,reduceIte,Nat.reduceEqDiff]) (by simp only [efs,reduceIte,Nat.reduceEqDiff])
  simp (disch:=first|omega|(with_unfolding_all exact rfl)|(simp only[new_n,put_n,new_m];omega)|(refine put_m_le ?_;simp only[new_m];omega)) only [K12r9,Abs.W,reduceIte,Nat.reduceEqDiff,efs,q9,sb]
  obtain ⟨a1,a2,a3,a4,a5,a6,a7,a8,a9,a10,a11⟩:=J1
  refine ⟨_,z1,_,v1,b1,rfl,⟨a1,a2,a3,a4,a5,a6,by omega,a8,a9,a10,a11⟩,by simp only [efs,reduceIte,Nat.reduceEqDiff],fun c hc=>?_⟩
  simp only [efs]
  repeat rw [if_neg (by omega)]
 | true =>
  simp (disch:=first|omega|(with_unfolding_all exact rfl)|(simp only[new_n,put_n,new_m];omega)|(refine put_m_le ?_;simp only[new_m];omega)) only [K12r7,Abs.W,reduceIte,Nat.reduceEqDiff,efs,q0,q8,sm]
  generalize hc6:call _ _ _ (.fn 26) _ _=r6
  obtain ⟨x6,t6,rfl,st6,d6,x60,x61⟩:=from_ex hc6 (by omega) d5 (by omega) (by omega) (by omega) (by omega) (by omega) (by omega)
  have n6:=st6.n
  have k6:=st6.le
  have p6:=(st6.same t4.n (by omega) (by omega)).trans p5
  simp (disch:=first|omega|(with_unfolding_all exact rfl)|(simp only[new_n,put_n,new_m];omega)|(refine put_m_le ?_;simp only[new_m];omega)) only [Abs.W,reduceIte,Nat.reduceEqDiff,Nat.reduceSub,efs,p6,Nat.zero_add]
  obtain ⟨z,hz⟩:∃ z:St,z=t6.put t4.n (.cells [.int .i64 x1,.int .i64 x4,.int .i64 x6] (tag 53)):=⟨_,rfl⟩
  have Sz:Stir d t z 2:=by rw [hz];exact ((S5.trans st6).mono (by omega)).put (by omega) _ (.inr (by omega))
  have zp:z.h.get t4.n=some (.cells [.int .i64 x1,.int .i64 x4,.int .i64 x6] (tag 53)):=by rw [hz];exact get_put_eq _ _ _ _ rfl (by omega)
  have dz:Die d z.h:=d6.keep (by rw [hz,get_put_ne' _ _ _ _ (by omega)])
  rw [← hz]
  generalize hq:K12r8 _ _ _=q8
  obtain ⟨M,z1,v1,b1,rfl,J1⟩:=let_push (S:=⟨x1,x4,x6⟩) hq (J.stir Sz dz) ⟨by simp only;omega,by simp only;omega,by simp only;omega,by simp only;omega,by simp only;omega,by simp only;omega⟩ zp hl (by omega) (by simp only [efs,q7,reduceIte,Nat.reduceEqDiff]) (by simp only [efs,reduceIte,Nat.reduceEqDiff])
  simp (disch:=first|omega|(with_unfolding_all exact rfl)|(simp only[new_n,put_n,new_m];omega)|(refine put_m_le ?_;simp only[new_m];omega)) only [K12r9,Abs.W,reduceIte,Nat.reduceEqDiff,efs,q9,sb]
  obtain ⟨a1,a2,a3,a4,a5,a6,a7,a8,a9,a10,a11⟩:=J1
  refine ⟨_,z1,_,v1,b1,rfl,⟨a1,a2,a3,a4,a5,a6,by omega,a8,a9,a10,a11⟩,by simp only [efs,reduceIte,Nat.reduceEqDiff],fun c hc=>?_⟩
  simp only [efs]
  repeat rw [if_neg (by omega)]
theorem let_loop (N:Nat) (hN:5≤N) {cx:Ctx} {d p7 many bS kk i:Nat} {vS:AV} {u w:St} {L:Env} {r:R} (hr:loopN K12l0 rounds (call Try.prog X N) cx L [] w=r) (J:LetJ u w d p7 [] many vS bS kk) (hi:i≤8) (hs:u.n+kk+3000≤far) (hum:u.m≤far) (hmany:many≤1000)
  (q0:L.find 0=.ptr d 0) (q7:L.find 7=.ptr p7 0) (q8:L.find 8=.int .i64 many) (q9:L.find 9=.int .i64 (i:Int)) :
  ∃ L1 t1 l1 v1 b1,r=.done (.exit 0) L1 [] t1∧LetJ u t1 d p7 l1 many v1 b1 (kk+80)∧l1.length=i∧∀ c,c<9→L1.find c=L.find c:=by
 have hf:far=1000000000:=rfl
 obtain ⟨e,L1,t1,rfl,rfl,l1,v1,b1,h1,h3,h5⟩:=loop_of hr (fun j L' t'=>∃ l1 v1 b1,LetJ u t' d p7 l1 many v1 b1 (kk+10 * j)∧l1.length=j∧L'.find 9=.int .i64 ((i - j:Nat):Int)∧∀ c,c<9→L'.find c=L.find c)
  (fun e L' t'=>e=.exit 0∧∃ l1 v1 b1,LetJ u t' d p7 l1 many v1 b1 (kk+80)∧l1.length=i∧∀ c,c<9→L'.find c=L.find c) i (by unfold rounds;omega)
  ⟨[],vS,bS,J,rfl,q9,fun _ _=>rfl⟩
  (fun j L' t' hj ⟨l1,v1,b1,hJ,hb3,p9,g⟩=>by
   by_cases hlt:j<i
   ·obtain ⟨L2,t2,S,v2,b2,z1,z2,z6,z7⟩:=let_round N hN cx (i:=i - j - 1) hJ (by omega) (by omega) hum (by omega) hmany ((g 0 (by omega)).trans q0) ((g 7 (by omega)).trans q7) ((g 8 (by omega)).trans q8) (by rw [p9,show i - j - 1+1=i - j by omega])
    exact .inl ⟨hlt,L2,t2,z1,l1++[S],v2,b2,z2,by simp [hb3],z6.trans (by rw [show i - j - 1=i - (j+1) by omega]),fun c hc=>(z7 c hc).trans (g c hc)⟩
   ·obtain rfl:j=i:=by omega
    have e0:decide ((0:Int)<((0:Nat):Int))=false:=rfl
    rw [Nat.sub_self] at p9
    refine .inr ⟨.exit 0,L'.set 22 (.bool false),t',by simp,?_,rfl,l1,v1,b1,?_,hb3,fun c hc=>?_⟩
    ·simp (disch:=first|omega|(with_unfolding_all exact rfl)|(simp only[new_n,put_n,new_m];omega)|(refine put_m_le ?_;simp only[new_m];omega)) only [K12r4,K12l0,Abs.W,reduceIte,Nat.reduceEqDiff,efs,p9,e0]
    ·obtain ⟨a1,a2,a3,a4,a5,a6,a7,a8,a9,a10,a11⟩:=hJ
     exact ⟨a1,a2,a3,a4,a5,a6,by omega,a8,a9,a10,a11⟩
    ·simp only [efs]
     rw [if_neg (by omega)]
     exact g c hc)
 exact ⟨L1,t1,l1,v1,b1,rfl,h1,h3,h5⟩
end Go.Proofs.Ythbhjgbpjlnbcaa.walk
set_option maxRecDepth 10000
namespace Go.Proofs.Ythbhjgbpjlnbcaa.walk
open Go.Abs Go.Proofs.Ythbhjgbpjlnbcaa.code
theorem perm_mem {m:Nat} {f:List Nat} (hl:f.length=m) (p:Perm m f):∀ j,j<m→j ∈ f:=fun j hj=>by
 obtain ⟨q,h1,h2⟩:=p.all j hj
 rw [← h2]
 simp [List.getD,show q<f.length by omega]
theorem perm_lt {m:Nat} {f:List Nat} (hl:f.length=m) (p:Perm m f):∀ x ∈ f,x<m:=fun x hx=>by
 obtain ⟨q,h1,rfl⟩:=List.getElem_of_mem hx
 have:=p.lt q (by omega)
 simpa [List.getD,h1] using this
theorem perm_ofRange:∀ (n:Nat) (f:List Nat),f.length=n→(∀ j,j<n→j ∈ f)→List.Perm f (List.range n)
 | 0,f,h,_=>by
  have:f=[]:=List.length_eq_zero_iff.mp h
  subst this
  exact List.Perm.nil
 | n+1,f,h,ha=>by
  have hn:=ha n (Nat.lt_succ_self n)
  have h1:=List.perm_cons_erase hn
  have h2:=perm_ofRange n (f.erase n) (by rw [List.length_erase_of_mem hn];omega) (fun j hj=>(List.mem_erase_of_ne (by omega)).mpr (ha j (by omega)))
  rw [List.range_succ]
  exact h1.trans ((List.Perm.cons n h2).trans (List.perm_append_comm (l₁:=[n]) (l₂:=List.range n)))
theorem perm_nodup {m:Nat} {f:List Nat} (hl:f.length=m) (p:Perm m f):f.Nodup:=(perm_ofRange m f hl (perm_mem hl p)).nodup_iff.mpr List.nodup_range
theorem ofNat_nodup {f:List Nat} (h:f.Nodup):(f.map Int.ofNat).Nodup:=by
 unfold List.Nodup at *
 rw [List.pairwise_map]
 exact h.imp fun hab e=>hab (Int.ofNat.inj e)
structure BidJ (z0 t:St) (d p12:Nat) (a1 a2 wv:AV) (bs:List Int) (bv:AV) (bB kk:Nat):Prop where
 die:Die d t.h
 g12:t.h.get p12=some (.cells [a1,a2,wv,bv] (tag 37))
 is:IsAt t.h t.n bB 1 (tag 3) (intRows bs) bv
 lo:z0.n≤bB
 same:∀ c,c<z0.n→c≠d→c≠p12→t.h.get c=z0.h.get c
 n:z0.n≤t.n
 le:t.n≤z0.n+kk
 m:d≤z0.m→d≤t.m
 mle:t.m≤z0.m
 b:∀ x ∈ bs,0≤x∧x≤1000000
theorem bid_round (N:Nat) (hN:5≤N) (cx:Ctx) {d p7 p12 bB kk k:Nat} {a1 a2 wv bv vS vA:AV} {bs wl:List Int} {ss:List StallR} {z0 t:St} {L:Env} {noW noS:Nat→Prop} (J:BidJ z0 t d p12 a1 a2 wv bs bv bB kk)
  (g7:z0.h.get p7=some (.cells [vS,vA] (tag 28))) (hS:Sl noS z0.h z0.n 3 (ss.map StallR.cells) vS) (hW:Sl noW z0.h z0.n 1 (intRows wl) wv) (hnS:∀ b,noS b→b≠d∧b≠p12) (hnW:∀ b,noW b→b≠d∧b≠p12)
  (h7:p7<z0.n∧p7≠d∧p7≠p12) (h12:d<p12∧p12<z0.n) (hs1:scalars [a1,a2]=true) (hk:k<wl.length) (hwl:wl.length≤8) (hbl:bs.length=k) (hx:∀ x ∈ wl,0≤x∧x<ss.length) (hss:∀ s ∈ ss,0≤s.least∧s.least≤1000) (hs:z0.n+kk+2000≤far) (hum:z0.m≤far) (hdm:d≤z0.m)
  (q0:L.find 0=.ptr d 0) (q7:L.find 7=.ptr p7 0) (q12:L.find 12=.ptr p12 0) (q13:L.find 13=.int .i64 k) :
  ∃ L1 t1 x bv1 bB1,K12l1 (call Try.prog X N) cx L [] t=.done .norm L1 [] t1∧BidJ z0 t1 d p12 a1 a2 wv (bs++[x]) bv1 bB1 (kk+10)∧L1.find 13=.int .i64 (k+1:Nat)∧∀ c,c<13→L1.find c=L.find c:=by
 have hf:far=1000000000:=rfl
 obtain ⟨jd,j12,ji,jlo,js,jn,jle,jm,jml,jb⟩:=J
 have e0:decide ((k:Int)<(wl.length:Int))=true:=decide_eq_true (by omega)
 have ad:∀ s,aAdd s .i64 (k:Int) 1=.val (.int .i64 ((k:Int)+1)) s:=fun s=>aAdd_i64 s _ _ (by omega)
 have kb:∀ t,okA (.val bv t)=.val bv t:=ji.okA
 have kw:=hW.okA
 have lw:=rowLen hW.at_
 have kS:=hS.okA
 have j7:=(js p7 h7.1 h7.2.1 h7.2.2).trans g7
 have hWt:Sl noW t.h t.n 1 (intRows wl) wv:=hW.move (fun b h1 h2=>⟨js b h1 (hnW b h2).1 (hnW b h2).2,h2⟩) jn
 have hSt:Sl noS t.h t.n 3 (ss.map StallR.cells) vS:=hS.move (fun b h1 h2=>⟨js b h1 (hnS b h2).1 (hnS b h2).2,h2⟩) jn
 have noWb:∀ b,noW b→b≠d:=fun b h=>(hnW b h).1
 obtain ⟨b1,p1,c1,sz1,r1,r2,r3,r4⟩:=rowInt hWt.at_ hk
 obtain ⟨x0,x1⟩:=hx _ (List.getElem_mem hk)
 obtain ⟨w,hw⟩:∃ w:Nat,wl[k]=w:=⟨wl[k].toNat,by omega⟩
 rw [hw] at r4
 have hwS:w<ss.length:=by omega
 obtain ⟨b2,p2,c2,sz2,s1,s2,s3,s4⟩:=hSt.at_.at_ w (by rw [List.length_map];exact hwS)
 rw [List.getElem_map] at s4
 have s5:=cut_nth s4 (show 1<3 by omega)
 have s6:nth (ss[w].cells) 1=.int .i64 ss[w].least:=rfl
 rw [s6] at s5
 have nb1:b1≠d:=by
  rcases hWt.is with ⟨z,_⟩ | ⟨b,o,cap,e,c,sz,y1,y2,y3,y4,y5,y6⟩
  ·rw [List.map_eq_nil_iff.mp z] at hk;simp at hk
  ·have:=r2 none0
   rw [y4,ixs_slice _ _ _ _ _ _ _ _ (by rw [intRows_len];exact hk)] at this
   injection this with this
   injection this with h1 h2
   subst h1
   exact noWb _ y2
 have nb2:b2≠d:=by
  rcases hSt.is with ⟨z,_⟩ | ⟨b,o,cap,e,c,sz,y1,y2,y3,y4,y5,y6⟩
  ·rw [List.map_eq_nil_iff.mp z] at hwS;simp at hwS
  ·have:=s2 none0
   rw [y4,ixs_slice _ _ _ _ _ _ _ _ (by rw [List.length_map];exact hwS)] at this
   injection this with this
   injection this with h1 h2
   subst h1
   exact (hnS _ y2).1
 obtain ⟨lt0,lt1⟩:=hss _ (List.getElem_mem hwS)
 generalize ss[w].least=least at *
 simp (disch:=first|omega|(with_unfolding_all exact rfl)|(simp only[new_n,put_n,new_m];omega)|(refine put_m_le ?_;simp only[new_m];omega)) only [K12r17,K12r18,K12l1,Abs.W,reduceIte,Nat.reduceEqDiff,Nat.reduceSub,efs,Nat.zero_add,q0,q7,q12,q13,j12,j7,kb,kw,kS,lw,e0,r2,r3,r4,s2,s3,s5]
 generalize hc1:call _ _ _ (.fn 15) _ _=r1
 obtain ⟨y1,t1,rfl,st1,d1,y10,y11⟩:=cast_ex hc1 (by omega) jd (by show d<t.n;omega) (by show t.n+100≤far;omega) (by omega)
 have n1:t.n≤t1.n:=st1.n
 have k1:t1.n≤t.n:=st1.le
 have g1:∀ c,c<t.n→c≠d→t1.h.get c=t.h.get c:=fun c hc hcd=>st1.same c hc hcd
 have m1:d≤t1.m:=st1.m (by show d≤far;omega)
 simp (disch:=first|omega|(with_unfolding_all exact rfl)|(simp only[new_n,put_n,new_m];omega)|(refine put_m_le ?_;simp only[new_m];omega)) only [thenT_turn,Abs.W,reduceIte,Nat.reduceEqDiff,Nat.reduceSub,efs]
 obtain ⟨z1,hz1⟩:∃ z1:St,z1=(⟨t1.h,t1.n,minN t.m t1.m⟩:St).new (.cells [.int .i64 0,.int .i64 1,.int .i64 (-1),.int .i64 y1] 0):=⟨_,rfl⟩
 rw [← hz1]
 have z1n:z1.n=t1.n+1:=by rw [hz1];rfl
 have z1m:z1.m=min t.m t1.m:=by rw [hz1];simp only [new_m,minN_eq]
 have z1g:∀ c,c<t1.n→z1.h.get c=t1.h.get c:=fun c hc=>by rw [hz1];exact get_new_ne _ _ _ (by show c≠t1.n;omega)
 have z1p:z1.h.get t1.n=some (.cells ([0,1, -1,y1].map fun x=>AV.int .i64 x) 0):=by rw [hz1];exact get_new_eq _ _ _ rfl (by show t1.n<_;omega)
 generalize hc2:call _ _ _ (.fn 33) _ _=r2
 obtain ⟨y2,t2,rfl,st2,d2,hy2⟩:=one_ex [0,1, -1,y1] (b:=t1.n) (sz:=0) hc2 (by omega) (d1.keep (z1g d (by omega))) (by show d<z1.n;omega) (by show z1.n+200≤far;omega) z1p (by show t1.n<z1.n;omega) (by omega) rfl (by omega) (by omega)
 have n2:z1.n≤t2.n:=st2.n
 have k2:t2.n≤z1.n:=st2.le
 have g2:∀ c,c<t.n→c≠d→t2.h.get c=t.h.get c:=fun c hc hcd=>(st2.same c (by show c<z1.n;omega) hcd).trans ((z1g c (by omega)).trans (g1 c hc hcd))
 have m2:d≤t2.m:=st2.m (by show d≤far;omega)
 have hy2' : -1≤y2∧y2≤7:=by simp at hy2;omega
 have adl:∀ s,aAdd s .i64 least y2=.val (.int .i64 (least+y2)) s:=fun s=>aAdd_i64 s _ _ (by omega)
 obtain ⟨x,hx⟩:∃ x,x=max 0 (least+y2):=⟨_,rfl⟩
 simp (disch:=first|omega|(with_unfolding_all exact rfl)|(simp only[new_n,put_n,new_m];omega)|(refine put_m_le ?_;simp only[new_m];omega)) only [thenT_turn,Abs.W,reduceIte,Nat.reduceEqDiff,Nat.reduceSub,efs,adl,kFold_def,foldA_nil,foldA_cons,maxA_i64]
 rw [← hx]
 obtain ⟨y8,hy8⟩:∃ y8:St,y8=⟨t2.h,t2.n,minN z1.m t2.m⟩:=⟨_,rfl⟩
 rw [← hy8]
 have y8n:y8.n=t2.n:=by rw [hy8]
 have y8h:y8.h=t2.h:=by rw [hy8]
 have y8m:y8.m=min (min t.m t1.m) t2.m:=by rw [hy8];simp only [minN_eq];rw [z1m]
 obtain ⟨y,hy⟩:∃ y:St,y=y8.new (.cells [.int .i64 x] 0):=⟨_,rfl⟩
 have yn:y.n=t2.n+1:=by rw [hy];show y8.n+1=_;rw [y8n]
 have ym:y.m=y8.m:=by rw [hy];rfl
 have yg:∀ c,c<t2.n→y.h.get c=t2.h.get c:=fun c hc=>by rw [hy,get_new_ne _ _ _ (by omega),y8h]
 have yp:y.h.get t2.n=some (.cells [.int .i64 x] 0):=by rw [hy,← y8n];exact get_new_eq _ _ _ rfl (by omega)
 have gy:∀ c,c<t.n→c≠d→y.h.get c=t.h.get c:=fun c hc hcd=>(yg c (by omega)).trans (g2 c hc hcd)
 obtain ⟨s7,e7,l7,s7n,s7g,s7m,s7l⟩:=append_at (bytes:=8) (ji.mono (h':=y.h) (n':=y.n) (fun h=>gy bB h (by omega)) (by omega)) yp rfl rfl (by rw [intRows_len];omega) (by kernel_rfl) (by omega)
 rw [intRows_len] at e7 l7
 rw [← intRows_snoc] at l7
 obtain ⟨v7,hv7⟩:∃ v7,v7=AV.slice y.n 0 (bs.length+1) (bs.length+1) true:=⟨_,rfl⟩
 rw [← hv7] at e7 l7
 rw [hy] at e7
 have sc7:scalars [v7]=true:=by rw [hv7];rfl
 have cc7:cellsOf 1 v7=some [v7]:=by rw [hv7];rfl
 have s9:=(s7g p12 (by omega) (by omega)).trans ((gy p12 (by omega) (by omega)).trans j12)
 simp (disch:=first|omega|(with_unfolding_all exact rfl)|(simp only[new_n,put_n,new_m];omega)|(refine put_m_le ?_;simp only[new_m];omega)) only [Abs.W,reduceIte,Nat.reduceEqDiff,Nat.reduceSub,efs,e7,q12,s9,sc7,cc7,Nat.zero_add]
 have a12:=(g1 p12 (by omega) (by omega)).trans j12
 have a7:=(g1 p7 (by omega) (by omega)).trans j7
 have ab1:=(g1 b1 (by omega) nb1).trans r3
 have ab2:=(g1 b2 (by omega) nb2).trans s3
 have b12:=(g2 p12 (by omega) (by omega)).trans j12
 have b7:=(g2 p7 (by omega) (by omega)).trans j7
 have bb1:=(g2 b1 (by omega) nb1).trans r3
 have bb2:=(g2 b2 (by omega) nb2).trans s3
 have c12:=(z1g p12 (by omega)).trans a12
 have c7:=(z1g p7 (by omega)).trans a7
 have cb1:=(z1g b1 (by omega)).trans ab1
 have cb2:=(z1g b2 (by omega)).trans ab2
 rw [endT_kept (l:=[88,90,92,95,98]) (s':=t2) (by simp only [keptAll_cons,keptAll_nil,find_cons,efs,keptV_ptr,c12,c7,cb1,cb2,b12,b7,bb1,bb2,sameO_cells,reduceIte,Nat.reduceEqDiff,Bool.and_self])]
 rw [endT_kept (l:=[88,90,92,95,98]) (s':=t1) (by simp only [keptAll_cons,keptAll_nil,find_cons,efs,keptV_ptr,j12,j7,r3,s3,a12,a7,ab1,ab2,sameO_cells,reduceIte,Nat.reduceEqDiff,Bool.and_self])]
 rw [endO_ok _ (endOk_nil _)]
 simp (disch:=first|omega|(with_unfolding_all exact rfl)|(simp only[new_n,put_n,new_m];omega)|(refine put_m_le ?_;simp only[new_m];omega)) only [K12r19,Abs.W,reduceIte,Nat.reduceEqDiff,efs,q13,ad]
 refine ⟨_,_,x,v7,y.n,rfl,⟨d2.keep ?_,get_put_eq _ _ _ _ rfl (by omega),?_,by omega,fun c h1 h2 h3=>?_,by simp only [put_n];omega,by simp only [put_n];omega,fun hm=>?_,?_,fun x' hx'=>?_⟩,by simp only [efs,reduceIte,Nat.reduceEqDiff];rfl,fun c hc=>?_⟩
 ·rw [get_put_ne' _ _ _ _ (by omega),s7g d (by omega) (by omega),yg d (by omega)]
 ·exact l7.mono (fun _=>get_put_ne' _ _ _ _ (by omega)) (by simp only [put_n];omega)
 ·rw [get_put_ne' _ _ _ _ (by omega),s7g c (by omega) (by omega),gy c (by omega) h2]
  exact js c h1 h2 h3
 ·have:=jm hm
  have:=s7m d (by omega) (by omega) (by omega)
  simp only [St.put,minN_eq];omega
 ·simp only [St.put,minN_eq];omega
 ·rcases List.mem_append.mp hx' with h | h
  ·exact jb x' h
  ·rw [List.mem_singleton.mp h];omega
 ·simp only [efs]
  repeat rw [if_neg (by omega)]
end Go.Proofs.Ythbhjgbpjlnbcaa.walk
