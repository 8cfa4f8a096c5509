/- Dues: steps that may be, and what they make of a turnover. -/
import Derived.Test.YtamlnddeiokbdaaM3
import Derived.Test.YtamlnddeiokbdaaM2
import Derived.Test.YtamlnddeiokbdaaCodes
import Derived.Test.YtamlnddeiokbdaaM1
import Derived.Test.YtamlnddeiokbdaaWalkAll
set_option linter.unusedSimpArgs false
set_option maxHeartbeats 16000000
set_option linter.unusedVariables false
set_option maxRecDepth 10000
namespace Go.Proofs.Ytamlnddeiokbdaa.walk
open Go.Abs Go.Proofs.Ytamlnddeiokbdaa.code
theorem unless_ok (N:Nat) (hN:1≤N) (e:Int) (s:St) (hs:s.n≤far):call Try.prog X N (.fn 72) [.bool true,.int .i64 e] s=.val (.int .i64 0) s:=by
 obtain ⟨n,rfl⟩:∃ n,N=n+1:=⟨N - 1,by omega⟩
 refine call_plain (s':=⟨s.h,s.n,far⟩) Try.func72 ?_ rfl hs
 rw [enter72]
 simp only [res72,K72r0,K72r1,K72r2,K72r3,K72,Abs.W,reduceIte,Nat.reduceEqDiff,Nat.reduceAdd,decide_true,decide_false,kLoop_def,Nat.reduceSub,List.cons_append,List.nil_append,List.append_nil,List.length_cons,List.length_nil]
theorem step_wide (l:List Step):∀ r ∈ l.map Step.cells,r.length=2:=by
 intro r hr
 obtain ⟨f,_,rfl⟩:=List.mem_map.mp hr
 rfl
theorem step_cut {l:List Step} {i:Nat} (hi:i<l.length):cut (i * 2) 2 (l.map Step.cells).flatten=some [.int .i64 (stepAt l i).fr,.int .i64 (stepAt l i).sh]:=by
 rw [flatten_cut (step_wide l) (by simpa using hi),List.getElem_map]
 unfold stepAt
 simp only [List.getD,List.getElem?_eq_getElem hi,Option.getD_some]
 rfl
theorem step_nth {l:List Step} {i:Nat} (hi:i<l.length):nth (l.map Step.cells).flatten (i * 2)=.int .i64 (stepAt l i).fr:=by
 obtain ⟨a,t,z1,z2,z3⟩:=cut_some (step_cut hi)
 rw [z1,← z2,List.append_assoc,← Nat.add_zero a.length,nth_skip]
 rfl
theorem checkFrom_ok {N i b sz:Nat} {l:List Step} {s:St} (hN:2≤N) (ok:StepsOk l) (hi:i<l.length) (hb:s.h.get b=some (.cells (l.map Step.cells).flatten sz)) (hs:s.n+100≤far) :
  call Try.prog X N (.fn 59) [.int .i64 (stepAt l i).fr,.slice b 0 i l.length true] s=.val (.int .i64 0) s:=by
 obtain ⟨n,rfl⟩:∃ n,N=n+1:=⟨N - 1,by omega⟩
 have hf:far=1000000000:=rfl
 refine call_plain' Try.func59 (fun u uh un um=>?_) rfl
 rw [← uh] at hb
 rw [enter59]
 by_cases h0:i=0
 ·subst h0
  have f0:=ok.f0
  have e0:decide (((0:Nat):Int)=0)=true:=rfl
  have e1:decide ((0:Int)=0)=true:=rfl
  rw [f0]
  simp (disch:=first|omega|(with_unfolding_all exact rfl)|(simp only[new_n,put_n,new_m];omega)|(refine put_m_le ?_;simp only[new_m];omega)) only [res59,K59r0,K59r1,K59r2,K59r3,K59,Abs.W,reduceIte,Nat.reduceEqDiff,Nat.reduceAdd,decide_true,decide_false,kLoop_def,Nat.reduceSub,List.cons_append,List.nil_append,List.append_nil,List.length_cons,List.length_nil,Env.find_set,e0,e1,unless_ok]
  exact ⟨_,rfl,by omega⟩
 ·obtain ⟨j,rfl⟩:∃ j,i=j+1:=⟨i - 1,by omega⟩
  have e0:decide (((j+1:Nat):Int)=0)=false:=decide_eq_false (by omega)
  have sb:∀ s,aSub s .i64 ((j+1:Nat):Int) 1=.val (.int .i64 (j:Int)) s:=fun s=>by rw [aSub_i64 s _ _ (by have:=ok.n1;omega)];congr 2;omega
  have ix:∀ s,ixsA 2 s (.slice b 0 (j+1) l.length true) (.int .i64 (j:Int))=.val (.ptr b (j * 2)) s:=fun s=>by rw [ixs_slice _ _ _ _ _ _ _ _ (by omega),Nat.zero_add]
  have nt:=step_nth (l:=l) (i:=j) (by omega)
  have up:=ok.up j hi
  have e1:decide ((stepAt l (j+1)).fr > (stepAt l j).fr)=true:=decide_eq_true up
  have e2:decide ((stepAt l j).fr<(stepAt l (j+1)).fr)=true:=decide_eq_true up
  simp (disch:=first|omega|(with_unfolding_all exact rfl)|(simp only[new_n,put_n,new_m];omega)|(refine put_m_le ?_;simp only[new_m];omega)) only [res59,K59r0,K59r1,K59r2,K59r3,K59,Abs.W,reduceIte,Nat.reduceEqDiff,Nat.reduceAdd,decide_true,decide_false,kLoop_def,Nat.reduceSub,List.cons_append,List.nil_append,List.append_nil,List.length_cons,List.length_nil,Env.find_set,e0,e1,e2,sb,ix,nt,hb,unless_ok,Nat.add_zero]
  exact ⟨_,rfl,by omega⟩
theorem checkSteps_ok {N b sz:Nat} {l:List Step} {s:St} (hN:3≤N) (ok:StepsOk l) (hl:l.length≤5) (hbn:b<s.n) (hb:s.h.get b=some (.cells (l.map Step.cells).flatten sz)) (hs:s.n+1000≤far) :
  call Try.prog X N (.fn 37) [.slice b 0 l.length l.length true] s=.val (.int .i64 0) s:=by
 obtain ⟨n,rfl⟩:∃ n,N=n+1:=⟨N - 1,by omega⟩
 have hf:far=1000000000:=rfl
 refine call_plain' Try.func37 (fun u uh un um=>?_) rfl
 rw [← uh] at hb
 rw [← un] at hbn hs
 have n0:=ok.n0
 have z0:decide ((0:Int)=0)=true:=rfl
 rw [enter37]
 simp (disch:=first|omega|(with_unfolding_all exact rfl)|(simp only[new_n,put_n,new_m];omega)|(refine put_m_le ?_;simp only[new_m];omega)) only [res37,K37r0,K37r1,K37r2,K37r3,K37r4,K37r5,K37r6,K37r7,K37r8,K37r9,K37r10,K37r11,K37,Abs.W,reduceIte,Nat.reduceEqDiff,Nat.reduceAdd,decide_true,decide_false,kLoop_def,Nat.reduceSub,List.cons_append,List.nil_append,List.append_nil,List.length_cons,List.length_nil,Env.find_set,counted_ok,z0]
 generalize hl1:loopN _ rounds _ _ _ _ _=q1
 obtain ⟨e,L1,s1,rfl,rfl,hE⟩:=loop_of hl1
  (fun i L' t=>L'.find 0=.slice b 0 l.length l.length true∧L'.find 13=.slice b 0 l.length l.length true∧L'.find 14=.int .i64 l.length∧L'.find 15=.int .i64 i∧Beside u t (2 * i))
  (fun e L1 s1=>e=.exit 0∧Beside u s1 (2 * l.length))
  l.length (by unfold rounds;omega) ⟨by simp only [find_cons,Env.find_set,reduceIte,Nat.reduceEqDiff],by simp only [find_cons,Env.find_set,reduceIte,Nat.reduceEqDiff],by simp only [find_cons,Env.find_set,reduceIte,Nat.reduceEqDiff],by simp only [find_cons,Env.find_set,reduceIte,Nat.reduceEqDiff];rfl,Beside.refl u (by omega) um⟩
  (fun i L' t hi ⟨q0,q13,q14,q15,hE⟩=>by
   have tn:=hE.n
   have tl:=hE.le
   have tm:=hE.m
   have tf:=hE.far
   by_cases hlt:i<l.length
   ·have e0:decide ((i:Int)<(l.length:Int))=true:=decide_eq_true (by omega)
    have tb:=(hE.same b hbn).trans hb
    have ix:∀ s,ixsA 2 s (.slice b 0 l.length l.length true) (.int .i64 (i:Int))=.val (.ptr b (i * 2)) s:=fun s=>by rw [ixs_slice _ _ _ _ _ _ _ _ hlt,Nat.zero_add]
    have ct:=step_cut hlt
    have f1:=ok.f1 i hlt
    have s0:=ok.s0 i hlt
    have s1:=ok.s1 i hlt
    have sl:=fun s=>slice_to 2 s b 0 l.length l.length i true (Nat.le_refl _) (by omega) (by omega)
    have cf:∀ s:St,s.h.get b=some (.cells (l.map Step.cells).flatten sz)→s.n+100≤far→call Try.prog X n (.fn 59) [.int .i64 (stepAt l i).fr,.slice b 0 i l.length true] s=.val (.int .i64 0) s:=fun s h1 h2=>checkFrom_ok (by omega) ok hlt h1 h2
    have ad:∀ s,aAdd s .i64 (i:Int) 1=.val (.int .i64 ((i:Int)+1)) s:=fun s=>aAdd_i64 s _ _ (by omega)
    obtain ⟨x,hx⟩:∃ x:St,x=(t.new (.cells [.int .i64 0,.int .i64 0] (tag 75))).put t.n (.cells [.int .i64 (stepAt l i).fr,.int .i64 (stepAt l i).sh] (tag 75)):=⟨_,rfl⟩
    have xn:x.n=t.n+1:=by rw [hx];rfl
    have xg:∀ c,c<t.n→x.h.get c=t.h.get c:=fun c hc=>by rw [hx,get_put_ne' _ _ _ _ (by omega),get_new_ne _ _ _ (by omega)]
    have xt:x.h.get t.n=some (.cells [.int .i64 (stepAt l i).fr,.int .i64 (stepAt l i).sh] (tag 75)):=by rw [hx];exact get_put_eq _ _ _ _ rfl (by omega)
    have xm:u.n≤x.m∧x.m≤far:=by rw [hx];simp only [St.put,minN_eq,new_m];omega
    have hX:Beside u x (2 * i+1):=by rw [hx];exact (hE.new _).put _ tn
    have xb:=(xg b (by omega)).trans tb
    refine .inl ⟨hlt,_,_,by
     simp (disch:=first|omega|(with_unfolding_all exact rfl)|(simp only[new_n,put_n,new_m];omega)|(refine put_m_le ?_;simp only[new_m];omega)) only [K37l0,K37r5,K37r6,Abs.W,reduceIte,Nat.reduceEqDiff,Nat.reduceAdd,decide_true,decide_false,kLoop_def,Nat.reduceSub,List.cons_append,List.nil_append,List.append_nil,List.length_cons,List.length_nil,Env.find_set,q0,q13,q14,q15,e0,ix,ct,tb,Nat.zero_add]
     rw [← hx]
     simp (disch:=first|omega|(with_unfolding_all exact rfl)|(simp only[new_n,put_n,new_m];omega)|(refine put_m_le ?_;simp only[new_m];omega)) only [res37,K37r0,K37r1,K37r2,K37r3,K37r4,K37r5,K37r6,K37r7,K37r8,K37r9,K37r10,K37r11,K37,Abs.W,reduceIte,Nat.reduceEqDiff,Nat.reduceAdd,decide_true,decide_false,kLoop_def,Nat.reduceSub,List.cons_append,List.nil_append,List.append_nil,List.length_cons,List.length_nil,Env.find_set,q0,q13,q14,q15,xt,xb,kSlice_def,optEv_some,optEv_none,sl,within_ok,cf,or_new3,z0,ad,endO_nil,Nat.zero_add]
     rfl,?_,?_,?_,?_,?_⟩
    ·simp only [Env.find_set,q0,reduceIte,Nat.reduceEqDiff]
    ·simp only [Env.find_set,q13,reduceIte,Nat.reduceEqDiff]
    ·simp only [Env.find_set,q14,reduceIte,Nat.reduceEqDiff]
    ·simp only [Env.find_set,reduceIte,Nat.reduceEqDiff];rfl
    ·exact (hX.new _).mono (by omega)
   ·obtain rfl:i=l.length:=by omega
    have e0:decide ((l.length:Int)<(l.length:Int))=false:=by simp
    refine .inr ⟨.exit 0,L'.set 16 (.bool false),t,by simp,?_,rfl,hE⟩
    simp (disch:=first|omega|(with_unfolding_all exact rfl)|(simp only[new_n,put_n,new_m];omega)|(refine put_m_le ?_;simp only[new_m];omega)) only [K37l0,K37r5,Abs.W,reduceIte,Nat.reduceEqDiff,Nat.reduceAdd,decide_true,decide_false,kLoop_def,Nat.reduceSub,List.cons_append,List.nil_append,List.append_nil,List.length_cons,List.length_nil,Env.find_set,q14,q15,e0])
 simp (disch:=first|omega|(with_unfolding_all exact rfl)|(simp only[new_n,put_n,new_m];omega)|(refine put_m_le ?_;simp only[new_m];omega)) only [res37,K37r0,K37r1,K37r2,K37r3,K37r4,K37r5,K37r6,K37r7,K37r8,K37r9,K37r10,K37r11,K37,Abs.W,reduceIte,Nat.reduceEqDiff,Nat.reduceAdd,decide_true,decide_false,kLoop_def,Nat.reduceSub,List.cons_append,List.nil_append,List.append_nil,List.length_cons,List.length_nil,Env.find_set]
 refine ⟨s1,rfl,?_⟩
 have:=hE.m
 omega
theorem due_ok {N b sz:Nat} {l:List Step} {x:Int} {s:St} (hN:1≤N) (ok:StepsOk l) (hx:0≤x∧x≤1000000000) (hbn:b<s.n) (hb:s.h.get b=some (.cells (l.map Step.cells).flatten sz)) (hs:s.n+1000≤far) :
  call Try.prog X N (.fn 40) [.int .i64 x,.slice b 0 l.length l.length true] s=.val (.int .i64 (dueI l x)) s:=by
 obtain ⟨n,rfl⟩:∃ n,N=n+1:=⟨N - 1,by omega⟩
 have hf:far=1000000000:=rfl
 refine call_plain' Try.func40 (fun u uh un um=>?_) rfl
 rw [← uh] at hb
 rw [← un] at hbn hs
 have n0:=ok.n0
 have n1:=ok.n1
 rw [enter40]
 simp (disch:=first|omega|(with_unfolding_all exact rfl)|(simp only[new_n,put_n,new_m];omega)|(refine put_m_le ?_;simp only[new_m];omega)) only [res40,K40r0,K40r1,K40r2,K40r3,K40r4,K40r5,K40r6,K40r7,K40r8,K40r9,K40r10,K40,Abs.W,reduceIte,Nat.reduceEqDiff,Nat.reduceAdd,decide_true,decide_false,kLoop_def,Nat.reduceSub,List.cons_append,List.nil_append,List.append_nil,List.length_cons,List.length_nil,Env.find_set]
 generalize hl1:loopN _ rounds _ _ _ _ _=q1
 obtain ⟨e,L1,s1,rfl,rfl,hq,hE⟩:=loop_of hl1
  (fun i L' t=>L'.find 0=.int .i64 x∧L'.find 1=.slice b 0 l.length l.length true∧L'.find 5=.int .i64 (shareTo l x i)∧L'.find 9=.slice b 0 l.length l.length true∧L'.find 10=.int .i64 l.length∧L'.find 11=.int .i64 i∧Beside u t (1 * i))
  (fun e L1 s1=>e=.exit 0∧L1.find 5=.int .i64 (shareTo l x l.length)∧Beside u s1 (1 * l.length))
  l.length (by unfold rounds;omega) ⟨by simp only [find_cons,Env.find_set,reduceIte,Nat.reduceEqDiff],by simp only [find_cons,Env.find_set,reduceIte,Nat.reduceEqDiff],by simp only [find_cons,Env.find_set,reduceIte,Nat.reduceEqDiff];rfl,by simp only [find_cons,Env.find_set,reduceIte,Nat.reduceEqDiff],by simp only [find_cons,Env.find_set,reduceIte,Nat.reduceEqDiff],by simp only [find_cons,Env.find_set,reduceIte,Nat.reduceEqDiff];rfl,Beside.refl u (by omega) um⟩
  (fun i L' t hi ⟨q0,q1,q5,q9,q10,q11,hE⟩=>by
   have tn:=hE.n
   have tl:=hE.le
   have tm:=hE.m
   have tf:=hE.far
   by_cases hlt:i<l.length
   ·have e0:decide ((i:Int)<(l.length:Int))=true:=decide_eq_true (by omega)
    have tb:=(hE.same b hbn).trans hb
    have ix:∀ s,ixsA 2 s (.slice b 0 l.length l.length true) (.int .i64 (i:Int))=.val (.ptr b (i * 2)) s:=fun s=>by rw [ixs_slice _ _ _ _ _ _ _ _ hlt,Nat.zero_add]
    have ct:=step_cut hlt
    have f1:=ok.f1 i hlt
    have s0:=ok.s0 i hlt
    have s1:=ok.s1 i hlt
    have ad:∀ s,aAdd s .i64 (i:Int) 1=.val (.int .i64 ((i+1:Nat):Int)) s:=fun s=>by rw [aAdd_i64 s _ _ (by omega)];rfl
    obtain ⟨y,hy⟩:∃ y:St,y=(t.new (.cells [.int .i64 0,.int .i64 0] (tag 75))).put t.n (.cells [.int .i64 (stepAt l i).fr,.int .i64 (stepAt l i).sh] (tag 75)):=⟨_,rfl⟩
    have yn:y.n=t.n+1:=by rw [hy];rfl
    have yg:∀ c,c<t.n→y.h.get c=t.h.get c:=fun c hc=>by rw [hy,get_put_ne' _ _ _ _ (by omega),get_new_ne _ _ _ (by omega)]
    have yt:y.h.get t.n=some (.cells [.int .i64 (stepAt l i).fr,.int .i64 (stepAt l i).sh] (tag 75)):=by rw [hy];exact get_put_eq _ _ _ _ rfl (by omega)
    have hY:Beside u y (1 * (i+1)):=by rw [hy];exact ((hE.new _).put _ tn).mono (by omega)
    have yb:=(yg b (by omega)).trans tb
    obtain ⟨r0,r1⟩:=share_range ok hx.1 i (by omega)
    obtain ⟨r2,r3⟩:=share_range ok hx.1 (i+1) (by omega)
    have hS:shareTo l x (i+1)=shareTo l x i+partI l x i:=rfl
    have up0:0≤upTo l x i∧upTo l x i≤x:=by
     unfold upTo
     by_cases h:i+1<l.length
     ·have:=ok.f1 (i+1) h
      rw [if_pos h];omega
     ·rw [if_neg h];omega
    have sb:∀ s,aSub s .i64 (upTo l x i) (stepAt l i).fr=.val (.int .i64 (upTo l x i - (stepAt l i).fr)) s:=fun s=>aSub_i64 s _ _ (by omega)
    have hP:partI l x i=max 0 (upTo l x i - (stepAt l i).fr) * (stepAt l i).sh:=rfl
    have mu:∀ s,aMul s .i64 (max 0 (upTo l x i - (stepAt l i).fr)) (stepAt l i).sh=.val (.int .i64 (partI l x i)) s:=fun s=>by
     rw [aMul_def,wrapA_eq]
     congr 2
     exact IntWalk.i64_in _ (by show -9223372036854775808≤partI l x i∧partI l x i≤9223372036854775807;omega)
    have ad2:∀ s,aAdd s .i64 (shareTo l x i) (partI l x i)=.val (.int .i64 (shareTo l x (i+1))) s:=fun s=>aAdd_i64 s _ _ (by omega)
    suffices hgo:∃ L1,K40l0 (call Try.prog X n) ⟨40,none,Try.f40.ntmps,X 40⟩ L' [] t=.done .norm L1 [] y∧(L1.find 0=.int .i64 x∧L1.find 1=.slice b 0 l.length l.length true∧L1.find 5=.int .i64 (shareTo l x (i+1))∧L1.find 9=.slice b 0 l.length l.length true∧L1.find 10=.int .i64 l.length∧L1.find 11=.int .i64 ((i+1:Nat):Int)) from by
     obtain ⟨L9,z1,z2,z3,z4,z5,z6,z7⟩:=hgo
     exact .inl ⟨hlt,L9,y,z1,z2,z3,z4,z5,z6,z7,hY⟩
    simp (disch:=first|omega|(with_unfolding_all exact rfl)|(simp only[new_n,put_n,new_m];omega)|(refine put_m_le ?_;simp only[new_m];omega)) only [K40l0,K40r3,K40r4,K40r5,Abs.W,reduceIte,Nat.reduceEqDiff,Nat.reduceAdd,decide_true,decide_false,kLoop_def,Nat.reduceSub,List.cons_append,List.nil_append,List.append_nil,List.length_cons,List.length_nil,Env.find_set,q0,q1,q5,q9,q10,q11,e0,ix,ct,tb,Nat.zero_add]
    rw [← hy]
    by_cases h:i+1<l.length
    ·have e1:decide (((i+1:Nat):Int)<(l.length:Int))=true:=decide_eq_true (by omega)
     have hU:min x (stepAt l (i+1)).fr=upTo l x i:=by unfold upTo;rw [if_pos h]
     have ix1:∀ s,ixsA 2 s (.slice b 0 l.length l.length true) (.int .i64 ((i+1:Nat):Int))=.val (.ptr b ((i+1) * 2)) s:=fun s=>by rw [ixs_slice _ _ _ _ _ _ _ _ h,Nat.zero_add]
     have nt:=step_nth (l:=l) (i:=i+1) h
     simp (disch:=first|omega|(with_unfolding_all exact rfl)|(simp only[new_n,put_n,new_m];omega)|(refine put_m_le ?_;simp only[new_m];omega)) only [res40,K40r0,K40r1,K40r2,K40r3,K40r4,K40r5,K40r6,K40r7,K40r8,K40r9,K40r10,K40,Abs.W,reduceIte,Nat.reduceEqDiff,Nat.reduceAdd,decide_true,decide_false,kLoop_def,Nat.reduceSub,List.cons_append,List.nil_append,List.append_nil,List.length_cons,List.length_nil,Env.find_set,q0,q1,q5,q9,q10,q11,yt,yb,e1,ad,ix1,nt,kFold_def,foldA_nil,foldA_cons,minA_i64,maxA_i64,hU,sb,mu,ad2,Nat.zero_add,Nat.add_zero]
     refine ⟨_,rfl,?_,?_,?_,?_,?_,?_⟩<;>simp only [Env.find_set,q0,q1,q9,q10,reduceIte,Nat.reduceEqDiff]
    ·have e1:decide (((i+1:Nat):Int)<(l.length:Int))=false:=decide_eq_false (by omega)
     have hU:x=upTo l x i:=by unfold upTo;rw [if_neg h]
     have sb:∀ s,aSub s .i64 x (stepAt l i).fr=.val (.int .i64 (upTo l x i - (stepAt l i).fr)) s:=fun s=>by have:=sb s;rw [← hU] at this ⊢;exact this
     simp (disch:=first|omega|(with_unfolding_all exact rfl)|(simp only[new_n,put_n,new_m];omega)|(refine put_m_le ?_;simp only[new_m];omega)) only [res40,K40r0,K40r1,K40r2,K40r3,K40r4,K40r5,K40r6,K40r7,K40r8,K40r9,K40r10,K40,Abs.W,reduceIte,Nat.reduceEqDiff,Nat.reduceAdd,decide_true,decide_false,kLoop_def,Nat.reduceSub,List.cons_append,List.nil_append,List.append_nil,List.length_cons,List.length_nil,Env.find_set,q0,q1,q5,q9,q10,q11,yt,yb,e1,ad,kFold_def,foldA_nil,foldA_cons,minA_i64,maxA_i64,sb,mu,ad2,Nat.zero_add]
     refine ⟨_,rfl,?_,?_,?_,?_,?_,?_⟩<;>simp only [Env.find_set,q0,q1,q9,q10,reduceIte,Nat.reduceEqDiff]
   ·obtain rfl:i=l.length:=by omega
    have e0:decide ((l.length:Int)<(l.length:Int))=false:=by simp
    refine .inr ⟨.exit 0,L'.set 12 (.bool false),t,by simp,?_,rfl,by simp only [Env.find_set,q5,reduceIte,Nat.reduceEqDiff],hE⟩
    simp (disch:=first|omega|(with_unfolding_all exact rfl)|(simp only[new_n,put_n,new_m];omega)|(refine put_m_le ?_;simp only[new_m];omega)) only [K40l0,K40r3,Abs.W,reduceIte,Nat.reduceEqDiff,Nat.reduceAdd,decide_true,decide_false,kLoop_def,Nat.reduceSub,List.cons_append,List.nil_append,List.append_nil,List.length_cons,List.length_nil,Env.find_set,q10,q11,e0])
 obtain ⟨r0,r1⟩:=share_range ok hx.1 l.length (Nat.le_refl _)
 have qu:∀ s,aQuo s .i64 (shareTo l x l.length) 1000=.val (.int .i64 (dueI l x)) s:=fun s=>by
  rw [aQuo_ne _ _ _ _ (by decide),wrapA_eq,Int.tdiv_eq_ediv_of_nonneg r0]
  congr 2
  exact IntWalk.i64_in _ (by show -9223372036854775808≤shareTo l x l.length / 1000∧shareTo l x l.length / 1000≤9223372036854775807;omega)
 simp (disch:=first|omega|(with_unfolding_all exact rfl)|(simp only[new_n,put_n,new_m];omega)|(refine put_m_le ?_;simp only[new_m];omega)) only [res40,K40r0,K40r1,K40r2,K40r3,K40r4,K40r5,K40r6,K40r7,K40r8,K40r9,K40r10,K40,Abs.W,reduceIte,Nat.reduceEqDiff,Nat.reduceAdd,decide_true,decide_false,kLoop_def,Nat.reduceSub,List.cons_append,List.nil_append,List.append_nil,List.length_cons,List.length_nil,Env.find_set,hq,qu]
 refine ⟨s1,rfl,?_⟩
 have:=hE.m
 omega
end Go.Proofs.Ytamlnddeiokbdaa.walk
set_option maxRecDepth 10000
namespace Go.Proofs.Ytamlnddeiokbdaa.walk
open Go.Abs Go.Proofs.Ytamlnddeiokbdaa.code
theorem dues1_ok {N p q r sb sz st:Nat} {b:Book} {l:List Step} {v:AV} {s:St} (hi:Bool) (hN:5≤N) (ok:b.Ok) (oks:StepsOk l) (hp:s.h.get p=some (.cells (bookV b v) (tag 27))) (hq:s.h.get q=some (.cells [.int .i64 (st:Int)] (tag 3))) (hr:s.h.get r=some (.cells [.slice sb 0 l.length l.length true] (tag 29))) (hb:s.h.get sb=some (.cells (l.map Step.cells).flatten sz)) (hpn:p<s.n) (hqn:q<s.n) (hrn:r<s.n) (hbn:sb<s.n) (hB:RowsAt s.h s.n 6 (b.sales.map Sale.cells) v) (hs:s.n+6000≤far) :
  call Try.prog X N (.fn 39) (.agg (endV hi)::[.ptr p 0,.ptr q 0,.ptr r 0]) s=.val (.int .i64 (dueI l (turnOf hi b.sales st))) s:=by
 obtain ⟨n,rfl⟩:∃ n,N=n+1:=⟨N - 1,by omega⟩
 have hf:far=1000000000:=rfl
 refine call_plain' Try.func39 (fun u uh un um=>?_) rfl
 rw [← uh] at hp hq hr hb hB
 rw [← un] at hB hpn hqn hrn hbn hs
 have kv:∀ t,okA (.val v t)=.val v t:=fun t=>okA_ne hB.ne
 have scE:scalars (endV hi)=true:=by cases hi<;>rfl
 obtain ⟨w,hw⟩:∃ w:St,w=u.new (.cells (endV hi) (tag 82)):=⟨_,rfl⟩
 have wn:w.n=u.n+1:=by rw [hw];rfl
 have wm:w.m=far:=by rw [hw];exact um
 have wg:∀ c,c<u.n→w.h.get c=u.h.get c:=fun c hc=>by rw [hw,get_new_ne _ _ _ (by omega)]
 have w0:w.h.get u.n=some (.cells [hereV hi,hereV (!hi)] (tag 82)):=by rw [hw];exact get_new_eq _ _ _ rfl (by omega)
 have hR:=hB.grow wg (by omega:u.n≤w.n)
 have w1:=(wg p hpn).trans hp
 have w2:=(wg q hqn).trans hq
 have w3:=(wg r hrn).trans hr
 have w4:=(wg sb hbn).trans hb
 unfold bookV at w1
 rw [enter39]
 simp (disch:=first|omega|(with_unfolding_all exact rfl)|(simp only[new_n,put_n,new_m];omega)|(refine put_m_le ?_;simp only[new_m];omega)) only [K39,K39r0,res39,Abs.W,reduceIte,Nat.reduceEqDiff,Nat.reduceAdd,decide_true,decide_false,kLoop_def,Nat.reduceSub,List.cons_append,List.nil_append,List.append_nil,List.length_cons,List.length_nil,Env.find_set,scE,Nat.zero_add]
 rw [← hw]
 clear hw
 simp (disch:=first|omega|(with_unfolding_all exact rfl)|(simp only[new_n,put_n,new_m];omega)|(refine put_m_le ?_;simp only[new_m];omega)) only [K39r1,Abs.W,reduceIte,Nat.reduceEqDiff,Nat.reduceAdd,decide_true,decide_false,kLoop_def,Nat.reduceSub,List.cons_append,List.nil_append,List.append_nil,List.length_cons,List.length_nil,Env.find_set,w0,w1,kv,Nat.zero_add]
 generalize hc:call _ _ _ (.fn 41) _ _=r1
 obtain ⟨mb,t,rfl,st1,h1,h2,h3⟩:=turnovers_ex hi hc (by omega) ok.ok (hR) (by have:=ok.l;omega) (by show w.n+5000≤far;omega)
 have tm:t.m=far:=st1.m
 have tn:w.n≤t.n:=st1.n
 have tl:t.n≤w.n+1000:=st1.le
 rw [thenT_val _ _ _ _ _ _ _ _ (by omega)]
 have t2:=(st1.same q (by show q<w.n;omega)).trans w2
 have t3:=(st1.same r (by show r<w.n;omega)).trans w3
 have t4:=(st1.same sb (by show sb<w.n;omega)).trans w4
 have lk:∀ m,lookA .int (.int .i64 0) false ⟨t.h,t.n,m⟩ (.int .i64 (st:Int)) (.map mb)=.val (.int .i64 (turnOf hi b.sales st)) ⟨t.h,t.n,m⟩:=fun m=>by rw [look_map (sums hi b.sales) _ mb ⟨t.h,t.n,m⟩ h3,getP_sums]
 have tr:=turnOf_range hi (st:Int) b.sales ok.ok
 have bl:=ok.l
 have du:∀ m,call Try.prog X n (.fn 40) [.int .i64 (turnOf hi b.sales st),.slice sb 0 l.length l.length true] ⟨t.h,t.n,m⟩=.val (.int .i64 (dueI l (turnOf hi b.sales st))) ⟨t.h,t.n,m⟩:=fun m=>due_ok (by omega) oks (by omega) (by show sb<t.n;omega) t4 (by show t.n+1000≤far;omega)
 simp (disch:=first|omega|(with_unfolding_all exact rfl)|(simp only[new_n,put_n,new_m];omega)|(refine put_m_le ?_;simp only[new_m];omega)) only [Abs.W,reduceIte,Nat.reduceEqDiff,Nat.reduceAdd,decide_true,decide_false,kLoop_def,Nat.reduceSub,List.cons_append,List.nil_append,List.append_nil,List.length_cons,List.length_nil,Env.find_set,t2,t3,kLookE,lk,du,endO_nil,Nat.zero_add]
 refine ⟨_,rfl,?_⟩
 first | omega | (simp only [minN_eq];omega)
def dueRow (l:List Step) (sales:List Sale) (st:Nat):List AV:=[.int .i64 (dueI l (turnOf false sales st)),.int .i64 (dueI l (turnOf true sales st))]
def dueRows (l:List Step) (sales:List Sale) (k:Nat):List (List AV):=(List.range k).map (dueRow l sales)
theorem dueRows_snoc (l:List Step) (sales:List Sale) (k:Nat):dueRows l sales (k+1)=dueRows l sales k++[dueRow l sales k]:=by unfold dueRows;rw [List.range_succ,List.map_append];rfl
theorem dueRows_len (l:List Step) (sales:List Sale) (k:Nat):(dueRows l sales k).length=k:=by unfold dueRows;rw [List.length_map,List.length_range]
theorem dueRows_wide (l:List Step) (sales:List Sale) (k:Nat):∀ r ∈ dueRows l sales k,r.length=2:=by
 intro r hr
 obtain ⟨f,_,rfl⟩:=List.mem_map.mp hr
 rfl
theorem Dues_ex {N sb sz:Nat} {b:Book} {l:List Step} {v:AV} {s:St} {r:ARes} (hr:call Try.prog X N (.fn 12) [.agg (bookV b v),.slice sb 0 l.length l.length true] s=r) (hN:8≤N) (ok:b.Ok) (oks:StepsOk l) (hl:l.length≤5) (hb:s.h.get sb=some (.cells (l.map Step.cells).flatten sz)) (hbn:sb<s.n) (hB:RowsAt s.h s.n 6 (b.sales.map Sale.cells) v) (hs:s.n+8000≤far) :
  ∃ bd t,r=.val (.tup [.slice bd 0 b.stalls b.stalls false,.int .i64 0]) t∧New s t 100∧s.n≤bd∧bd<t.n∧t.h.get bd=some (.cells (dueRows l b.sales b.stalls).flatten 0):=by
 obtain ⟨n,rfl⟩:∃ n,N=n+1:=⟨N - 1,by omega⟩
 have hf:far=1000000000:=rfl
 obtain ⟨v',t,e,st,bd,rfl,h1,h2,h3⟩:=call_new (n:=n) (args:=[.agg (bookV b v),.slice sb 0 l.length l.length true]) (s:=s) (k:=100) (Q:=fun v' h m=>∃ bd,v'=.tup [.slice bd 0 b.stalls b.stalls false,.int .i64 0]∧s.n≤bd∧bd<m∧h.get bd=some (.cells (dueRows l b.sales b.stalls).flatten 0)) Try.func12 rfl (fun u uh un um=>by
  rw [← uh,← un] at hB
  rw [← uh] at hb
  rw [← un] at hs hbn
  rw [← un]
  have kv:∀ t,okA (.val v t)=.val v t:=fun t=>okA_ne hB.ne
  have scB:scalars (bookV b v)=true:=by
   have hv:v.scalar=true:=by
    have h:=hB.len u
    cases v<;>first | rfl | cases h
   show scalars [v]=true
   unfold scalars
   rw [hv]
   rfl
  have k0:=ok.k0
  have k1:=ok.k1
  have n0:=oks.n0
  obtain ⟨w,hw⟩:∃ w:St,w=(u.new (.cells (bookV b v) (tag 27))).new (.cells [.slice sb 0 l.length l.length true] (tag 29)):=⟨_,rfl⟩
  have wn:w.n=u.n+2:=by rw [hw];rfl
  have wm:w.m=far:=by rw [hw];exact um
  have wg:∀ c,c<u.n→w.h.get c=u.h.get c:=fun c hc=>by rw [hw,get_new_ne _ _ _ (by simp only [new_n];omega),get_new_ne _ _ _ (by omega)]
  have w0:w.h.get u.n=some (.cells (bookV b v) (tag 27)):=by rw [hw,get_new_ne _ _ _ (by simp only [new_n];omega)];exact get_new_eq _ _ _ rfl (by omega)
  have w1:w.h.get (u.n+1)=some (.cells [.slice sb 0 l.length l.length true] (tag 29)):=by rw [hw];exact get_new_eq _ _ _ rfl (by simp only [new_n];omega)
  have hW:Beside u w 2:=by rw [hw];exact ((Beside.refl u (by omega) um).new _).new _
  have hR:=hB.grow wg (by omega:u.n≤w.n)
  have wb:=(wg sb hbn).trans hb
  have hck:=fun m=>check_ok n (by omega) b ok v ⟨w.h,w.n,m⟩ hR (by show w.n+4000≤far;omega)
  have hcs:=fun m=>checkSteps_ok (N:=n) (s:=⟨w.h,w.n,m⟩) (by omega) oks hl (by show sb<w.n;omega) wb (by show w.n+1000≤far;omega)
  have hcs':call Try.prog X n (.fn 37) [.slice sb 0 l.length l.length true] w=.val (.int .i64 0) w:=hcs w.m
  have z0:decide ((0:Int)=0)=true:=rfl
  have w0':=w0
  unfold bookV at w0 hw scB hck
  rw [enter12]
  unfold bookV
  simp (disch:=first|omega|(with_unfolding_all exact rfl)|(simp only[new_n,put_n,new_m];omega)|(refine put_m_le ?_;simp only[new_m];omega)) only [K12,K12r0,Abs.W,reduceIte,Nat.reduceEqDiff,Nat.reduceAdd,decide_true,decide_false,kLoop_def,Nat.reduceSub,List.cons_append,List.nil_append,List.append_nil,List.length_cons,List.length_nil,scB,Nat.zero_add]
  rw [← hw]
  clear hw
  simp (disch:=first|omega|(with_unfolding_all exact rfl)|(simp only[new_n,put_n,new_m];omega)|(refine put_m_le ?_;simp only[new_m];omega)) only [K12r1,K12r2,K12r4,Abs.W,reduceIte,Nat.reduceEqDiff,Nat.reduceAdd,decide_true,decide_false,kLoop_def,Nat.reduceSub,List.cons_append,List.nil_append,List.append_nil,List.length_cons,List.length_nil,Env.find_set,new_n,w0,w1,kv,scB,hck,hck w.m,hcs,hcs',or_new2,z0,endO_nil,Nat.zero_add,kMake_def]
  have mk:=fun s=>make_rows [.int .i64 0,.int .i64 0] 16 b.stalls s (by omega) (by omega)
  simp (disch:=first|omega|(with_unfolding_all exact rfl)|(simp only[new_n,put_n,new_m];omega)|(refine put_m_le ?_;simp only[new_m];omega)) only [Abs.W,reduceIte,Nat.reduceEqDiff,Nat.reduceAdd,decide_true,decide_false,kLoop_def,Nat.reduceSub,List.cons_append,List.nil_append,List.append_nil,List.length_cons,List.length_nil,Env.find_set,mk,new_n]
  obtain ⟨x,hx⟩:∃ x:St,x=(w.new (.cells [AV.int .i64 0,.int .i64 0] 0)).new (.cells (List.replicate b.stalls [AV.int .i64 0,.int .i64 0]).flatten 0):=⟨_,rfl⟩
  rw [← hx]
  have xn:x.n=w.n+2:=by rw [hx];rfl
  have xm:x.m=far:=by rw [hx];exact wm
  have xg:∀ c,c<w.n→x.h.get c=w.h.get c:=fun c hc=>by rw [hx,get_new_ne _ _ _ (by simp only [new_n];omega),get_new_ne _ _ _ (by omega)]
  have xd:x.h.get (w.n+1)=some (.cells (fillRows b.stalls [AV.int .i64 0,.int .i64 0] (dueRows l b.sales 0)).flatten 0):=by rw [hx];exact get_new_eq _ _ _ rfl (by simp only [new_n];omega)
  have hX:Beside u x (4+1 * 0):=by rw [hx];exact ((hW.new _).new _).mono (by omega)
  clear hx
  simp (disch:=first|omega|(with_unfolding_all exact rfl)|(simp only[new_n,put_n,new_m];omega)|(refine put_m_le ?_;simp only[new_m];omega)) only [K12r5,Abs.W,reduceIte,Nat.reduceEqDiff,Nat.reduceAdd,decide_true,decide_false,kLoop_def,Nat.reduceSub,List.cons_append,List.nil_append,List.append_nil,List.length_cons,List.length_nil,Env.find_set]
  generalize hl1:loopN _ rounds _ _ _ _ _=q1
  obtain ⟨e,L1,s1,rfl,rfl,g7,hE,g1,g2⟩:=loop_of hl1
   (fun i L' t=>L'.find 2=.ptr u.n 0∧L'.find 3=.ptr (u.n+1) 0∧L'.find 7=.slice (w.n+1) 0 b.stalls b.stalls false∧L'.find 22=.int .i64 (b.stalls:Int)∧L'.find 23=.int .i64 i∧Beside u t (4+1 * i)∧w.n+1<t.n ∧
    t.h.get u.n=some (.cells [.int .i64 b.stalls,.int .i64 b.goods,v] (tag 27))∧t.h.get (u.n+1)=some (.cells [.slice sb 0 l.length l.length true] (tag 29))∧t.h.get (w.n+1)=some (.cells (fillRows b.stalls [AV.int .i64 0,.int .i64 0] (dueRows l b.sales i)).flatten 0))
   (fun e L1 s1=>e=.exit 0∧L1.find 7=.slice (w.n+1) 0 b.stalls b.stalls false∧Beside u s1 (4+1 * b.stalls)∧w.n+1<s1.n∧s1.h.get (w.n+1)=some (.cells (dueRows l b.sales b.stalls).flatten 0))
   b.stalls (by unfold rounds;omega) ⟨by simp only [find_cons,Env.find_set,reduceIte,Nat.reduceEqDiff],by simp only [find_cons,Env.find_set,reduceIte,Nat.reduceEqDiff],by simp only [find_cons,Env.find_set,reduceIte,Nat.reduceEqDiff],by simp only [find_cons,Env.find_set,reduceIte,Nat.reduceEqDiff],by simp only [find_cons,Env.find_set,reduceIte,Nat.reduceEqDiff];rfl,hX,by omega,(xg u.n (by omega)).trans w0,(xg (u.n+1) (by omega)).trans w1,xd⟩
   (fun i L' t hi ⟨q2,q3,q7,q22,q23,hE,hn,t0,t1,td⟩=>by
    have tn:=hE.n
    have tl:=hE.le
    have tm:=hE.m
    have tf:=hE.far
    by_cases hlt:i<b.stalls
    ·have e0:decide ((i:Int)<(b.stalls:Int))=true:=decide_eq_true (by omega)
     have ix:∀ s,ixsA 2 s (.slice (w.n+1) 0 b.stalls b.stalls false) (.int .i64 (i:Int))=.val (.ptr (w.n+1) (i * 2)) s:=fun s=>by rw [ixs_slice _ _ _ _ _ _ _ _ hlt,Nat.zero_add]
     have ad:∀ s,aAdd s .i64 (i:Int) 1=.val (.int .i64 ((i:Int)+1)) s:=fun s=>aAdd_i64 s _ _ (by omega)
     obtain ⟨y,hy⟩:∃ y:St,y=(t.new (.cells [.int .i64 0] (tag 3))).put t.n (.cells [.int .i64 (i:Int)] (tag 3)):=⟨_,rfl⟩
     have yn:y.n=t.n+1:=by rw [hy];rfl
     have yg:∀ c,c<t.n→y.h.get c=t.h.get c:=fun c hc=>by rw [hy,get_put_ne' _ _ _ _ (by omega),get_new_ne _ _ _ (by omega)]
     have yt:y.h.get t.n=some (.cells [.int .i64 (i:Int)] (tag 3)):=by rw [hy];exact get_put_eq _ _ _ _ rfl (by omega)
     have ym:u.n≤y.m∧y.m≤far:=by rw [hy];simp only [St.put,minN_eq,new_m];omega
     have hY:Beside u y (4+1 * (i+1)):=by rw [hy];exact ((hE.new _).put _ tn).mono (by omega)
     have yb:=(hY.same sb hbn).trans hb
     have hRy:=hB.grow hY.same hY.n
     have bt:∀ m,call Try.prog X n (.fn 38) [.func 39 [] [.ptr u.n 0,.ptr t.n 0,.ptr (u.n+1) 0]] ⟨y.h,y.n,m⟩=.val (.agg [.int .i64 (dueI l (turnOf false b.sales i)),.int .i64 (dueI l (turnOf true b.sales i))]) ⟨y.h,y.n,m⟩:=fun m =>
      between_ok _ _ (by omega) (fun e t' ht h3 h4=>by
       have h3':y.n≤t'.n:=h3
       have h4':t'.n≤y.n+10:=h4
       have hxt:∀ c,c<y.n→t'.h.get c=y.h.get c:=fun c hc=>ht c hc
       have:=dues1_ok (N:=n - 1) (p:=u.n) (q:=t.n) (r:=u.n+1) (sb:=sb) (sz:=sz) (st:=i) (s:=t') e (by omega) ok oks ((hxt u.n (by omega)).trans ((yg u.n (by omega)).trans t0)) ((hxt t.n (by omega)).trans yt) ((hxt (u.n+1) (by omega)).trans ((yg (u.n+1) (by omega)).trans t1)) ((hxt sb (by omega)).trans yb) (by omega) (by omega) (by omega) (by omega) ((hB.grow (h':=t'.h) (n':=t'.n) (fun c hc=>(hxt c (by omega)).trans (hY.same c hc)) (by omega))) (by omega)
       cases e<;>exact this) (by show y.n+100≤far;omega)
     have yd:=(yg (w.n+1) hn).trans td
     have ov:=fillRows_over (n:=b.stalls) (w:=2) (z:=[AV.int .i64 0,.int .i64 0]) (row:=dueRow l b.sales i) (l:=dueRows l b.sales i) rfl (dueRows_wide l b.sales i) rfl (by rw [dueRows_len];exact hlt)
     rw [dueRows_len,← dueRows_snoc] at ov
     unfold dueRow at ov
     suffices hgo:∃ L1 t9,K12l0 (call Try.prog X n) ⟨12,none,Try.f12.ntmps,X 12⟩ L' [] t=.done .norm L1 [] t9∧(L1.find 2=.ptr u.n 0∧L1.find 3=.ptr (u.n+1) 0∧L1.find 7=.slice (w.n+1) 0 b.stalls b.stalls false∧L1.find 22=.int .i64 (b.stalls:Int)∧L1.find 23=.int .i64 ((i+1:Nat):Int)∧Beside u t9 (4+1 * (i+1))∧w.n+1<t9.n ∧
       t9.h.get u.n=some (.cells [.int .i64 b.stalls,.int .i64 b.goods,v] (tag 27))∧t9.h.get (u.n+1)=some (.cells [.slice sb 0 l.length l.length true] (tag 29))∧t9.h.get (w.n+1)=some (.cells (fillRows b.stalls [AV.int .i64 0,.int .i64 0] (dueRows l b.sales (i+1))).flatten 0)) from by
      obtain ⟨L9,t9,z1,z2⟩:=hgo
      exact .inl ⟨hlt,L9,t9,z1,z2⟩
     simp (disch:=first|omega|(with_unfolding_all exact rfl)|(simp only[new_n,put_n,new_m];omega)|(refine put_m_le ?_;simp only[new_m];omega)) only [K12l0,K12r6,K12r7,Abs.W,reduceIte,Nat.reduceEqDiff,Nat.reduceAdd,decide_true,decide_false,kLoop_def,Nat.reduceSub,List.cons_append,List.nil_append,List.append_nil,List.length_cons,List.length_nil,Env.find_set,q2,q3,q7,q22,q23,e0,Nat.zero_add]
     rw [← hy]
     clear hy
     simp (disch:=first|omega|(with_unfolding_all exact rfl)|(simp only[new_n,put_n,new_m];omega)|(refine put_m_le ?_;simp only[new_m];omega)) only [K12r8,K12r9,Abs.W,reduceIte,Nat.reduceEqDiff,Nat.reduceAdd,decide_true,decide_false,kLoop_def,Nat.reduceSub,List.cons_append,List.nil_append,List.append_nil,List.length_cons,List.length_nil,Env.find_set,q2,q3,q7,q22,q23,yt,yd,kFuncE',okA_fnv,bt,bt y.m,ix,ov,ad,endO_nil,Nat.zero_add]
     refine ⟨_,_,rfl,?_,?_,?_,?_,?_,hY.put _ (by omega),?_,?_,?_,?_⟩
     ·simp only [Env.find_set,q2,reduceIte,Nat.reduceEqDiff]
     ·simp only [Env.find_set,q3,reduceIte,Nat.reduceEqDiff]
     ·simp only [Env.find_set,q7,reduceIte,Nat.reduceEqDiff]
     ·simp only [Env.find_set,q22,reduceIte,Nat.reduceEqDiff]
     ·simp only [Env.find_set,reduceIte,Nat.reduceEqDiff];rfl
     ·simp only [put_n];omega
     ·rw [get_put_ne' _ _ _ _ (by omega)];exact (yg u.n (by omega)).trans t0
     ·rw [get_put_ne' _ _ _ _ (by omega)];exact (yg (u.n+1) (by omega)).trans t1
     ·exact get_put_eq _ _ _ _ rfl (by omega)
    ·obtain rfl:i=b.stalls:=by omega
     have e0:decide ((b.stalls:Int)<(b.stalls:Int))=false:=by simp
     rw [fillRows_full (dueRows_len l b.sales b.stalls)] at td
     refine .inr ⟨.exit 0,L'.set 24 (.bool false),t,by simp,?_,rfl,by simp only [Env.find_set,q7,reduceIte,Nat.reduceEqDiff],hE,hn,td⟩
     simp (disch:=first|omega|(with_unfolding_all exact rfl)|(simp only[new_n,put_n,new_m];omega)|(refine put_m_le ?_;simp only[new_m];omega)) only [K12l0,K12r6,Abs.W,reduceIte,Nat.reduceEqDiff,Nat.reduceAdd,decide_true,decide_false,kLoop_def,Nat.reduceSub,List.cons_append,List.nil_append,List.append_nil,List.length_cons,List.length_nil,Env.find_set,q22,q23,e0])
  simp (disch:=first|omega|(with_unfolding_all exact rfl)|(simp only[new_n,put_n,new_m];omega)|(refine put_m_le ?_;simp only[new_m];omega)) only [res12,K12r0,K12r1,K12r2,K12r3,K12r4,K12r5,K12r6,K12r7,K12r8,K12r9,K12r10,K12,Abs.W,reduceIte,Nat.reduceEqDiff,Nat.reduceAdd,decide_true,decide_false,kLoop_def,Nat.reduceSub,List.cons_append,List.nil_append,List.append_nil,List.length_cons,List.length_nil,Env.find_set,g7]
  have hv:oneA [Env.find 4 (Env.set 5 (AV.int IntKind.i64 0) (Env.set 4 (AV.slice (w.n+1) 0 b.stalls b.stalls false) L1)),Env.find 5 (Env.set 5 (AV.int IntKind.i64 0) (Env.set 4 (AV.slice (w.n+1) 0 b.stalls b.stalls false) L1))]=AV.tup [.slice (w.n+1) 0 b.stalls b.stalls false,.int .i64 0]:=by
   simp only [Env.find_set,reduceIte,Nat.reduceEqDiff]
   rfl
  exact ⟨_,_,rfl,hE.mono (by omega),by first | rfl | (rw [hv];rfl),w.n+1,hv,by omega,g1,g2⟩)
 exact ⟨bd,t,hr.symm.trans e,st,h1,h2,h3⟩
end Go.Proofs.Ytamlnddeiokbdaa.walk
namespace Go.Proofs.Ytamlnddeiokbdaa.walk
open Go.Abs Go.Proofs.Ytamlnddeiokbdaa.code
section
variable {l r:List Sale}
end
end Go.Proofs.Ytamlnddeiokbdaa.walk
namespace Go.Proofs.Ytamlnddeiokbdaa.walk
open Go.Abs Go.Proofs.Ytamlnddeiokbdaa.code
abbrev Sold:=Sale × (Int × Int)
def allG (g:Int):List Sold→Int
 | []=>0
 | z::r=>(if z.1.gd=g then z.2.1 else 0)+allG g r
def uptoZ (g p:Int):List Sold→Int
 | []=>0
 | z::r=>(if z.1.gd=g∧z.2.2≤p then z.2.1 else 0)+uptoZ g p r
def takeZ (k:Int):List Sold→Int
 | []=>0
 | z::r=>(if z.1.st=k then z.2.1 * z.2.2 / 1000 else 0)+takeZ k r
theorem allG_snoc (g:Int) (x:Sold):∀ l:List Sold,allG g (l++[x])=allG g l+(if x.1.gd=g then x.2.1 else 0)
 | []=>by show _+0=0+_;omega
 | y::l=>by show _+allG g (l++[x])=_+allG g l+_;rw [allG_snoc g x l];omega
theorem uptoZ_snoc (g p:Int) (x:Sold):∀ l:List Sold,uptoZ g p (l++[x])=uptoZ g p l+(if x.1.gd=g∧x.2.2≤p then x.2.1 else 0)
 | []=>by show _+0=0+_;omega
 | y::l=>by show _+uptoZ g p (l++[x])=_+uptoZ g p l+_;rw [uptoZ_snoc g p x l];omega
theorem takeZ_snoc (k:Int) (x:Sold):∀ l:List Sold,takeZ k (l++[x])=takeZ k l+(if x.1.st=k then x.2.1 * x.2.2 / 1000 else 0)
 | []=>by show _+0=0+_;omega
 | y::l=>by show _+takeZ k (l++[x])=_+takeZ k l+_;rw [takeZ_snoc k x l];omega
def fairStep (g all:Int) (Z:List Sold) (st:Int × Bool) (z:Sold):Int × Bool :=
 if z.1.gd≠g∨(st.2=true∧st.1≤z.2.2) then st else if all≤2 * uptoZ g z.2.2 Z then (z.2.2,true) else st
def fairTo (g:Int) (Z:List Sold) (l:List Sold):Int × Bool:=l.foldl (fairStep g (allG g Z) Z) (0,false)
def fairI (g:Int) (Z:List Sold):Int × Bool:=if allG g Z=0 then (0,false) else fairTo g Z Z
theorem fairTo_snoc (g:Int) (Z l:List Sold) (z:Sold):fairTo g Z (l++[z])=fairStep g (allG g Z) Z (fairTo g Z l) z:=by unfold fairTo;rw [List.foldl_append];rfl
structure Sold.Ok (z:Sold):Prop where
 g0:0≤z.1.gl
 g1:z.1.gl≤z.2.1
 g2:z.2.1≤z.1.gh
 g3:z.1.gh≤5000
 c0:0≤z.1.cl
 c1:z.1.cl≤z.2.2
 c2:z.2.2≤z.1.ch
 c3:z.1.ch≤2000
def AllOk (Z:List Sold):Prop:=∀ z ∈ Z,Sold.Ok z
theorem AllOk.tail {z:Sold} {Z:List Sold} (h:AllOk (z::Z)):AllOk Z:=fun x hx=>h x (List.mem_cons_of_mem _ hx)
theorem AllOk.left {l r:List Sold} (h:AllOk (l++r)):AllOk l:=fun x hx=>h x (List.mem_append_left _ hx)
theorem all_range (g:Int):∀ Z:List Sold,AllOk Z→0≤allG g Z∧allG g Z≤5000 * Z.length
 | [],_=>by unfold allG;simp
 | z::r,h=>by
  obtain ⟨a,b⟩:=all_range g r h.tail
  have:=h z (List.mem_cons_self ..)
  obtain ⟨g0,g1,g2,g3,_,_,_,_⟩:=this
  unfold allG
  rw [List.length_cons]
  split<;>omega
theorem upto_range (g p:Int):∀ Z:List Sold,AllOk Z→0≤uptoZ g p Z∧uptoZ g p Z≤allG g Z
 | [],_=>by unfold uptoZ allG;simp
 | z::r,h=>by
  obtain ⟨a,b⟩:=upto_range g p r h.tail
  obtain ⟨g0,g1,g2,g3,_,_,_,_⟩:=h z (List.mem_cons_self ..)
  unfold uptoZ allG
  by_cases h1:z.1.gd=g
  ·by_cases h2:z.2.2≤p
   ·rw [if_pos ⟨h1,h2⟩,if_pos h1];omega
   ·rw [if_neg (fun h=>h2 h.2),if_pos h1];omega
  ·rw [if_neg (fun h=>h1 h.1),if_neg h1];omega
theorem upto_mono (g:Int) {p q:Int} (hpq:p≤q):∀ Z:List Sold,AllOk Z→uptoZ g p Z≤uptoZ g q Z
 | [],_=>Int.le_refl _
 | z::r,h=>by
  have a:=upto_mono g hpq r h.tail
  obtain ⟨g0,g1,g2,g3,_,_,_,_⟩:=h z (List.mem_cons_self ..)
  unfold uptoZ
  by_cases h1:z.1.gd=g
  ·by_cases h2:z.2.2≤p
   ·rw [if_pos ⟨h1,h2⟩,if_pos ⟨h1,by omega⟩];omega
   ·rw [if_neg (fun h=>h2 h.2)]
    split<;>omega
  ·rw [if_neg (fun h=>h1 h.1),if_neg (fun h=>h1 h.1)];omega
theorem upto_same (g:Int) {p q:Int}:∀ Z:List Sold,(∀ z ∈ Z,z.1.gd=g→(z.2.2≤p↔z.2.2≤q))→uptoZ g p Z=uptoZ g q Z
 | [],_=>rfl
 | z::r,h=>by
  have a:=upto_same g r (fun x hx=>h x (List.mem_cons_of_mem _ hx))
  have c:=h z (List.mem_cons_self ..)
  unfold uptoZ
  rw [a]
  congr 1
  by_cases h1:z.1.gd=g
  ·by_cases h2:z.2.2≤p
   ·rw [if_pos ⟨h1,h2⟩,if_pos ⟨h1,(c h1).mp h2⟩]
   ·rw [if_neg (fun h=>h2 h.2),if_neg (fun h=>h2 ((c h1).mpr h.2))]
  ·rw [if_neg (fun h=>h1 h.1),if_neg (fun h=>h1 h.1)]
theorem upto_some (g p:Int):∀ Z:List Sold,AllOk Z→0<uptoZ g p Z→∃ z ∈ Z,z.1.gd=g∧z.2.2≤p∧0<z.2.1
 | [],_,h=>absurd h (by unfold uptoZ;omega)
 | z::r,ok,h=>by
  unfold uptoZ at h
  by_cases h1:z.1.gd=g∧z.2.2≤p∧0<z.2.1
  ·exact ⟨z,List.mem_cons_self ..,h1⟩
  ·obtain ⟨g0,g1,g2,g3,_,_,_,_⟩:=ok z (List.mem_cons_self ..)
   have:(if z.1.gd=g∧z.2.2≤p then z.2.1 else 0)≤0:=by
    split
    ·rename_i h2
     have:¬ 0<z.2.1:=fun h3=>h1 ⟨h2.1,h2.2,h3⟩
     omega
    ·omega
   obtain ⟨x,hx,hh⟩:=upto_some g p r ok.tail (by omega)
   exact ⟨x,List.mem_cons_of_mem _ hx,hh⟩
theorem fair_fold (g all:Int) (Z:List Sold):∀ (r:List Sold) (st:Int × Bool),
  (st.2=true→(r.foldl (fairStep g all Z) st).2=true∧(r.foldl (fairStep g all Z) st).1≤st.1) ∧
  (∀ z ∈ r,z.1.gd=g→all≤2 * uptoZ g z.2.2 Z→(r.foldl (fairStep g all Z) st).2=true∧(r.foldl (fairStep g all Z) st).1≤z.2.2) ∧
  (r.foldl (fairStep g all Z) st=st∨∃ z ∈ r,z.1.gd=g∧all≤2 * uptoZ g z.2.2 Z∧r.foldl (fairStep g all Z) st=(z.2.2,true))
 | [],st=>⟨fun h=>⟨h,Int.le_refl _⟩,fun z hz=>absurd hz (by simp),Or.inl rfl⟩
 | a::r,st=>by
  obtain ⟨h1,h2,h3⟩:=fair_fold g all Z r (fairStep g all Z st a)
  rw [List.foldl_cons]
  have k1:st.2=true→(fairStep g all Z st a).2=true∧(fairStep g all Z st a).1≤st.1:=fun h=>by
   unfold fairStep
   by_cases c:a.1.gd≠g∨(st.2=true∧st.1≤a.2.2)
   ·rw [if_pos c];exact ⟨h,Int.le_refl _⟩
   ·rw [if_neg c]
    have:¬ st.1≤a.2.2:=fun hh=>c (.inr ⟨h,hh⟩)
    split
    ·exact ⟨rfl,by show a.2.2≤st.1;omega⟩
    ·exact ⟨h,Int.le_refl _⟩
  have k2:a.1.gd=g→all≤2 * uptoZ g a.2.2 Z→(fairStep g all Z st a).2=true∧(fairStep g all Z st a).1≤a.2.2:=fun h hh=>by
   unfold fairStep
   by_cases c:a.1.gd≠g∨(st.2=true∧st.1≤a.2.2)
   ·rw [if_pos c]
    rcases c with c | c
    ·exact absurd h c
    ·exact c
   ·rw [if_neg c,if_pos hh];exact ⟨rfl,Int.le_refl _⟩
  refine ⟨fun h=>?_,fun z hz hg hh=>?_,?_⟩
  ·obtain ⟨a1,a2⟩:=k1 h
   obtain ⟨b1,b2⟩:=h1 a1
   exact ⟨b1,Int.le_trans b2 a2⟩
  ·rcases List.mem_cons.mp hz with rfl | hz
   ·obtain ⟨a1,a2⟩:=k2 hg hh
    obtain ⟨b1,b2⟩:=h1 a1
    exact ⟨b1,Int.le_trans b2 a2⟩
   ·exact h2 z hz hg hh
  ·rcases h3 with h3 | ⟨z,hz,q1,q2,q3⟩
   ·rw [h3]
    unfold fairStep
    by_cases c:a.1.gd≠g∨(st.2=true∧st.1≤a.2.2)
    ·rw [if_pos c];exact .inl rfl
    ·rw [if_neg c]
     by_cases hh:all≤2 * uptoZ g a.2.2 Z
     ·rw [if_pos hh]
      have:a.1.gd=g:=Decidable.byContradiction fun h=>c (.inl h)
      exact .inr ⟨a,List.mem_cons_self ..,this,hh,rfl⟩
     ·rw [if_neg hh];exact .inl rfl
   ·exact .inr ⟨z,List.mem_cons_of_mem _ hz,q1,q2,q3⟩
theorem greatest_z (f:Sold→Int):∀ (l:List Sold),l≠[]→∃ s ∈ l,∀ t ∈ l,f t≤f s
 | [],h=>absurd rfl h
 | [a],_=>⟨a,List.mem_cons_self ..,fun t ht=>by rw [List.mem_singleton.mp ht];exact Int.le_refl _⟩
 | a::b::r,_=>by
  obtain ⟨s,hs,h⟩:=greatest_z f (b::r) (by simp)
  by_cases g:f s≤f a
  ·exact ⟨a,List.mem_cons_self ..,fun t ht=>by
    rcases List.mem_cons.mp ht with rfl | ht
    ·exact Int.le_refl _
    ·exact Int.le_trans (h t ht) g⟩
  ·exact ⟨s,List.mem_cons_of_mem _ hs,fun t ht=>by
    rcases List.mem_cons.mp ht with rfl | ht
    ·omega
    ·exact h t ht⟩
theorem fair_upTo {g:Int} {Z:List Sold} (ok:AllOk Z) (ha:0<allG g Z) {q:Int} (h:allG g Z≤2 * uptoZ g q Z):(fairI g Z).2=true∧(fairI g Z).1≤q:=by
 obtain ⟨z,hz,z1,z2,_⟩:=upto_some g q Z ok (by omega)
 have hm:z ∈ Z.filter (fun t=>decide (t.1.gd=g) && decide (t.2.2≤q)):=List.mem_filter.mpr ⟨hz,by rw [decide_eq_true z1,decide_eq_true z2];rfl⟩
 obtain ⟨m,mm,mg⟩:=greatest_z (fun t=>t.2.2) (Z.filter (fun t=>decide (t.1.gd=g) && decide (t.2.2≤q))) (fun h0=>by rw [h0] at hm;cases hm)
 obtain ⟨m1,m2⟩:=List.mem_filter.mp mm
 obtain ⟨m3,m4⟩:=Bool.and_eq_true_iff.mp m2
 have m3:=of_decide_eq_true m3
 have m4:=of_decide_eq_true m4
 have e:=upto_same g (p:=m.2.2) (q:=q) Z (fun t ht hg=>⟨fun h=>Int.le_trans h m4,fun h=>mg t (List.mem_filter.mpr ⟨ht,by rw [decide_eq_true hg,decide_eq_true h];rfl⟩)⟩)
 obtain ⟨a1,a2⟩:=(fair_fold g (allG g Z) Z Z (0,false)).2.1 m m1 m3 (by rw [e];exact h)
 unfold fairI
 rw [if_neg (by omega)]
 exact ⟨a1,Int.le_trans a2 m4⟩
theorem upto_all (g q:Int):∀ Z:List Sold,(∀ z ∈ Z,z.2.2≤q)→uptoZ g q Z=allG g Z
 | [],_=>rfl
 | z::r,h=>by
  unfold uptoZ allG
  rw [upto_all g q r (fun x hx=>h x (List.mem_cons_of_mem _ hx))]
  have:=h z (List.mem_cons_self ..)
  by_cases h1:z.1.gd=g
  ·rw [if_pos ⟨h1,this⟩,if_pos h1]
  ·rw [if_neg (fun h=>h1 h.1),if_neg h1]
theorem fair_is {g:Int} {Z:List Sold} (ok:AllOk Z) (ha:0<allG g Z):(fairI g Z).2=true∧allG g Z≤2 * uptoZ g (fairI g Z).1 Z:=by
 have h:=fair_upTo ok ha (q:=2000) (by rw [upto_all g 2000 Z (fun z hz=>by have:=ok z hz;obtain ⟨_,_,_,_,_,_,c2,c3⟩:=this;omega)];omega)
 refine ⟨h.1,?_⟩
 have h1:=h.1
 unfold fairI at h1 ⊢
 rw [if_neg (by omega)] at h1 ⊢
 rcases (fair_fold g (allG g Z) Z Z (0,false)).2.2 with e | ⟨z,_,_,q2,q3⟩
 ·unfold fairTo at h1
  rw [e] at h1;cases h1
 ·unfold fairTo
  rw [q3];exact q2
theorem sold_cons (s:Sale) (l:List Sale) (g:Int):soldOf (s::l) g=if s.gd=g∧0<s.gh then s::soldOf l g else soldOf l g:=by
 unfold soldOf
 rw [List.filter_cons]
 by_cases h:s.gd=g∧0<s.gh
 ·rw [if_pos h,if_pos (by rw [decide_eq_true h.1,decide_eq_true h.2];rfl)]
 ·rw [if_neg h]
  have:¬ (decide (s.gd=g) && decide (0<s.gh))=true:=fun hh=>h ⟨of_decide_eq_true (Bool.and_eq_true_iff.mp hh).1,of_decide_eq_true (Bool.and_eq_true_iff.mp hh).2⟩
  rw [if_neg this]
abbrev salesZ (Z:List Sold):List Sale:=Z.map Prod.fst
theorem low_high (g p:Int):∀ Z:List Sold,AllOk Z →
  uptoZ g p Z≤cheapI false p (soldOf (salesZ Z) g)∧dearI false p (soldOf (salesZ Z) g)≤allG g Z - uptoZ g p Z ∧
  cheapI true p (soldOf (salesZ Z) g)≤uptoZ g p Z∧allG g Z - uptoZ g p Z≤dearI true p (soldOf (salesZ Z) g) ∧
  weighI false (soldOf (salesZ Z) g)≤allG g Z∧allG g Z≤weighI true (soldOf (salesZ Z) g)
 | [],_=>by
  show (0:Int)≤0∧(0:Int)≤0 - 0∧(0:Int)≤0∧(0:Int) - 0≤0∧(0:Int)≤0∧(0:Int)≤0
  omega
 | z::r,h=>by
  obtain ⟨a,b,c,d,e,f⟩:=low_high g p r h.tail
  obtain ⟨g0,g1,g2,g3,c0,c1,c2,c3⟩:=h z (List.mem_cons_self ..)
  have e1:(if z.1.gd=g∧z.2.2≤p then z.2.1 else 0)=if z.1.gd=g then (if z.2.2≤p then z.2.1 else 0) else 0:=by
   by_cases h1:z.1.gd=g
   ·by_cases h3:z.2.2≤p
    ·rw [if_pos ⟨h1,h3⟩,if_pos h1,if_pos h3]
    ·rw [if_neg (fun h=>h3 h.2),if_pos h1,if_neg h3]
   ·rw [if_neg (fun h=>h1 h.1),if_neg h1]
  have eS:=sold_cons z.1 (salesZ r) g
  have eU:uptoZ g p (z::r)=(if z.1.gd=g∧z.2.2≤p then z.2.1 else 0)+uptoZ g p r:=rfl
  have eA:allG g (z::r)=(if z.1.gd=g then z.2.1 else 0)+allG g r:=rfl
  rw [eU,eA,e1,show salesZ (z::r)=z.1::salesZ r from rfl,eS]
  generalize soldOf (salesZ r) g=S at *
  by_cases h1:z.1.gd=g
  ·by_cases h2:0<z.1.gh
   ·rw [if_pos (⟨h1,h2⟩:z.1.gd=g∧0<z.1.gh),if_pos h1,if_pos h1]
    show (if z.2.2≤p then z.2.1 else 0)+uptoZ g p r≤(if z.1.cl≤p then z.1.gh else 0)+cheapI false p S∧(if z.1.cl≤p then 0 else z.1.gl)+dearI false p S≤z.2.1+allG g r - ((if z.2.2≤p then z.2.1 else 0)+uptoZ g p r)∧(if z.1.ch≤p then z.1.gl else 0)+cheapI true p S≤(if z.2.2≤p then z.2.1 else 0)+uptoZ g p r∧z.2.1+allG g r - ((if z.2.2≤p then z.2.1 else 0)+uptoZ g p r)≤(if z.1.ch≤p then 0 else z.1.gh)+dearI true p S∧z.1.gl+weighI false S≤z.2.1+allG g r∧z.2.1+allG g r≤z.1.gh+weighI true S
    by_cases q1:z.2.2≤p<;>by_cases q2:z.1.cl≤p<;>by_cases q3:z.1.ch≤p<;>simp only [q1,q2,q3,if_true,if_false]<;>omega
   ·rw [if_neg (fun h:z.1.gd=g∧0<z.1.gh=>h2 h.2),if_pos h1,if_pos h1]
    have:z.2.1=0:=by omega
    rw [this]
    split<;>omega
  ·rw [if_neg (fun h:z.1.gd=g∧0<z.1.gh=>h1 h.1),if_neg h1,if_neg h1];omega
theorem sold_mem {Z:List Sold} {g:Int} {z:Sold} (hz:z ∈ Z) (hg:z.1.gd=g) (hh:0<z.1.gh):z.1 ∈ soldOf (salesZ Z) g :=
 List.mem_filter.mpr ⟨List.mem_map.mpr ⟨z,hz,rfl⟩,by rw [decide_eq_true hg,decide_eq_true hh];rfl⟩
theorem sold_of {Z:List Sold} {g:Int} {s:Sale} (hs:s ∈ soldOf (salesZ Z) g):∃ z ∈ Z,z.1=s∧s.gd=g∧0<s.gh:=by
 obtain ⟨h1,h2⟩:=List.mem_filter.mp hs
 obtain ⟨z,hz,e⟩:=List.mem_map.mp h1
 obtain ⟨h3,h4⟩:=Bool.and_eq_true_iff.mp h2
 exact ⟨z,hz,e,of_decide_eq_true h3,of_decide_eq_true h4⟩
theorem fineZ {Z:List Sold} (ok:AllOk Z) (g:Int):Fine (soldOf (salesZ Z) g):=fun s hs=>by
 obtain ⟨z,hz,e,_,_⟩:=sold_of hs
 obtain ⟨g0,g1,g2,g3,c0,c1,c2,c3⟩:=ok z hz
 subst e
 omega
theorem fair_between {g:Int} {Z:List Sold} (ok:AllOk Z) (ha:0<allG g Z):priceI false (soldOf (salesZ Z) g)≤(fairI g Z).1∧(fairI g Z).1≤priceI true (soldOf (salesZ Z) g):=by
 have hF:=fineZ ok g
 obtain ⟨_,h2⟩:=fair_is ok ha
 obtain ⟨z,hz,z1,z2,z3⟩:=upto_some g (fairI g Z).1 Z ok (by omega)
 have zk:=ok z hz
 obtain ⟨g0,g1,g2,g3,c0,c1,c2,c3⟩:=zk
 have hm:=sold_mem hz z1 (by omega)
 constructor
 ·obtain ⟨a,b,_⟩:=low_high g (fairI g Z).1 Z ok
  exact price_upTo false _ (by omega) hm (by show z.1.cl≤_;omega)
 ·obtain ⟨s,hs,he,hp⟩:=price_is true (soldOf (salesZ Z) g) (fun h0=>by rw [h0] at hm;cases hm) (fun s hs=>by have:=hF s hs;omega)
  obtain ⟨_,_,c,d,_⟩:=low_high g (priceI true (soldOf (salesZ Z) g)) Z ok
  rw [← hp] at he
  have he:dearI true (priceI true (soldOf (salesZ Z) g)) (soldOf (salesZ Z) g)≤cheapI true (priceI true (soldOf (salesZ Z) g)) (soldOf (salesZ Z) g):=of_decide_eq_true he
  exact (fair_upTo ok ha (by omega)).2
end Go.Proofs.Ytamlnddeiokbdaa.walk
namespace Go.Proofs.Ytamlnddeiokbdaa.walk
open Go.Abs Go.Proofs.Ytamlnddeiokbdaa.code
def pushG:Bool→Int→Sale→Int
 | false,p,s=>if s.cl≤p then s.gh else s.gl
 | true,p,s=>if p≤s.ch then s.gh else s.gl
def pushOf (hi:Bool) (p:Int) (s:Sale):Sold:=(s,(pushG hi p s,spanAt hi s.cl s.ch))
def pushZ (hi:Bool) (p:Int) (S:List Sale):List Sold:=S.map (pushOf hi p)
theorem pushZ_sales (hi:Bool) (p:Int) (S:List Sale):salesZ (pushZ hi p S)=S:=by
 unfold salesZ pushZ
 rw [List.map_map]
 exact List.map_id S
theorem pushZ_ok {S:List Sale} (hF:Fine S) (hi:Bool) (p:Int):AllOk (pushZ hi p S):=fun z hz=>by
 obtain ⟨s,hs,rfl⟩:=List.mem_map.mp hz
 obtain ⟨a,b,c,d,e,f⟩:=hF s hs
 cases hi
 ·refine ⟨a,?_,?_,c,d,Int.le_refl _,e,f⟩
  ·show s.gl≤if s.cl≤p then s.gh else s.gl
   split<;>omega
  ·show (if s.cl≤p then s.gh else s.gl)≤s.gh
   split<;>omega
 ·refine ⟨a,?_,?_,c,d,e,Int.le_refl _,f⟩
  ·show s.gl≤if p≤s.ch then s.gh else s.gl
   split<;>omega
  ·show (if p≤s.ch then s.gh else s.gl)≤s.gh
   split<;>omega
theorem Fine.tail {s:Sale} {S:List Sale} (h:Fine (s::S)):Fine S:=fun x hx=>h x (List.mem_cons_of_mem _ hx)
theorem push_low (g p:Int):∀ S:List Sale,Fine S→uptoZ g p (pushZ false p S)=cheapI false p (soldOf S g)∧allG g (pushZ false p S)=cheapI false p (soldOf S g)+dearI false p (soldOf S g)
 | [],_=>by
  show (0:Int)=0∧(0:Int)=0+0
  omega
 | s::r,h=>by
  obtain ⟨a,b⟩:=push_low g p r h.tail
  obtain ⟨g0,g1,g2,c0,c1,c2⟩:=h s (List.mem_cons_self ..)
  have eU:uptoZ g p (pushZ false p (s::r))=(if s.gd=g∧s.cl≤p then (if s.cl≤p then s.gh else s.gl) else 0)+uptoZ g p (pushZ false p r):=rfl
  have eA:allG g (pushZ false p (s::r))=(if s.gd=g then (if s.cl≤p then s.gh else s.gl) else 0)+allG g (pushZ false p r):=rfl
  rw [eU,eA,sold_cons,a,b]
  generalize soldOf r g=T
  by_cases h1:s.gd=g
  ·by_cases h2:0<s.gh
   ·rw [if_pos (⟨h1,h2⟩:s.gd=g∧0<s.gh),if_pos h1]
    show _=(if s.cl≤p then s.gh else 0)+cheapI false p T∧_=(if s.cl≤p then s.gh else 0)+cheapI false p T+((if s.cl≤p then 0 else s.gl)+dearI false p T)
    by_cases q1:s.cl≤p
    ·rw [if_pos ⟨h1,q1⟩];simp only [if_pos q1];first | omega | exact ⟨trivial,by omega⟩
    ·rw [if_neg (fun h:s.gd=g∧s.cl≤p=>q1 h.2)];simp only [if_neg q1];first | omega | exact ⟨trivial,by omega⟩
   ·rw [if_neg (fun h:s.gd=g∧0<s.gh=>h2 h.2),if_pos h1]
    by_cases q1:s.cl≤p
    ·rw [if_pos ⟨h1,q1⟩];simp only [if_pos q1];first | omega | exact ⟨trivial,by omega⟩
    ·rw [if_neg (fun h:s.gd=g∧s.cl≤p=>q1 h.2)];simp only [if_neg q1];first | omega | exact ⟨trivial,by omega⟩
  ·rw [if_neg (fun h:s.gd=g∧0<s.gh=>h1 h.1),if_neg (fun h:s.gd=g∧s.cl≤p=>h1 h.1),if_neg h1];omega
theorem push_high (g p:Int):∀ S:List Sale,Fine S→uptoZ g (p - 1) (pushZ true p S)=cheapI true (p - 1) (soldOf S g)∧allG g (pushZ true p S)=cheapI true (p - 1) (soldOf S g)+dearI true (p - 1) (soldOf S g)
 | [],_=>by
  show (0:Int)=0∧(0:Int)=0+0
  omega
 | s::r,h=>by
  obtain ⟨a,b⟩:=push_high g p r h.tail
  obtain ⟨g0,g1,g2,c0,c1,c2⟩:=h s (List.mem_cons_self ..)
  have eU:uptoZ g (p - 1) (pushZ true p (s::r))=(if s.gd=g∧s.ch≤p - 1 then (if p≤s.ch then s.gh else s.gl) else 0)+uptoZ g (p - 1) (pushZ true p r):=rfl
  have eA:allG g (pushZ true p (s::r))=(if s.gd=g then (if p≤s.ch then s.gh else s.gl) else 0)+allG g (pushZ true p r):=rfl
  rw [eU,eA,sold_cons,a,b]
  generalize soldOf r g=T
  by_cases h1:s.gd=g
  ·by_cases h2:0<s.gh
   ·rw [if_pos (⟨h1,h2⟩:s.gd=g∧0<s.gh),if_pos h1]
    show _=(if s.ch≤p - 1 then s.gl else 0)+cheapI true (p - 1) T∧_=(if s.ch≤p - 1 then s.gl else 0)+cheapI true (p - 1) T+((if s.ch≤p - 1 then 0 else s.gh)+dearI true (p - 1) T)
    by_cases q1:s.ch≤p - 1
    ·have q2:¬ p≤s.ch:=by omega
     rw [if_pos ⟨h1,q1⟩];simp only [if_pos q1,if_neg q2];first | omega | exact ⟨trivial,by omega⟩
    ·have q2:p≤s.ch:=by omega
     rw [if_neg (fun h:s.gd=g∧s.ch≤p - 1=>q1 h.2)];simp only [if_neg q1,if_pos q2];first | omega | exact ⟨trivial,by omega⟩
   ·rw [if_neg (fun h:s.gd=g∧0<s.gh=>h2 h.2),if_pos h1]
    by_cases q1:s.ch≤p - 1
    ·have q2:¬ p≤s.ch:=by omega
     rw [if_pos ⟨h1,q1⟩];simp only [if_neg q2];first | omega | exact ⟨trivial,by omega⟩
    ·have q2:p≤s.ch:=by omega
     rw [if_neg (fun h:s.gd=g∧s.ch≤p - 1=>q1 h.2)];simp only [if_pos q2];first | omega | exact ⟨trivial,by omega⟩
  ·rw [if_neg (fun h:s.gd=g∧0<s.gh=>h1 h.1),if_neg (fun h:s.gd=g∧s.ch≤p - 1=>h1 h.1),if_neg h1];omega
theorem sold_in {S:List Sale} {g:Int} {s:Sale} (hs:s ∈ soldOf S g):s ∈ S∧s.gd=g∧0<s.gh:=by
 obtain ⟨h1,h2⟩:=List.mem_filter.mp hs
 obtain ⟨h3,h4⟩:=Bool.and_eq_true_iff.mp h2
 exact ⟨h1,of_decide_eq_true h3,of_decide_eq_true h4⟩
theorem sold_fineS {S:List Sale} (hF:Fine S) (g:Int):Fine (soldOf S g):=fun s hs=>hF s (sold_in hs).1
theorem cheap_mem (hi:Bool) (p:Int):∀ (T:List Sale),Fine T→∀ s ∈ T,spanAt hi s.cl s.ch≤p→spanAt (!hi) s.gl s.gh≤cheapI hi p T
 | [],_,s,hs,_=>by cases hs
 | a::r,hF,s,hs,hp=>by
  have ha:=hF a (List.mem_cons_self ..)
  obtain ⟨⟨c0,_⟩,_⟩:=cheap_range hi p r hF.tail
  have ax:0≤spanAt (!hi) a.gl a.gh:=by cases hi<;>simp only [spanAt,Bool.not_true,Bool.not_false]<;>omega
  rcases List.mem_cons.mp hs with rfl | hs
  ·unfold cheapI;rw [if_pos hp];omega
  ·have:=cheap_mem hi p r hF.tail s hs hp
   unfold cheapI
   split<;>omega
theorem fair_low {S:List Sale} (hF:Fine S) {g:Int} (hT:soldOf S g≠[]):fairI g (pushZ false (priceI false (soldOf S g)) S)=(priceI false (soldOf S g),true):=by
 have hFT:=sold_fineS hF g
 obtain ⟨s,hs,he,hp⟩:=price_is false _ hT (fun s hs=>by have:=hFT s hs;omega)
 have he:dearI false (spanAt false s.cl s.ch) (soldOf S g)≤cheapI false (spanAt false s.cl s.ch) (soldOf S g):=of_decide_eq_true he
 rw [← hp] at he
 obtain ⟨a,b⟩:=push_low g (priceI false (soldOf S g)) S hF
 have ok:=pushZ_ok hF false (priceI false (soldOf S g))
 have hc:=cheap_mem false (priceI false (soldOf S g)) _ hFT s hs (by rw [hp];exact Int.le_refl _)
 have hh:=(sold_in hs).2.2
 have hc:s.gh≤cheapI false (priceI false (soldOf S g)) (soldOf S g):=hc
 obtain ⟨⟨_,_⟩,d0,_⟩:=cheap_range false (priceI false (soldOf S g)) _ hFT
 have ha:0<allG g (pushZ false (priceI false (soldOf S g)) S):=by omega
 obtain ⟨f1,f2⟩:=fair_upTo ok ha (q:=priceI false (soldOf S g)) (by omega)
 have f3:=(fair_between ok ha).1
 rw [pushZ_sales] at f3
 exact Prod.ext (by omega) f1
theorem fair_high {S:List Sale} (hF:Fine S) {g:Int} (hT:soldOf S g≠[]):fairI g (pushZ true (priceI true (soldOf S g)) S)=(priceI true (soldOf S g),true):=by
 have hFT:=sold_fineS hF g
 obtain ⟨s,hs,he,hp⟩:=price_is true _ hT (fun s hs=>by have:=hFT s hs;omega)
 obtain ⟨a,b⟩:=push_high g (priceI true (soldOf S g)) S hF
 have ok:=pushZ_ok hF true (priceI true (soldOf S g))
 have hpos:0<dearI true (priceI true (soldOf S g) - 1) (soldOf S g):=by
  have hm:∀ (T:List Sale),Fine T→s ∈ T→s.gh≤dearI true (s.ch - 1) T:=by
   intro T
   induction T with
   | nil=>intro _ h;cases h
   | cons x r ih =>
    intro hF' h
    have hx:=hF' x (List.mem_cons_self ..)
    obtain ⟨_,d0,_⟩:=cheap_range true (s.ch - 1) r hF'.tail
    show s.gh≤(if x.ch≤s.ch - 1 then 0 else x.gh)+dearI true (s.ch - 1) r
    rcases List.mem_cons.mp h with rfl | h
    ·rw [if_neg (by omega)];omega
    ·have:=ih hF'.tail h
     split<;>omega
  have h1:=hm _ hFT hs
  have hh:=(sold_in hs).2.2
  have hp:priceI true (soldOf S g)=s.ch:=hp
  rw [hp];omega
 obtain ⟨⟨c0,_⟩,_⟩:=cheap_range true (priceI true (soldOf S g) - 1) _ hFT
 have ha:0<allG g (pushZ true (priceI true (soldOf S g)) S):=by omega
 obtain ⟨f1,f2⟩:=fair_is ok ha
 have f3:=(fair_between ok ha).2
 rw [pushZ_sales] at f3
 refine Prod.ext ?_ f1
 show (fairI g (pushZ true (priceI true (soldOf S g)) S)).1=priceI true (soldOf S g)
 by_cases hlt:(fairI g (pushZ true (priceI true (soldOf S g)) S)).1≤priceI true (soldOf S g) - 1
 ·exfalso
  have hm:=upto_mono g hlt _ ok
  have hen:dearI true (priceI true (soldOf S g) - 1) (soldOf S g)≤cheapI true (priceI true (soldOf S g) - 1) (soldOf S g):=by omega
  obtain ⟨z,hz,z1,z2,z3⟩:=upto_some g (priceI true (soldOf S g) - 1) _ ok (by omega)
  obtain ⟨x,hx,rfl⟩:=List.mem_map.mp hz
  have zk:=ok _ hz
  obtain ⟨_,_,g2,_,_,_,_,_⟩:=zk
  have g2:pushG true (priceI true (soldOf S g)) x≤x.gh:=g2
  have z3:0<pushG true (priceI true (soldOf S g)) x:=z3
  have z1':x.gd=g:=z1
  have z3':0<x.gh:=by omega
  have hm2:x ∈ soldOf S g:=List.mem_filter.mpr ⟨hx,by rw [decide_eq_true z1',decide_eq_true z3'];rfl⟩
  have:=price_upTo true (soldOf S g) hen hm2 z2
  omega
 ·omega
def sumG (hi:Bool) (g:Int):List Sale→Int
 | []=>0
 | s::r=>(if s.gd=g then spanAt hi s.gl s.gh else 0)+sumG hi g r
theorem sumG_snoc (hi:Bool) (g:Int) (x:Sale):∀ l:List Sale,sumG hi g (l++[x])=sumG hi g l+(if x.gd=g then spanAt hi x.gl x.gh else 0)
 | []=>by show _+0=0+_;omega
 | y::l=>by show _+sumG hi g (l++[x])=_+sumG hi g l+_;rw [sumG_snoc hi g x l];omega
theorem sumG_weigh (hi:Bool) (g:Int):∀ S:List Sale,Fine S→sumG hi g S=weighI hi (soldOf S g)
 | [],_=>rfl
 | s::r,h=>by
  have a:=sumG_weigh hi g r h.tail
  obtain ⟨g0,g1,g2,c0,c1,c2⟩:=h s (List.mem_cons_self ..)
  have e:sumG hi g (s::r)=(if s.gd=g then spanAt hi s.gl s.gh else 0)+sumG hi g r:=rfl
  rw [e,a,sold_cons]
  by_cases h1:s.gd=g
  ·by_cases h2:0<s.gh
   ·rw [if_pos (⟨h1,h2⟩:s.gd=g∧0<s.gh),if_pos h1];rfl
   ·rw [if_neg (fun h:s.gd=g∧0<s.gh=>h2 h.2),if_pos h1]
    cases hi<;>simp only [spanAt]<;>omega
  ·rw [if_neg (fun h:s.gd=g∧0<s.gh=>h1 h.1),if_neg h1];omega
theorem sumG_range (hi:Bool) (g:Int):∀ S:List Sale,Fine S→0≤sumG hi g S∧sumG hi g S≤5000 * S.length
 | [],_=>by unfold sumG;simp
 | s::r,h=>by
  obtain ⟨a,b⟩:=sumG_range hi g r h.tail
  obtain ⟨g0,g1,g2,c0,c1,c2⟩:=h s (List.mem_cons_self ..)
  unfold sumG
  rw [List.length_cons]
  cases hi<;>simp only [spanAt]<;>split<;>omega
theorem weigh_none {T:List Sale} (hF:Fine T) (h:∀ s ∈ T,0<s.gh) (h0:weighI true T=0):T=[]:=by
 cases T with
 | nil=>rfl
 | cons s r =>
  have a:=weigh_range true r hF.tail
  have b:=h s (List.mem_cons_self ..)
  have e:weighI true (s::r)=s.gh+weighI true r:=rfl
  omega
theorem take_push (hi:Bool) (k:Int):∀ S:List Sale,Fine S→takeZ k (pushZ hi (-1) S)=turnOf hi S k
 | [],_=>rfl
 | s::r,h=>by
  have a:=take_push hi k r h.tail
  obtain ⟨g0,g1,g2,c0,c1,c2⟩:=h s (List.mem_cons_self ..)
  have e:takeZ k (pushZ hi (-1) (s::r))=(if s.st=k then pushG hi (-1) s * spanAt hi s.cl s.ch / 1000 else 0)+takeZ k (pushZ hi (-1) r):=rfl
  have t:turnOf hi (s::r) k=(if s.st=k then spanAt hi s.gl s.gh * spanAt hi s.cl s.ch / 1000 else 0)+turnOf hi r k:=rfl
  have q:pushG hi (-1) s=spanAt hi s.gl s.gh:=by
   cases hi
   ·show (if s.cl ≤ -1 then s.gh else s.gl)=s.gl
    rw [if_neg (by omega)]
   ·show (if -1≤s.ch then s.gh else s.gl)=s.gh
    rw [if_pos (by omega)]
  rw [e,t,a,q]
end Go.Proofs.Ytamlnddeiokbdaa.walk
