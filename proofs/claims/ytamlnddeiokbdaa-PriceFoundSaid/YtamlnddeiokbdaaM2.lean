/- Dues: steps that may be, and what they make of a turnover. -/
import Derived.Test.YtamlnddeiokbdaaM1
import Derived.Test.YtamlnddeiokbdaaCodes
import Derived.Test.YtamlnddeiokbdaaWalkAll
set_option linter.unusedSimpArgs false
set_option maxHeartbeats 16000000
set_option linter.unusedVariables false
set_option maxRecDepth 10000
namespace Go.Proofs.Ytamlnddeiokbdaa.walk
open Go.Abs Go.Proofs.Ytamlnddeiokbdaa.code
theorem unless_ok (N:Nat) (hN:1≤N) (e:Int) (s:St) (hs:s.n≤far):call Try.prog X N (.fn 72) [.bool true,.int .i64 e] s=.val (.int .i64 0) s:=by
 obtain ⟨n,rfl⟩:∃ n,N=n+1:=⟨N - 1,by omega⟩
 refine call_plain (s':=⟨s.h,s.n,far⟩) Try.func72 ?_ rfl hs
 rw [enter72]
 simp only [res72,K72r0,K72r1,K72r2,K72r3,K72,Abs.W,reduceIte,Nat.reduceEqDiff,Nat.reduceAdd,decide_true,decide_false,kLoop_def,Nat.reduceSub,List.cons_append,List.nil_append,List.append_nil,List.length_cons,List.length_nil]
theorem step_wide (l:List Step):∀ r ∈ l.map Step.cells,r.length=2:=by
 intro r hr
 obtain ⟨f,_,rfl⟩:=List.mem_map.mp hr
 rfl
theorem step_cut {l:List Step} {i:Nat} (hi:i<l.length):cut (i * 2) 2 (l.map Step.cells).flatten=some [.int .i64 (stepAt l i).fr,.int .i64 (stepAt l i).sh]:=by
 rw [flatten_cut (step_wide l) (by simpa using hi),List.getElem_map]
 unfold stepAt
 simp only [List.getD,List.getElem?_eq_getElem hi,Option.getD_some]
 rfl
theorem step_nth {l:List Step} {i:Nat} (hi:i<l.length):nth (l.map Step.cells).flatten (i * 2)=.int .i64 (stepAt l i).fr:=by
 obtain ⟨a,t,z1,z2,z3⟩:=cut_some (step_cut hi)
 rw [z1,← z2,List.append_assoc,← Nat.add_zero a.length,nth_skip]
 rfl
theorem checkFrom_ok {N i b sz:Nat} {l:List Step} {s:St} (hN:2≤N) (ok:StepsOk l) (hi:i<l.length) (hb:s.h.get b=some (.cells (l.map Step.cells).flatten sz)) (hs:s.n+100≤far) :
  call Try.prog X N (.fn 59) [.int .i64 (stepAt l i).fr,.slice b 0 i l.length true] s=.val (.int .i64 0) s:=by
 obtain ⟨n,rfl⟩:∃ n,N=n+1:=⟨N - 1,by omega⟩
 have hf:far=1000000000:=rfl
 refine call_plain' Try.func59 (fun u uh un um=>?_) rfl
 rw [← uh] at hb
 rw [enter59]
 by_cases h0:i=0
 ·subst h0
  have f0:=ok.f0
  have e0:decide (((0:Nat):Int)=0)=true:=rfl
  have e1:decide ((0:Int)=0)=true:=rfl
  rw [f0]
  simp (disch:=first|omega|(with_unfolding_all exact rfl)|(simp only[new_n,put_n,new_m];omega)|(refine put_m_le ?_;simp only[new_m];omega)) only [res59,K59r0,K59r1,K59r2,K59r3,K59,Abs.W,reduceIte,Nat.reduceEqDiff,Nat.reduceAdd,decide_true,decide_false,kLoop_def,Nat.reduceSub,List.cons_append,List.nil_append,List.append_nil,List.length_cons,List.length_nil,Env.find_set,e0,e1,unless_ok]
  exact ⟨_,rfl,by omega⟩
 ·obtain ⟨j,rfl⟩:∃ j,i=j+1:=⟨i - 1,by omega⟩
  have e0:decide (((j+1:Nat):Int)=0)=false:=decide_eq_false (by omega)
  have sb:∀ s,aSub s .i64 ((j+1:Nat):Int) 1=.val (.int .i64 (j:Int)) s:=fun s=>by rw [aSub_i64 s _ _ (by have:=ok.n1;omega)];congr 2;omega
  have ix:∀ s,ixsA 2 s (.slice b 0 (j+1) l.length true) (.int .i64 (j:Int))=.val (.ptr b (j * 2)) s:=fun s=>by rw [ixs_slice _ _ _ _ _ _ _ _ (by omega),Nat.zero_add]
  have nt:=step_nth (l:=l) (i:=j) (by omega)
  have up:=ok.up j hi
  have e1:decide ((stepAt l (j+1)).fr > (stepAt l j).fr)=true:=decide_eq_true up
  have e2:decide ((stepAt l j).fr<(stepAt l (j+1)).fr)=true:=decide_eq_true up
  simp (disch:=first|omega|(with_unfolding_all exact rfl)|(simp only[new_n,put_n,new_m];omega)|(refine put_m_le ?_;simp only[new_m];omega)) only [res59,K59r0,K59r1,K59r2,K59r3,K59,Abs.W,reduceIte,Nat.reduceEqDiff,Nat.reduceAdd,decide_true,decide_false,kLoop_def,Nat.reduceSub,List.cons_append,List.nil_append,List.append_nil,List.length_cons,List.length_nil,Env.find_set,e0,e1,e2,sb,ix,nt,hb,unless_ok,Nat.add_zero]
  exact ⟨_,rfl,by omega⟩
theorem checkSteps_ok {N b sz:Nat} {l:List Step} {s:St} (hN:3≤N) (ok:StepsOk l) (hl:l.length≤5) (hbn:b<s.n) (hb:s.h.get b=some (.cells (l.map Step.cells).flatten sz)) (hs:s.n+1000≤far) :
  call Try.prog X N (.fn 37) [.slice b 0 l.length l.length true] s=.val (.int .i64 0) s:=by
 obtain ⟨n,rfl⟩:∃ n,N=n+1:=⟨N - 1,by omega⟩
 have hf:far=1000000000:=rfl
 refine call_plain' Try.func37 (fun u uh un um=>?_) rfl
 rw [← uh] at hb
 rw [← un] at hbn hs
 have n0:=ok.n0
 have z0:decide ((0:Int)=0)=true:=rfl
 rw [enter37]
 simp (disch:=first|omega|(with_unfolding_all exact rfl)|(simp only[new_n,put_n,new_m];omega)|(refine put_m_le ?_;simp only[new_m];omega)) only [res37,K37r0,K37r1,K37r2,K37r3,K37r4,K37r5,K37r6,K37r7,K37r8,K37r9,K37r10,K37r11,K37,Abs.W,reduceIte,Nat.reduceEqDiff,Nat.reduceAdd,decide_true,decide_false,kLoop_def,Nat.reduceSub,List.cons_append,List.nil_append,List.append_nil,List.length_cons,List.length_nil,Env.find_set,counted_ok,z0]
 generalize hl1:loopN _ rounds _ _ _ _ _=q1
 obtain ⟨e,L1,s1,rfl,rfl,hE⟩:=loop_of hl1
  (fun i L' t=>L'.find 0=.slice b 0 l.length l.length true∧L'.find 13=.slice b 0 l.length l.length true∧L'.find 14=.int .i64 l.length∧L'.find 15=.int .i64 i∧Beside u t (2 * i))
  (fun e L1 s1=>e=.exit 0∧Beside u s1 (2 * l.length))
  l.length (by unfold rounds;omega) ⟨by simp only [find_cons,Env.find_set,reduceIte,Nat.reduceEqDiff],by simp only [find_cons,Env.find_set,reduceIte,Nat.reduceEqDiff],by simp only [find_cons,Env.find_set,reduceIte,Nat.reduceEqDiff],by simp only [find_cons,Env.find_set,reduceIte,Nat.reduceEqDiff];rfl,Beside.refl u (by omega) um⟩
  (fun i L' t hi ⟨q0,q13,q14,q15,hE⟩=>by
   have tn:=hE.n
   have tl:=hE.le
   have tm:=hE.m
   have tf:=hE.far
   by_cases hlt:i<l.length
   ·have e0:decide ((i:Int)<(l.length:Int))=true:=decide_eq_true (by omega)
    have tb:=(hE.same b hbn).trans hb
    have ix:∀ s,ixsA 2 s (.slice b 0 l.length l.length true) (.int .i64 (i:Int))=.val (.ptr b (i * 2)) s:=fun s=>by rw [ixs_slice _ _ _ _ _ _ _ _ hlt,Nat.zero_add]
    have ct:=step_cut hlt
    have f1:=ok.f1 i hlt
    have s0:=ok.s0 i hlt
    have s1:=ok.s1 i hlt
    have sl:=fun s=>slice_to 2 s b 0 l.length l.length i true (Nat.le_refl _) (by omega) (by omega)
    have cf:∀ s:St,s.h.get b=some (.cells (l.map Step.cells).flatten sz)→s.n+100≤far→call Try.prog X n (.fn 59) [.int .i64 (stepAt l i).fr,.slice b 0 i l.length true] s=.val (.int .i64 0) s:=fun s h1 h2=>checkFrom_ok (by omega) ok hlt h1 h2
    have ad:∀ s,aAdd s .i64 (i:Int) 1=.val (.int .i64 ((i:Int)+1)) s:=fun s=>aAdd_i64 s _ _ (by omega)
    obtain ⟨x,hx⟩:∃ x:St,x=(t.new (.cells [.int .i64 0,.int .i64 0] (tag 75))).put t.n (.cells [.int .i64 (stepAt l i).fr,.int .i64 (stepAt l i).sh] (tag 75)):=⟨_,rfl⟩
    have xn:x.n=t.n+1:=by rw [hx];rfl
    have xg:∀ c,c<t.n→x.h.get c=t.h.get c:=fun c hc=>by rw [hx,get_put_ne' _ _ _ _ (by omega),get_new_ne _ _ _ (by omega)]
    have xt:x.h.get t.n=some (.cells [.int .i64 (stepAt l i).fr,.int .i64 (stepAt l i).sh] (tag 75)):=by rw [hx];exact get_put_eq _ _ _ _ rfl (by omega)
    have xm:u.n≤x.m∧x.m≤far:=by rw [hx];simp only [St.put,minN_eq,new_m];omega
    have hX:Beside u x (2 * i+1):=by rw [hx];exact (hE.new _).put _ tn
    have xb:=(xg b (by omega)).trans tb
    refine .inl ⟨hlt,_,_,by
     simp (disch:=first|omega|(with_unfolding_all exact rfl)|(simp only[new_n,put_n,new_m];omega)|(refine put_m_le ?_;simp only[new_m];omega)) only [K37l0,K37r5,K37r6,Abs.W,reduceIte,Nat.reduceEqDiff,Nat.reduceAdd,decide_true,decide_false,kLoop_def,Nat.reduceSub,List.cons_append,List.nil_append,List.append_nil,List.length_cons,List.length_nil,Env.find_set,q0,q13,q14,q15,e0,ix,ct,tb,Nat.zero_add]
     rw [← hx]
     simp (disch:=first|omega|(with_unfolding_all exact rfl)|(simp only[new_n,put_n,new_m];omega)|(refine put_m_le ?_;simp only[new_m];omega)) only [res37,K37r0,K37r1,K37r2,K37r3,K37r4,K37r5,K37r6,K37r7,K37r8,K37r9,K37r10,K37r11,K37,Abs.W,reduceIte,Nat.reduceEqDiff,Nat.reduceAdd,decide_true,decide_false,kLoop_def,Nat.reduceSub,List.cons_append,List.nil_append,List.append_nil,List.length_cons,List.length_nil,Env.find_set,q0,q13,q14,q15,xt,xb,kSlice_def,optEv_some,optEv_none,sl,within_ok,cf,or_new3,z0,ad,endO_nil,Nat.zero_add]
     rfl,?_,?_,?_,?_,?_⟩
    ·simp only [Env.find_set,q0,reduceIte,Nat.reduceEqDiff]
    ·simp only [Env.find_set,q13,reduceIte,Nat.reduceEqDiff]
    ·simp only [Env.find_set,q14,reduceIte,Nat.reduceEqDiff]
    ·simp only [Env.find_set,reduceIte,Nat.reduceEqDiff];rfl
    ·exact (hX.new _).mono (by omega)
   ·obtain rfl:i=l.length:=by omega
    have e0:decide ((l.length:Int)<(l.length:Int))=false:=by simp
    refine .inr ⟨.exit 0,L'.set 16 (.bool false),t,by simp,?_,rfl,hE⟩
    simp (disch:=first|omega|(with_unfolding_all exact rfl)|(simp only[new_n,put_n,new_m];omega)|(refine put_m_le ?_;simp only[new_m];omega)) only [K37l0,K37r5,Abs.W,reduceIte,Nat.reduceEqDiff,Nat.reduceAdd,decide_true,decide_false,kLoop_def,Nat.reduceSub,List.cons_append,List.nil_append,List.append_nil,List.length_cons,List.length_nil,Env.find_set,q14,q15,e0])
 simp (disch:=first|omega|(with_unfolding_all exact rfl)|(simp only[new_n,put_n,new_m];omega)|(refine put_m_le ?_;simp only[new_m];omega)) only [res37,K37r0,K37r1,K37r2,K37r3,K37r4,K37r5,K37r6,K37r7,K37r8,K37r9,K37r10,K37r11,K37,Abs.W,reduceIte,Nat.reduceEqDiff,Nat.reduceAdd,decide_true,decide_false,kLoop_def,Nat.reduceSub,List.cons_append,List.nil_append,List.append_nil,List.length_cons,List.length_nil,Env.find_set]
 refine ⟨s1,rfl,?_⟩
 have:=hE.m
 omega
theorem due_ok {N b sz:Nat} {l:List Step} {x:Int} {s:St} (hN:1≤N) (ok:StepsOk l) (hx:0≤x∧x≤1000000000) (hbn:b<s.n) (hb:s.h.get b=some (.cells (l.map Step.cells).flatten sz)) (hs:s.n+1000≤far) :
  call Try.prog X N (.fn 40) [.int .i64 x,.slice b 0 l.length l.length true] s=.val (.int .i64 (dueI l x)) s:=by
 obtain ⟨n,rfl⟩:∃ n,N=n+1:=⟨N - 1,by omega⟩
 have hf:far=1000000000:=rfl
 refine call_plain' Try.func40 (fun u uh un um=>?_) rfl
 rw [← uh] at hb
 rw [← un] at hbn hs
 have n0:=ok.n0
 have n1:=ok.n1
 rw [enter40]
 simp (disch:=first|omega|(with_unfolding_all exact rfl)|(simp only[new_n,put_n,new_m];omega)|(refine put_m_le ?_;simp only[new_m];omega)) only [res40,K40r0,K40r1,K40r2,K40r3,K40r4,K40r5,K40r6,K40r7,K40r8,K40r9,K40r10,K40,Abs.W,reduceIte,Nat.reduceEqDiff,Nat.reduceAdd,decide_true,decide_false,kLoop_def,Nat.reduceSub,List.cons_append,List.nil_append,List.append_nil,List.length_cons,List.length_nil,Env.find_set]
 generalize hl1:loopN _ rounds _ _ _ _ _=q1
 obtain ⟨e,L1,s1,rfl,rfl,hq,hE⟩:=loop_of hl1
  (fun i L' t=>L'.find 0=.int .i64 x∧L'.find 1=.slice b 0 l.length l.length true∧L'.find 5=.int .i64 (shareTo l x i)∧L'.find 9=.slice b 0 l.length l.length true∧L'.find 10=.int .i64 l.length∧L'.find 11=.int .i64 i∧Beside u t (1 * i))
  (fun e L1 s1=>e=.exit 0∧L1.find 5=.int .i64 (shareTo l x l.length)∧Beside u s1 (1 * l.length))
  l.length (by unfold rounds;omega) ⟨by simp only [find_cons,Env.find_set,reduceIte,Nat.reduceEqDiff],by simp only [find_cons,Env.find_set,reduceIte,Nat.reduceEqDiff],by simp only [find_cons,Env.find_set,reduceIte,Nat.reduceEqDiff];rfl,by simp only [find_cons,Env.find_set,reduceIte,Nat.reduceEqDiff],by simp only [find_cons,Env.find_set,reduceIte,Nat.reduceEqDiff],by simp only [find_cons,Env.find_set,reduceIte,Nat.reduceEqDiff];rfl,Beside.refl u (by omega) um⟩
  (fun i L' t hi ⟨q0,q1,q5,q9,q10,q11,hE⟩=>by
   have tn:=hE.n
   have tl:=hE.le
   have tm:=hE.m
   have tf:=hE.far
   by_cases hlt:i<l.length
   ·have e0:decide ((i:Int)<(l.length:Int))=true:=decide_eq_true (by omega)
    have tb:=(hE.same b hbn).trans hb
    have ix:∀ s,ixsA 2 s (.slice b 0 l.length l.length true) (.int .i64 (i:Int))=.val (.ptr b (i * 2)) s:=fun s=>by rw [ixs_slice _ _ _ _ _ _ _ _ hlt,Nat.zero_add]
    have ct:=step_cut hlt
    have f1:=ok.f1 i hlt
    have s0:=ok.s0 i hlt
    have s1:=ok.s1 i hlt
    have ad:∀ s,aAdd s .i64 (i:Int) 1=.val (.int .i64 ((i+1:Nat):Int)) s:=fun s=>by rw [aAdd_i64 s _ _ (by omega)];rfl
    obtain ⟨y,hy⟩:∃ y:St,y=(t.new (.cells [.int .i64 0,.int .i64 0] (tag 75))).put t.n (.cells [.int .i64 (stepAt l i).fr,.int .i64 (stepAt l i).sh] (tag 75)):=⟨_,rfl⟩
    have yn:y.n=t.n+1:=by rw [hy];rfl
    have yg:∀ c,c<t.n→y.h.get c=t.h.get c:=fun c hc=>by rw [hy,get_put_ne' _ _ _ _ (by omega),get_new_ne _ _ _ (by omega)]
    have yt:y.h.get t.n=some (.cells [.int .i64 (stepAt l i).fr,.int .i64 (stepAt l i).sh] (tag 75)):=by rw [hy];exact get_put_eq _ _ _ _ rfl (by omega)
    have hY:Beside u y (1 * (i+1)):=by rw [hy];exact ((hE.new _).put _ tn).mono (by omega)
    have yb:=(yg b (by omega)).trans tb
    obtain ⟨r0,r1⟩:=share_range ok hx.1 i (by omega)
    obtain ⟨r2,r3⟩:=share_range ok hx.1 (i+1) (by omega)
    have hS:shareTo l x (i+1)=shareTo l x i+partI l x i:=rfl
    have up0:0≤upTo l x i∧upTo l x i≤x:=by
     unfold upTo
     by_cases h:i+1<l.length
     ·have:=ok.f1 (i+1) h
      rw [if_pos h];omega
     ·rw [if_neg h];omega
    have sb:∀ s,aSub s .i64 (upTo l x i) (stepAt l i).fr=.val (.int .i64 (upTo l x i - (stepAt l i).fr)) s:=fun s=>aSub_i64 s _ _ (by omega)
    have hP:partI l x i=max 0 (upTo l x i - (stepAt l i).fr) * (stepAt l i).sh:=rfl
    have mu:∀ s,aMul s .i64 (max 0 (upTo l x i - (stepAt l i).fr)) (stepAt l i).sh=.val (.int .i64 (partI l x i)) s:=fun s=>by
     rw [aMul_def,wrapA_eq]
     congr 2
     exact IntWalk.i64_in _ (by show -9223372036854775808≤partI l x i∧partI l x i≤9223372036854775807;omega)
    have ad2:∀ s,aAdd s .i64 (shareTo l x i) (partI l x i)=.val (.int .i64 (shareTo l x (i+1))) s:=fun s=>aAdd_i64 s _ _ (by omega)
    suffices hgo:∃ L1,K40l0 (call Try.prog X n) ⟨40,none,Try.f40.ntmps,X 40⟩ L' [] t=.done .norm L1 [] y∧(L1.find 0=.int .i64 x∧L1.find 1=.slice b 0 l.length l.length true∧L1.find 5=.int .i64 (shareTo l x (i+1))∧L1.find 9=.slice b 0 l.length l.length true∧L1.find 10=.int .i64 l.length∧L1.find 11=.int .i64 ((i+1:Nat):Int)) from by
     obtain ⟨L9,z1,z2,z3,z4,z5,z6,z7⟩:=hgo
     exact .inl ⟨hlt,L9,y,z1,z2,z3,z4,z5,z6,z7,hY⟩
    simp (disch:=first|omega|(with_unfolding_all exact rfl)|(simp only[new_n,put_n,new_m];omega)|(refine put_m_le ?_;simp only[new_m];omega)) only [K40l0,K40r3,K40r4,K40r5,Abs.W,reduceIte,Nat.reduceEqDiff,Nat.reduceAdd,decide_true,decide_false,kLoop_def,Nat.reduceSub,List.cons_append,List.nil_append,List.append_nil,List.length_cons,List.length_nil,Env.find_set,q0,q1,q5,q9,q10,q11,e0,ix,ct,tb,Nat.zero_add]
    rw [← hy]
    by_cases h:i+1<l.length
    ·have e1:decide (((i+1:Nat):Int)<(l.length:Int))=true:=decide_eq_true (by omega)
     have hU:min x (stepAt l (i+1)).fr=upTo l x i:=by unfold upTo;rw [if_pos h]
     have ix1:∀ s,ixsA 2 s (.slice b 0 l.length l.length true) (.int .i64 ((i+1:Nat):Int))=.val (.ptr b ((i+1) * 2)) s:=fun s=>by rw [ixs_slice _ _ _ _ _ _ _ _ h,Nat.zero_add]
     have nt:=step_nth (l:=l) (i:=i+1) h
     simp (disch:=first|omega|(with_unfolding_all exact rfl)|(simp only[new_n,put_n,new_m];omega)|(refine put_m_le ?_;simp only[new_m];omega)) only [res40,K40r0,K40r1,K40r2,K40r3,K40r4,K40r5,K40r6,K40r7,K40r8,K40r9,K40r10,K40,Abs.W,reduceIte,Nat.reduceEqDiff,Nat.reduceAdd,decide_true,decide_false,kLoop_def,Nat.reduceSub,List.cons_append,List.nil_append,List.append_nil,List.length_cons,List.length_nil,Env.find_set,q0,q1,q5,q9,q10,q11,yt,yb,e1,ad,ix1,nt,kFold_def,foldA_nil,foldA_cons,minA_i64,maxA_i64,hU,sb,mu,ad2,Nat.zero_add,Nat.add_zero]
     refine ⟨_,rfl,?_,?_,?_,?_,?_,?_⟩<;>simp only [Env.find_set,q0,q1,q9,q10,reduceIte,Nat.reduceEqDiff]
    ·have e1:decide (((i+1:Nat):Int)<(l.length:Int))=false:=decide_eq_false (by omega)
     have hU:x=upTo l x i:=by unfold upTo;rw [if_neg h]
     have sb:∀ s,aSub s .i64 x (stepAt l i).fr=.val (.int .i64 (upTo l x i - (stepAt l i).fr)) s:=fun s=>by have:=sb s;rw [← hU] at this ⊢;exact this
     simp (disch:=first|omega|(with_unfolding_all exact rfl)|(simp only[new_n,put_n,new_m];omega)|(refine put_m_le ?_;simp only[new_m];omega)) only [res40,K40r0,K40r1,K40r2,K40r3,K40r4,K40r5,K40r6,K40r7,K40r8,K40r9,K40r10,K40,Abs.W,reduceIte,Nat.reduceEqDiff,Nat.reduceAdd,decide_true,decide_false,kLoop_def,Nat.reduceSub,List.cons_append,List.nil_append,List.append_nil,List.length_cons,List.length_nil,Env.find_set,q0,q1,q5,q9,q10,q11,yt,yb,e1,ad,kFold_def,foldA_nil,foldA_cons,minA_i64,maxA_i64,sb,mu,ad2,Nat.zero_add]
     refine ⟨_,rfl,?_,?_,?_,?_,?_,?_⟩<;>simp only [Env.find_set,q0,q1,q9,q10,reduceIte,Nat.reduceEqDiff]
   ·obtain rfl:i=l.length:=by omega
    have e0:decide ((l.length:Int)<(l.length:Int))=false:=by simp
    refine .inr ⟨.exit 0,L'.set 12 (.bool false),t,by simp,?_,rfl,by simp only [Env.find_set,q5,reduceIte,Nat.reduceEqDiff],hE⟩
    simp (disch:=first|omega|(with_unfolding_all exact rfl)|(simp only[new_n,put_n,new_m];omega)|(refine put_m_le ?_;simp only[new_m];omega)) only [K40l0,K40r3,Abs.W,reduceIte,Nat.reduceEqDiff,Nat.reduceAdd,decide_true,decide_false,kLoop_def,Nat.reduceSub,List.cons_append,List.nil_append,List.append_nil,List.length_cons,List.length_nil,Env.find_set,q10,q11,e0])
 obtain ⟨r0,r1⟩:=share_range ok hx.1 l.length (Nat.le_refl _)
 have qu:∀ s,aQuo s .i64 (shareTo l x l.length) 1000=.val (.int .i64 (dueI l x)) s:=fun s=>by
  rw [aQuo_ne _ _ _ _ (by decide),wrapA_eq,Int.tdiv_eq_ediv_of_nonneg r0]
  congr 2
  exact IntWalk.i64_in _ (by show -9223372036854775808≤shareTo l x l.length / 1000∧shareTo l x l.length / 1000≤9223372036854775807;omega)
 simp (disch:=first|omega|(with_unfolding_all exact rfl)|(simp only[new_n,put_n,new_m];omega)|(refine put_m_le ?_;simp only[new_m];omega)) only [res40,K40r0,K40r1,K40r2,K40r3,K40r4,K40r5,K40r6,K40r7,K40r8,K40r9,K40r10,K40,Abs.W,reduceIte,Nat.reduceEqDiff,Nat.reduceAdd,decide_true,decide_false,kLoop_def,Nat.reduceSub,List.cons_append,List.nil_append,List.append_nil,List.length_cons,List.length_nil,Env.find_set,hq,qu]
 refine ⟨s1,rfl,?_⟩
 have:=hE.m
 omega
end Go.Proofs.Ytamlnddeiokbdaa.walk
set_option maxRecDepth 10000
namespace Go.Proofs.Ytamlnddeiokbdaa.walk
open Go.Abs Go.Proofs.Ytamlnddeiokbdaa.code
theorem leave_ct {P:Program} (a:Nat) (t:TypeId) (b:Nat) (L:Env) (s:St) {sh:Option Nat} (hs:shapeT P t=some sh) {v:AV} (h:okA (loadA sh s (L.find a))=.val v s):leaveA P [.cell a t,.tmp b] L [] s=.val (.tup [v,L.find b]) s:=by
 unfold leaveA
 simp only [takeDfs,resultsA,hs,h]
 rfl
theorem boxIntE (sz:Nat) (s:St) (k:IntKind) (x:Int):boxA sz s (.int k x)=.val (.ptr s.n 0) (s.new (.cells [.int k x] sz)):=Eq.trans (Eq.refl _) (Eq.refl _)
def spanOf (l:List Sale) (st:Int):List AV:=[.int .i64 (turnOf false l st),.int .i64 (turnOf true l st)]
theorem Turnover_ok {N st:Nat} {b:Book} {v:AV} {s:St} (hN:8≤N) (ok:b.Ok) (hst:st<b.stalls) (hB:RowsAt s.h s.n 6 (b.sales.map Sale.cells) v) (hs:s.n+8000≤far) :
  call Try.prog X N (.fn 17) [.agg (bookV b v),.int .i64 (st:Int)] s=.val (.tup [.agg (spanOf b.sales st),.int .i64 0]) s:=by
 obtain ⟨n,rfl⟩:∃ n,N=n+1:=⟨N - 1,by omega⟩
 have hf:far=1000000000:=rfl
 have sh2:shapeT Try.prog 38=some (some 2):=by kernel_rfl
 refine call_plain' Try.func17 (fun u uh un um=>?_) rfl
 rw [← uh,← un] at hB
 rw [← un] at hs
 have kv:∀ t,okA (.val v t)=.val v t:=fun t=>okA_ne hB.ne
 have scB:scalars (bookV b v)=true:=by
  have hv:v.scalar=true:=by
   have h:=hB.len u
   cases v<;>first | rfl | cases h
  show scalars [v]=true
  unfold scalars
  rw [hv]
  rfl
 obtain ⟨w,hw⟩:∃ w:St,w=((u.new (.cells (bookV b v) (tag 27))).new (.cells [.int .i64 (st:Int)] (tag 3))).new (.cells [.int .i64 0,.int .i64 0] (tag 38)):=⟨_,rfl⟩
 have wn:w.n=u.n+3:=by rw [hw];rfl
 have wm:w.m=far:=by rw [hw];exact um
 have wg:∀ c,c<u.n→w.h.get c=u.h.get c:=fun c hc=>by rw [hw,get_new_ne _ _ _ (by simp only [new_n];omega),get_new_ne _ _ _ (by simp only [new_n];omega),get_new_ne _ _ _ (by omega)]
 have w0:w.h.get u.n=some (.cells (bookV b v) (tag 27)):=by rw [hw,get_new_ne _ _ _ (by simp only [new_n];omega),get_new_ne _ _ _ (by simp only [new_n];omega)];exact get_new_eq _ _ _ rfl (by omega)
 have w1:w.h.get (u.n+1)=some (.cells [.int .i64 (st:Int)] (tag 3)):=by rw [hw,get_new_ne _ _ _ (by simp only [new_n];omega)];exact get_new_eq _ _ _ rfl (by simp only [new_n];omega)
 have w2:w.h.get (u.n+1+1)=some (.cells [.int .i64 0,.int .i64 0] (tag 38)):=by rw [hw];exact get_new_eq _ _ _ rfl (by simp only [new_n];omega)
 have hR:=hB.grow wg (by omega:u.n≤w.n)
 have hck:=fun m=>check_ok n (by omega) b ok v ⟨w.h,w.n,m⟩ hR (by show w.n+4000≤far;omega)
 have bt:∀ x:St,(∀ c,c<w.n→x.h.get c=w.h.get c)→w.n≤x.n→x.n≤w.n+10→call Try.prog X n (.fn 38) [.func 50 [] [.ptr u.n 0,.ptr (u.n+1) 0]] x=.val (.agg [.int .i64 (turnOf false b.sales st),.int .i64 (turnOf true b.sales st)]) x:=fun x hx h1 h2 =>
  between_ok _ _ (by omega) (fun e t ht h3 h4=>by
   have hxt:∀ c,c<w.n→t.h.get c=w.h.get c:=fun c hc=>(ht c (by omega)).trans (hx c hc)
   have:=found_ok (N:=n - 1) (p:=u.n) (q:=u.n+1) (st:=st) (s:=t) e (by omega) ok ((hxt u.n (by omega)).trans w0) ((hxt (u.n+1) (by omega)).trans w1) (by omega) (by omega) (hR.grow hxt (by omega)) (by omega)
   cases e<;>exact this) (by omega)
 have bw:=bt (w.new (.cells [.int .i64 0,.int .i64 0] 0)) (fun c hc=>get_new_ne _ _ _ (by omega)) (by simp only [new_n];omega) (by simp only [new_n];omega)
 unfold bookV at w0 hw scB hck
 rw [enter17]
 unfold bookV
 simp (disch:=first|omega|(with_unfolding_all exact rfl)|(simp only[new_n,put_n,new_m];omega)|(refine put_m_le ?_;simp only[new_m];omega)) only [K17,K17r0,Abs.W,reduceIte,Nat.reduceEqDiff,Nat.reduceAdd,decide_true,decide_false,kLoop_def,Nat.reduceSub,List.cons_append,List.nil_append,List.append_nil,List.length_cons,List.length_nil,boxIntE,scB,Nat.zero_add]
 rw [← hw]
 clear hw
 have z0:decide ((0:Int)=0)=true:=rfl
 simp (disch:=first|omega|(with_unfolding_all exact rfl)|(simp only[new_n,put_n,new_m];omega)|(refine put_m_le ?_;simp only[new_m];omega)) only [res17,K17r0,K17r1,K17r2,K17r3,K17r4,K17,Abs.W,reduceIte,Nat.reduceEqDiff,Nat.reduceAdd,decide_true,decide_false,kLoop_def,Nat.reduceSub,List.cons_append,List.nil_append,List.append_nil,List.length_cons,List.length_nil,Env.find_set,new_n,w0,w1,w2,kv,scB,hck,hck w.m,named_ok,or_new2,z0,kFuncE',okA_fnv,bw,endO_nil,Nat.zero_add]
 refine ⟨_,leave_ct _ _ _ _ _ sh2 ?_,?_⟩
 ·simp only [find_cons,reduceIte,Nat.reduceEqDiff]
  rw [load_ptr,get_put_eq _ _ _ _ rfl (by omega),loadO_cells,partS_some]
  rfl
 ·simp only [St.put,minN_eq,new_m];omega
end Go.Proofs.Ytamlnddeiokbdaa.walk
set_option maxRecDepth 10000
namespace Go.Abs
structure Takes {α:Type} (P:Program) (X:FuncId→List Nat) (N l k0 w rm:Nat) (own:Nat→Prop) (ev:α→AV) (T:List α) (μ:List α→Nat→Prop) (J:List α→Heap→Nat→Prop):Prop where
 mono:∀ p m m',m'≤m→μ p m→μ p m'
 nil:∀ m,μ [] m
 few:k0≤1000000000
 keep:∀ p h h' n n',(∀ b,b≤l→h'.get b=h.get b)→n≤n'→J p h n→J p h' n'
 take:∀ p x rest (s:St),p++x::rest=T→J p s.h s.n→l<s.n→s.n+rm≤far→w≤s.m→s.m≤far→μ p s.m→∃ s',Abs.call P X N (.yield l) [ev x] s=.val (.bool true) s'∧J (p++[x]) s'.h s'.n ∧
  (∀ y,y<s.n→y≠l→¬ own y→s'.h.get y=s.h.get y)∧s.n≤s'.n∧s'.n≤s.n+k0∧w≤s'.m∧s'.m≤s.m∧s'.m≤l∧μ (p++[x]) s'.m
def Hands {α:Type} (P:Program) (X:FuncId→List Nat) (N Z nb cb:Nat) (H:Heap) (g:FuncId) (cap:List AV) (ev:α→AV) (T:List α):Prop :=
 ∀ (l k0 w rm:Nat) (own:Nat→Prop) (μ:List α→Nat→Prop) (J:List α→Heap→Nat→Prop) (s:St),Takes P X N l k0 w rm own ev T μ J→(∀ y,own y→nb≤y∧y≤l)→(∀ y,y<nb→s.h.get y=H.get y)→nb≤l→l<s.n→w≤l→s.n+60 * (k0+cb)+rm+1000≤far→J [] s.h s.n→w≤s.m→s.m≤far →
  ∃ s',Abs.call P X Z (.fn g) (.yield l::cap) s=.val (.tup []) s'∧J T s'.h s'.n∧(∀ y,y<s.n→y≠l→¬ own y→s'.h.get y=s.h.get y)∧s.n≤s'.n∧s'.n≤s.n+60 * (k0+cb)∧w≤s'.m∧s'.m≤s.m∧μ T s'.m
def loopO (c:Ctx) (L:Env) (ps:List Tmp) (a b:Code) (s:St):ALoop:=⟨.ready,none,c.fn,L,ps,a,b,s.n,c.nt,c.xs⟩
theorem jump_norm:jumpOf .norm=none:=rfl
theorem goes_norm:goesOn .norm=true:=rfl
theorem hands_range {α:Type} {P:Program} {X:FuncId→List Nat} {M Z nb cb:Nat} {H:Heap} {g:FuncId} {cap:List AV} {ev:α→AV} {T:List α} (hh:Hands P X (M+1) Z nb cb H g cap ev T) {f:Arg} {ps:List Tmp} {a b:Code} {ka kb:K} {c:Ctx} {L:Env} {s:St} (hc:c.rnd=none) (hf:f.ev L=.func g [] cap) (hps:ps.length=1) (ha:codeK P c.xs c.nt a=some ka) (hb:codeK P c.xs c.nt b=some kb)
  (k0 w rm:Nat) (own:Nat→Prop) (μ:List α→Nat→Prop) (μm:∀ p m m',m'≤m→μ p m→μ p m') (μ0:∀ m,μ [] m) (I:List α→Heap→Nat→Prop) (hk0:k0≤1000000000) (hH:∀ y,y<nb→s.h.get y=H.get y) (hnb:nb≤s.n) (ho:∀ y,own y→nb≤y∧y<s.n) (hw:w≤s.n) (hwm:w≤s.m) (hm:s.m≤far) (hs:s.n+60 * (k0+cb)+rm+10000≤far)
  (hI0:I [] s.h s.n) (keep:∀ p h h' n n',(∀ y,y<s.n→h'.get y=h.get y)→n≤n'→I p h n→I p h' n')
  (round:∀ p x rest (t:St),p++x::rest=T→I p t.h t.n→(∀ y,y<s.n→¬ own y→t.h.get y=s.h.get y)→s.n+2≤t.n→t.n+rm≤far→w≤t.m→t.m≤far→μ p t.m→∃ L1 t1 L2 t2,ka (Abs.call P X M) ⟨c.fn,some (s.n+1),c.nt,c.xs⟩ (setParams L ps [ev x]) [] t=.done .norm L1 [] t1∧t1.h.get (s.n+1)=t.h.get (s.n+1)∧kb (Abs.call P X M) ⟨c.fn,some (s.n+1),c.nt,c.xs⟩ L1 [] (t1.put (s.n+1) (.loop { loopO c L ps a b s with state:=.busy }))=.done .norm L2 [] t2∧I (p++[x]) t2.h t2.n∧t2.h.get (s.n+1)=some (.loop { loopO c L ps a b s with state:=.busy })∧(∀ y,y<t.n→y≠s.n+1→¬ own y→t2.h.get y=t.h.get y)∧t.n≤t2.n∧t2.n≤t.n+k0∧w≤t2.m∧t2.m≤t.m∧μ (p++[x]) t2.m) :
  ∃ s',kRange f ps a b (Abs.call P X Z) c L [] s=.done .norm L [s.n] s'∧I T s'.h s'.n∧(∀ y,y<s.n→¬ own y→s'.h.get y=s.h.get y)∧s'.h.get s.n=some .dfr∧s.n+2≤s'.n∧s'.n≤s.n+2+60 * (k0+cb)∧w≤s'.m∧s'.m≤s.m∧μ T s'.m:=by
 have hff:far=1000000000:=rfl
 obtain ⟨S0,hS0⟩:∃ S0:St,S0=(s.new .dfr).new (.loop (loopO c L ps a b s)):=⟨_,rfl⟩
 have n0:S0.n=s.n+2:=by rw [hS0];rfl
 have m0:S0.m=s.m:=by rw [hS0];rfl
 have g0:∀ y,y<s.n→S0.h.get y=s.h.get y:=fun y hy=>by rw [hS0,get_new_ne _ _ _ (by rw [new_n];omega),get_new_ne _ _ _ (by omega)]
 have gd:S0.h.get s.n=some .dfr:=by rw [hS0,get_new_ne _ _ _ (by rw [new_n];omega)];exact get_new_eq _ _ _ rfl (by omega)
 have gl:S0.h.get (s.n+1)=some (.loop (loopO c L ps a b s)):=by rw [hS0];exact get_new_eq _ _ _ rfl (by rw [new_n];omega)
 obtain ⟨s2,e2,⟨j1,j2,j3,j4,j5⟩,k2,k3,k4,k5,k6,k7⟩:=hh (s.n+1) k0 w rm own μ (fun p h n=>h.get (s.n+1)=some (.loop (loopO c L ps a b s))∧I p h n∧(∀ y,y<s.n→¬ own y→h.get y=s.h.get y)∧h.get s.n=some .dfr∧s.n+1<n) S0
  ⟨μm,μ0,hk0,fun p h h' n n' hb hn ⟨j1,j2,j3,j4,j5⟩=>⟨(hb _ (Nat.le_refl _)).trans j1,keep p h h' n n' (fun y hy=>hb y (by omega)) hn j2,fun y hy ho'=>(hb y (by omega)).trans (j3 y hy ho'),(hb _ (by omega)).trans j4,by omega⟩,fun p x rest t ht ⟨j1,j2,j3,j4,j5⟩ hl hfar hwt hmt hμ=>by
   obtain ⟨L1,t1,L2,t2,r1,r2,r3,r4,r5,r6,r7,r8,r9,r10,r11⟩:=round p x rest t ht j2 j3 (by omega) (by omega) hwt hmt hμ
   have hcr:=call_round (P:=P) (X:=X) (n:=M) (l:=s.n+1) (args:=[ev x]) (r:=loopO c L ps a b s) (r1:=loopO c L ps a b s) j1 hps.symm ha hb r1 (r2.trans j1) rfl r3 r5
   rw [goes_norm,jump_norm] at hcr
   refine ⟨_,hcr,⟨get_put_eq _ _ _ _ rfl (by omega),keep _ _ _ _ _ (fun y hy=>get_put_ne' _ _ _ _ (by omega)) (Nat.le_refl _) r4,fun y hy ho'=>?_,?_,by rw [put_n];omega⟩,fun y hy hyl hyo=>?_,by rw [put_n];omega,by rw [put_n];omega,?_,?_,?_,?_⟩
   ·rw [get_put_ne' _ _ _ _ (by omega),r6 y (by omega) (by omega) ho'];exact j3 y hy ho'
   ·rw [get_put_ne' _ _ _ _ (by omega),r6 s.n (by omega) (by omega) (fun h=>by have:=ho _ h;omega)];exact j4
   ·rw [get_put_ne' _ _ _ _ hyl];exact r6 y hy hyl hyo
   ·simp only [St.put,minN_eq];omega
   ·simp only [St.put,minN_eq];omega
   ·simp only [St.put,minN_eq];omega
   ·exact μm _ _ _ (by simp only [St.put,minN_eq];omega) r11⟩
  (fun y hy=>by have:=ho y hy;omega) (fun y hy=>(g0 y (by omega)).trans (hH y hy)) (by omega) (by omega) (by omega) (by omega) ⟨gl,keep [] s.h S0.h s.n S0.n g0 (by omega) hI0,fun y hy _=>g0 y hy,gd,by omega⟩ (by omega) (by omega)
 have hr:=range_to_end (f:=f) (ps:=ps) (a:=a) (b:=b) (cl:=Abs.call P X Z) (c:=c) (L:=L) (s:=s) (s2:=s2) (v:=.tup []) (r:=loopO c L ps a b s) hc (by rw [hf,callV_func];rw [hS0] at e2;exact e2) j1 rfl rfl
 refine ⟨_,hr,keep _ _ _ _ _ (fun y hy=>get_put_ne' _ _ _ _ (by omega)) (Nat.le_refl _) j2,fun y hy ho'=>?_,?_,by rw [put_n];omega,by rw [put_n];omega,?_,?_,μm _ _ _ (by simp only [St.put,minN_eq];omega) k7⟩
 ·rw [get_put_ne' _ _ _ _ (by omega)];exact j3 y hy ho'
 ·rw [get_put_ne' _ _ _ _ (by omega)];exact j4
 ·simp only [St.put,minN_eq];omega
 ·simp only [St.put,minN_eq];omega
end Go.Abs
namespace Go.Proofs.Ytamlnddeiokbdaa.walk
open Go.Abs Go.Proofs.Ytamlnddeiokbdaa.code
def cheapI (hi:Bool) (p:Int):List Sale→Int
 | []=>0
 | s::r=>(if spanAt hi s.cl s.ch≤p then spanAt (!hi) s.gl s.gh else 0)+cheapI hi p r
def dearI (hi:Bool) (p:Int):List Sale→Int
 | []=>0
 | s::r=>(if spanAt hi s.cl s.ch≤p then 0 else spanAt hi s.gl s.gh)+dearI hi p r
def enoughI (hi:Bool) (l:List Sale) (p:Int):Bool:=decide (dearI hi p l≤cheapI hi p l)
def leastI (st:Bool × Int) (c:Int):Bool × Int:=if !st.1 || decide (c<st.2) then (true,c) else st
def tryI (hi:Bool) (l:List Sale) (st:Bool × Int) (s:Sale):Bool × Int:=if enoughI hi l (spanAt hi s.cl s.ch) then leastI st (spanAt hi s.cl s.ch) else st
def priceI (hi:Bool) (l:List Sale):Int:=(l.foldl (tryI hi l) (false,0)).2
def soldOf (l:List Sale) (good:Int):List Sale:=l.filter fun s=>decide (s.gd=good) && decide (0<s.gh)
def weighI (hi:Bool):List Sale→Int
 | []=>0
 | s::r=>spanAt hi s.gl s.gh+weighI hi r
theorem price_fold (hi:Bool) (l:List Sale):∀ (r:List Sale) (st:Bool × Int),
  (st.1=true→(r.foldl (tryI hi l) st).1=true)∧(∀ s ∈ r,enoughI hi l (spanAt hi s.cl s.ch)=true→(r.foldl (tryI hi l) st).1=true) ∧
  (st.1=true→(r.foldl (tryI hi l) st).2≤st.2)∧(∀ s ∈ r,enoughI hi l (spanAt hi s.cl s.ch)=true→(r.foldl (tryI hi l) st).2≤spanAt hi s.cl s.ch) ∧
  (r.foldl (tryI hi l) st=st∨∃ s ∈ r,enoughI hi l (spanAt hi s.cl s.ch)=true∧(r.foldl (tryI hi l) st)=(true,spanAt hi s.cl s.ch))
 | [],st=>⟨fun h=>h,⟨fun s hs=>absurd hs (by simp),⟨fun _=>Int.le_refl _,⟨fun s hs=>absurd hs (by simp),Or.inl rfl⟩⟩⟩⟩
 | a::r,st=>by
  obtain ⟨h1,h2,h3,h4,h5⟩:=price_fold hi l r (tryI hi l st a)
  rw [List.foldl_cons]
  have k1:st.1=true→(tryI hi l st a).1=true:=fun h=>by unfold tryI leastI;split<;>(try split)<;>first | rfl | exact h
  have k2:enoughI hi l (spanAt hi a.cl a.ch)=true→(tryI hi l st a).1=true:=fun h=>by
   unfold tryI leastI
   rw [if_pos h]
   by_cases h':(!st.1 || decide (spanAt hi a.cl a.ch<st.2))=true
   ·rw [if_pos h']
   ·rw [if_neg h']
    cases hs:st.1 with
    | true=>rfl
    | false=>rw [hs] at h';simp at h'
  have k3:st.1=true→(tryI hi l st a).2≤st.2:=fun h=>by
   unfold tryI leastI
   rw [h]
   by_cases e:enoughI hi l (spanAt hi a.cl a.ch)=true
   ·rw [if_pos e]
    by_cases h':spanAt hi a.cl a.ch<st.2
    ·simp only [Bool.not_true,Bool.false_or,decide_eq_true h',if_true];omega
    ·simp only [Bool.not_true,Bool.false_or,decide_eq_false h',if_false,Bool.false_eq_true];omega
   ·rw [if_neg e];omega
  have k4:enoughI hi l (spanAt hi a.cl a.ch)=true→(tryI hi l st a).2≤spanAt hi a.cl a.ch:=fun e=>by
   unfold tryI leastI
   rw [if_pos e]
   by_cases h':(!st.1 || decide (spanAt hi a.cl a.ch<st.2))=true
   ·rw [if_pos h'];exact Int.le_refl _
   ·rw [if_neg h']
    have:¬ spanAt hi a.cl a.ch<st.2:=fun h=>h' (by rw [decide_eq_true h,Bool.or_true])
    omega
  refine ⟨fun h=>h1 (k1 h),fun s hs e=>?_,fun h=>Int.le_trans (h3 (k1 h)) (k3 h),fun s hs e=>?_,?_⟩
  ·rcases List.mem_cons.mp hs with rfl | hs
   ·exact h1 (k2 e)
   ·exact h2 s hs e
  ·rcases List.mem_cons.mp hs with rfl | hs
   ·exact Int.le_trans (h3 (k2 e)) (k4 e)
   ·exact h4 s hs e
  ·rcases h5 with h5 | ⟨s,hs,e,h5⟩
   ·rw [h5]
    unfold tryI leastI
    by_cases e:enoughI hi l (spanAt hi a.cl a.ch)=true
    ·rw [if_pos e]
     by_cases h':(!st.1 || decide (spanAt hi a.cl a.ch<st.2))=true
     ·rw [if_pos h'];exact .inr ⟨a,List.mem_cons_self ..,e,rfl⟩
     ·rw [if_neg h'];exact .inl rfl
    ·rw [if_neg e];exact .inl rfl
   ·exact .inr ⟨s,List.mem_cons_of_mem _ hs,e,h5⟩
theorem price_least (hi:Bool) (l:List Sale):∀ s ∈ l,enoughI hi l (spanAt hi s.cl s.ch)=true→priceI hi l≤spanAt hi s.cl s.ch :=
 fun s hs e=>(price_fold hi l l (false,0)).2.2.2.1 s hs e
theorem all_cheap (hi:Bool) (p:Int):∀ (l:List Sale),(∀ s ∈ l,spanAt hi s.cl s.ch≤p)→dearI hi p l=0
 | [],_=>rfl
 | s::r,h=>by
  unfold dearI
  rw [if_pos (h s (List.mem_cons_self ..)),all_cheap hi p r (fun s hs=>h s (List.mem_cons_of_mem _ hs))]
  rfl
theorem cheap_nonneg (hi:Bool) (p:Int):∀ (l:List Sale),(∀ s ∈ l,0≤s.gl∧s.gl≤s.gh)→0≤cheapI hi p l
 | [],_=>Int.le_refl _
 | s::r,h=>by
  have a:=cheap_nonneg hi p r (fun s hs=>h s (List.mem_cons_of_mem _ hs))
  have b:=h s (List.mem_cons_self ..)
  unfold cheapI
  cases hi<;>simp only [spanAt,Bool.not_true,Bool.not_false]<;>split<;>omega
theorem greatest_in (f:Sale→Int):∀ (l:List Sale),l≠[]→∃ s ∈ l,∀ t ∈ l,f t≤f s
 | [],h=>absurd rfl h
 | [a],_=>⟨a,List.mem_cons_self ..,fun t ht=>by rw [List.mem_singleton.mp ht];exact Int.le_refl _⟩
 | a::b::r,_=>by
  obtain ⟨s,hs,h⟩:=greatest_in f (b::r) (by simp)
  by_cases g:f s≤f a
  ·exact ⟨a,List.mem_cons_self ..,fun t ht=>by
    rcases List.mem_cons.mp ht with rfl | ht
    ·exact Int.le_refl _
    ·exact Int.le_trans (h t ht) g⟩
  ·exact ⟨s,List.mem_cons_of_mem _ hs,fun t ht=>by
    rcases List.mem_cons.mp ht with rfl | ht
    ·omega
    ·exact h t ht⟩
theorem price_is (hi:Bool) (l:List Sale) (hl:l≠[]) (ok:∀ s ∈ l,0≤s.gl∧s.gl≤s.gh):∃ s ∈ l,enoughI hi l (spanAt hi s.cl s.ch)=true∧priceI hi l=spanAt hi s.cl s.ch:=by
 obtain ⟨s,hs,h⟩:=greatest_in (fun s=>spanAt hi s.cl s.ch) l hl
 have e:enoughI hi l (spanAt hi s.cl s.ch)=true:=decide_eq_true (by rw [all_cheap hi _ l h];exact cheap_nonneg hi _ l ok)
 obtain ⟨_,h2,_,_,h5⟩:=price_fold hi l l (false,0)
 have t:=h2 s hs e
 rcases h5 with h5 | ⟨s',hs',e',h5⟩
 ·rw [h5] at t;cases t
 ·exact ⟨s',hs',e',by unfold priceI;rw [h5]⟩
theorem cheap_same (hi:Bool) {p q:Int}:∀ (l:List Sale),(∀ s ∈ l,spanAt hi s.cl s.ch≤p↔spanAt hi s.cl s.ch≤q)→cheapI hi p l=cheapI hi q l∧dearI hi p l=dearI hi q l
 | [],_=>⟨rfl,rfl⟩
 | s::r,h=>by
  obtain ⟨a,b⟩:=cheap_same hi r (fun s hs=>h s (List.mem_cons_of_mem _ hs))
  have c:=h s (List.mem_cons_self ..)
  unfold cheapI dearI
  rw [a,b]
  by_cases k:spanAt hi s.cl s.ch≤p
  ·rw [if_pos k,if_pos (c.mp k),if_pos k,if_pos (c.mp k)];exact ⟨rfl,rfl⟩
  ·rw [if_neg k,if_neg (fun h=>k (c.mpr h)),if_neg k,if_neg (fun h=>k (c.mpr h))];exact ⟨rfl,rfl⟩
theorem price_upTo (hi:Bool) (l:List Sale) {q:Int} (h:dearI hi q l≤cheapI hi q l) {s:Sale} (hs:s ∈ l) (hq:spanAt hi s.cl s.ch≤q):priceI hi l≤q:=by
 have hm:s ∈ l.filter (fun t=>decide (spanAt hi t.cl t.ch≤q)):=List.mem_filter.mpr ⟨hs,decide_eq_true hq⟩
 obtain ⟨m,mm,mg⟩:=greatest_in (fun s=>spanAt hi s.cl s.ch) (l.filter (fun t=>decide (spanAt hi t.cl t.ch≤q))) (fun h0=>by rw [h0] at hm;cases hm)
 obtain ⟨m1,m2⟩:=List.mem_filter.mp mm
 have m3:=of_decide_eq_true m2
 obtain ⟨a,b⟩:=cheap_same hi (p:=spanAt hi m.cl m.ch) (q:=q) l (fun t ht=>⟨fun h=>Int.le_trans h m3,fun h=>mg t (List.mem_filter.mpr ⟨ht,decide_eq_true h⟩)⟩)
 exact Int.le_trans (price_least hi l m m1 (decide_eq_true (by rw [a,b];exact h))) m3
end Go.Proofs.Ytamlnddeiokbdaa.walk
set_option maxRecDepth 10000
namespace Go.Proofs.Ytamlnddeiokbdaa.walk
open Go.Abs Go.Proofs.Ytamlnddeiokbdaa.code
structure Bedd (u t:St) (l w kk:Nat) (own:Nat→Prop):Prop where
 same:∀ y,y<u.n→y≠l→¬ own y→t.h.get y=u.h.get y
 n:u.n≤t.n
 le:t.n≤u.n+kk
 m:w≤t.m
 mle:t.m≤far
theorem soldOf_snoc {l:List Sale} {i:Nat} (hi:i<l.length) (good:Int):soldOf (l.take (i+1)) good=soldOf (l.take i) good++(if decide (l[i].gd=good) && decide (0<l[i].gh) then [l[i]] else []):=by
 unfold soldOf
 rw [List.take_succ_eq_append_getElem hi,List.filter_append]
 congr 1
 rw [List.filter_cons]
 rfl
theorem soldOf_split {l:List Sale} {i:Nat} (hi:i<l.length) {good:Int} (h:(decide (l[i].gd=good) && decide (0<l[i].gh))=true):soldOf (l.take i) good++l[i]::soldOf (l.drop (i+1)) good=soldOf l good:=by
 have e:l=l.take i++l[i]::l.drop (i+1):=by rw [← List.drop_eq_getElem_cons hi,List.take_append_drop]
 conv=>rhs;rw [e]
 unfold soldOf
 rw [List.filter_append,List.filter_cons,if_pos h]
theorem sold_round (N:Nat) (cx:Ctx) {l k0 w rm q i kk nb:Nat} {own:Nat→Prop} {μ:List Sale→Nat→Prop} {J:List Sale→Heap→Nat→Prop} {b:Book} {v:AV} {good:Int} {u t:St} {L:Env} (hT:Takes Try.prog X N l k0 w rm own (fun s:Sale=>.agg s.cells) (soldOf b.sales good) μ J) (ok:b.Ok)
  (hB:RowsAt u.h nb 6 (b.sales.map Sale.cells) v) (gq:u.h.get q=some (.cells [.int .i64 good] (tag 3))) (hq:q<nb) (hnb:nb≤l) (ho:∀ y,own y→nb≤y∧y≤l) (hlu:l<u.n) (hs:u.n+kk+rm+500≤far) (hi:i<b.sales.length)
  (q0:L.find 0=.yield l) (q2:L.find 2=.ptr q 0) (q7:L.find 7=v) (q8:L.find 8=.int .i64 b.sales.length) (q9:L.find 9=.int .i64 i) (hD:Bedd u t l w kk own) (hw:w≤l) (hz:(soldOf (b.sales.take i) good=[]∨t.m≤l)∧μ (soldOf (b.sales.take i) good) t.m) (hJ:J (soldOf (b.sales.take i) good) t.h t.n) :
  ∃ L1 t1,K64l0 (call Try.prog X N) cx L [] t=.done .norm L1 [] t1∧Bedd u t1 l w (kk+k0+1) own∧((soldOf (b.sales.take (i+1)) good=[]∨t1.m≤l)∧μ (soldOf (b.sales.take (i+1)) good) t1.m)∧L1.find 0=.yield l∧L1.find 2=.ptr q 0∧L1.find 7=v∧L1.find 8=.int .i64 b.sales.length∧L1.find 9=.int .i64 (i+1:Nat)∧J (soldOf (b.sales.take (i+1)) good) t1.h t1.n:=by
 have hf:far=1000000000:=rfl
 obtain ⟨same,tn,tk,tm,tf⟩:=hD
 have c1:=ok.l
 have e0:decide ((i:Int)<(b.sales.length:Int))=true:=decide_eq_true (by omega)
 obtain ⟨x0,o0,cs,sz,r1,r2,r3,r4⟩:=hB.at_ i (by simpa using hi)
 rw [List.getElem_map] at r4
 have nob:∀ y,y<nb→y<u.n∧y≠l∧¬ own y:=fun y hy=>⟨by omega,by omega,fun h=>by have:=ho y h;omega⟩
 have g0:=(same x0 (nob _ r1).1 (nob _ r1).2.1 (nob _ r1).2.2).trans r3
 have gq':=(same q (nob _ hq).1 (nob _ hq).2.1 (nob _ hq).2.2).trans gq
 have hsn:=soldOf_snoc hi good
 have hsp:=soldOf_split hi (good:=good)
 have ad:∀ s,aAdd s .i64 (i:Int) 1=.val (.int .i64 ((i:Int)+1)) s:=fun s=>aAdd_i64 s _ _ (by omega)
 generalize b.sales[i]=M at *
 unfold Sale.cells at r4
 have xt:x0<t.n:=by have:=(nob _ r1).1;omega
 obtain ⟨x,hx⟩:∃ x:St,x=(t.new (.cells [.int .i64 0,.int .i64 0,.int .i64 0,.int .i64 0,.int .i64 0,.int .i64 0] (tag 51))).put t.n (.cells [.int .i64 M.st,.int .i64 M.gd,.int .i64 M.gl,.int .i64 M.gh,.int .i64 M.cl,.int .i64 M.ch] (tag 51)):=⟨_,rfl⟩
 have xn:x.n=t.n+1:=by rw [hx];rfl
 have xg:∀ c,c<t.n→x.h.get c=t.h.get c:=fun c hc=>by rw [hx,get_put_ne' _ _ _ _ (by omega),get_new_ne _ _ _ (by omega)]
 have xc:x.h.get t.n=some (.cells [.int .i64 M.st,.int .i64 M.gd,.int .i64 M.gl,.int .i64 M.gh,.int .i64 M.cl,.int .i64 M.ch] (tag 51)):=by rw [hx];exact get_put_eq _ _ _ _ rfl (by omega)
 have xm:w≤x.m∧x.m≤far∧(t.m≤l→x.m≤l)∧x.m≤t.m:=by rw [hx];simp only [St.put,minN_eq,new_m];omega
 have xq:=(xg q (by omega)).trans gq'
 have hJx:J (soldOf (b.sales.take i) good) x.h x.n:=hT.keep _ _ _ _ _ (fun y hy=>xg y (by omega)) (by omega) hJ
 have kf:=hT.few
 have hμx:=hT.mono _ _ _ xm.2.2.2 hz.2
 simp (disch:=first|omega|(with_unfolding_all exact rfl)|(simp only[new_n,put_n,new_m];omega)|(refine put_m_le ?_;simp only[new_m];omega)) only [K64l0,K64r1,K64r2,Abs.W,reduceIte,Nat.reduceEqDiff,Nat.reduceAdd,decide_true,decide_false,kLoop_def,Nat.reduceSub,List.cons_append,List.nil_append,List.append_nil,List.length_cons,List.length_nil,Env.find_set,Nat.zero_add,q0,q2,q7,q8,q9,e0,r2,r4,g0]
 rw [← hx]
 clear hx
 have u3s6:=fun cl L s=>congrFun (congrFun (congrFun K64r3s6.eq_1 cl) L) s
 have u3s7:=fun cl L s=>congrFun (congrFun (congrFun K64r3s7.eq_1 cl) L) s
 have u3s8:=fun cl L s=>congrFun (congrFun (congrFun K64r3s8.eq_1 cl) L) s
 have u3s9:=fun cl L s=>congrFun (congrFun (congrFun K64r3s9.eq_1 cl) L) s
 have u3s12:=fun cl L s=>congrFun (congrFun (congrFun K64r3s12.eq_1 cl) L) s
 have u3s13:=fun cl L s=>congrFun (congrFun (congrFun K64r3s13.eq_1 cl) L) s
 have u3s14:=fun cl L s=>congrFun (congrFun (congrFun K64r3s14.eq_1 cl) L) s
 have u3s15:=fun cl L s=>congrFun (congrFun (congrFun K64r3s15.eq_1 cl) L) s
 have same':∀ y,y<u.n→y≠l→¬ own y→x.h.get y=u.h.get y:=fun y hy h1 h2=>(xg y (by omega)).trans (same y hy h1 h2)
 by_cases h1:M.gd=good
 ·have d1:decide (M.gd=good)=true:=decide_eq_true h1
  by_cases h2:0<M.gh
  ·have d2:decide (0<M.gh)=true:=decide_eq_true h2
   rw [d1,d2] at hsn hsp
   rw [hsn]
   obtain ⟨s2,e2,k1,k3,k4,k5,k6,k7,k8,k9⟩:=hT.take _ _ _ x (hsp rfl) hJx (by omega) (by omega) xm.1 xm.2.1 hμx
   have e2':call Try.prog X N (.yield l) [.agg [.int .i64 M.st,.int .i64 M.gd,.int .i64 M.gl,.int .i64 M.gh,.int .i64 M.cl,.int .i64 M.ch]] x=.val (.bool true) s2:=e2
   simp (disch:=first|omega|(with_unfolding_all exact rfl)|(simp only[new_n,put_n,new_m];omega)|(refine put_m_le ?_;simp only[new_m];omega)) only [K64r3,K64r4,u3s6,u3s7,u3s8,u3s9,u3s12,u3s13,u3s14,u3s15,Abs.W,reduceIte,Nat.reduceEqDiff,Nat.reduceAdd,decide_true,decide_false,kLoop_def,Nat.reduceSub,List.cons_append,List.nil_append,List.append_nil,List.length_cons,List.length_nil,Env.find_set,Nat.zero_add,q0,q2,q7,q8,q9,xc,xq,d1,d2,e2',ad]
   refine ⟨_,_,rfl,⟨fun y hy h1 h2=>(k3 y (by omega) h1 h2).trans (same' y hy h1 h2),by omega,by omega,k6,by omega⟩,⟨.inr k8,k9⟩,?_,?_,?_,?_,?_,k1⟩
   ·simp only [Env.find_set,q0,reduceIte,Nat.reduceEqDiff]
   ·simp only [Env.find_set,q2,reduceIte,Nat.reduceEqDiff]
   ·simp only [Env.find_set,q7,reduceIte,Nat.reduceEqDiff]
   ·simp only [Env.find_set,q8,reduceIte,Nat.reduceEqDiff]
   ·simp only [Env.find_set,reduceIte,Nat.reduceEqDiff];rfl
  ·have d2:decide (0<M.gh)=false:=decide_eq_false h2
   rw [d1,d2] at hsn
   rw [hsn]
   simp (disch:=first|omega|(with_unfolding_all exact rfl)|(simp only[new_n,put_n,new_m];omega)|(refine put_m_le ?_;simp only[new_m];omega)) only [K64r3,K64r4,u3s6,u3s7,u3s8,u3s9,u3s12,u3s13,u3s14,u3s15,Abs.W,reduceIte,Nat.reduceEqDiff,Nat.reduceAdd,decide_true,decide_false,kLoop_def,Nat.reduceSub,List.cons_append,List.nil_append,List.append_nil,List.length_cons,List.length_nil,Env.find_set,Nat.zero_add,q0,q2,q7,q8,q9,xc,xq,d1,d2,ad]
   refine ⟨_,_,rfl,⟨same',by omega,by omega,xm.1,xm.2.1⟩,⟨by simpa using hz.1.imp id xm.2.2.1,by simpa using hμx⟩,?_,?_,?_,?_,?_,by simpa using hJx⟩
   ·simp only [Env.find_set,q0,reduceIte,Nat.reduceEqDiff]
   ·simp only [Env.find_set,q2,reduceIte,Nat.reduceEqDiff]
   ·simp only [Env.find_set,q7,reduceIte,Nat.reduceEqDiff]
   ·simp only [Env.find_set,q8,reduceIte,Nat.reduceEqDiff]
   ·simp only [Env.find_set,reduceIte,Nat.reduceEqDiff];rfl
 ·have d1:decide (M.gd=good)=false:=decide_eq_false h1
  rw [d1] at hsn
  rw [hsn]
  simp (disch:=first|omega|(with_unfolding_all exact rfl)|(simp only[new_n,put_n,new_m];omega)|(refine put_m_le ?_;simp only[new_m];omega)) only [K64r3,K64r4,u3s6,u3s7,u3s8,u3s9,u3s12,u3s13,u3s14,u3s15,Abs.W,reduceIte,Nat.reduceEqDiff,Nat.reduceAdd,decide_true,decide_false,kLoop_def,Nat.reduceSub,List.cons_append,List.nil_append,List.append_nil,List.length_cons,List.length_nil,Env.find_set,Nat.zero_add,q0,q2,q7,q8,q9,xc,xq,d1,ad]
  refine ⟨_,_,rfl,⟨same',by omega,by omega,xm.1,xm.2.1⟩,⟨by simpa using hz.1.imp id xm.2.2.1,by simpa using hμx⟩,?_,?_,?_,?_,?_,by simpa using hJx⟩
  ·simp only [Env.find_set,q0,reduceIte,Nat.reduceEqDiff]
  ·simp only [Env.find_set,q2,reduceIte,Nat.reduceEqDiff]
  ·simp only [Env.find_set,q7,reduceIte,Nat.reduceEqDiff]
  ·simp only [Env.find_set,q8,reduceIte,Nat.reduceEqDiff]
  ·simp only [Env.find_set,reduceIte,Nat.reduceEqDiff];rfl
theorem salesOf1_hands {N p q nb:Nat} {b:Book} {v:AV} {good:Int} {H:Heap} (ok:b.Ok) (hB:RowsAt H nb 6 (b.sales.map Sale.cells) v) (gp:H.get p=some (.cells (bookV b v) (tag 27))) (gq:H.get q=some (.cells [.int .i64 good] (tag 3))) (hp:p<nb) (hq:q<nb) :
  Hands Try.prog X N (N+1) nb 10 H 64 [.ptr p 0,.ptr q 0] (fun s:Sale=>.agg s.cells) (soldOf b.sales good):=by
 intro l k0 w rm own μ J s hT ho hH hnb hl hw hs hJ hwm hm
 have hf:far=1000000000:=rfl
 have kf:=hT.few
 have c1:=ok.l
 have hkm:∀ i,i≤40→(k0+1) * i≤(k0+1) * 40:=fun i hi=>Nat.mul_le_mul_left _ hi
 obtain ⟨v',t,mm,e,⟨rfl,a1,a2,a3,a4,a5,a6,a7,a8⟩,hm'⟩:=call_any (n:=N) (args:=[.yield l,.ptr p 0,.ptr q 0]) (s:=s) (Q:=fun v h n m'=>v=.tup []∧J (soldOf b.sales good) h n∧(∀ y,y<s.n→y≠l→¬ own y→h.get y=s.h.get y)∧s.n≤n∧n≤s.n+(k0+1) * 40∧w≤m'∧m'≤far∧(soldOf b.sales good=[]∨m'≤l)∧μ (soldOf b.sales good) m') Try.func64 rfl (fun u uh un um=>by
  have hBu:RowsAt u.h nb 6 (b.sales.map Sale.cells) v:=hB.grow (fun y hy=>by rw [uh];exact hH y hy) (Nat.le_refl _)
  have gpu:u.h.get p=some (.cells (bookV b v) (tag 27)):=by rw [uh,hH p hp];exact gp
  have gqu:u.h.get q=some (.cells [.int .i64 good] (tag 3)):=by rw [uh,hH q hq];exact gq
  have kv:∀ t,okA (.val v t)=.val v t:=fun t=>okA_ne hBu.ne
  have lv:=hBu.len
  rw [List.length_map] at lv
  have gp':=gpu
  unfold bookV at gp'
  rw [enter64]
  simp (disch:=first|omega|(with_unfolding_all exact rfl)|(simp only[new_n,put_n,new_m];omega)|(refine put_m_le ?_;simp only[new_m];omega)) only [res64,K64r0,K64r1,K64r2,K64r3s15,K64r3s14,K64r3s13,K64r3s12,K64r3s9,K64r3s8,K64r3s7,K64r3s6,K64r3,K64r4,K64,Abs.W,reduceIte,Nat.reduceEqDiff,Nat.reduceAdd,decide_true,decide_false,kLoop_def,Nat.reduceSub,List.cons_append,List.nil_append,List.append_nil,List.length_cons,List.length_nil,gp',kv,lv,Nat.zero_add]
  generalize hlp:loopN _ rounds _ _ _ _ _=rl
  have h0:Bedd u u l w ((k0+1) * 0) own:=⟨fun _ _ _ _=>rfl,Nat.le_refl _,by omega,by omega,by omega⟩
  have hJ0:J (soldOf (b.sales.take 0) good) u.h u.n:=by rw [uh,un];exact hJ
  obtain ⟨e,L1,s1,rfl,rfl,hD,hJ1,hz⟩:=loop_of hlp (fun i L' t'=>L'.find 0=.yield l∧L'.find 2=.ptr q 0∧L'.find 7=v∧L'.find 8=.int .i64 b.sales.length∧L'.find 9=.int .i64 i∧Bedd u t' l w ((k0+1) * i) own∧J (soldOf (b.sales.take i) good) t'.h t'.n∧((soldOf (b.sales.take i) good=[]∨t'.m≤l)∧μ (soldOf (b.sales.take i) good) t'.m))
   (fun e L1 t'=>e=.exit 0∧Bedd u t' l w ((k0+1) * 40) own∧J (soldOf b.sales good) t'.h t'.n∧((soldOf b.sales good=[]∨t'.m≤l)∧μ (soldOf b.sales good) t'.m)) b.sales.length (by unfold rounds;omega)
   ⟨by simp only [Env.find_set,find_cons,reduceIte,Nat.reduceEqDiff],by simp only [Env.find_set,find_cons,reduceIte,Nat.reduceEqDiff],by simp only [Env.find_set,find_cons,reduceIte,Nat.reduceEqDiff],by simp only [Env.find_set,find_cons,reduceIte,Nat.reduceEqDiff],by simp only [Env.find_set,find_cons,reduceIte,Nat.reduceEqDiff];rfl,h0,hJ0,.inl (by rw [List.take_zero];rfl),by rw [List.take_zero];exact hT.nil _⟩
   (fun i L' t' hi ⟨q0,q2,q7,q8,q9,hD,hJi,hz⟩=>by
    have hki:=hkm i (by omega)
    by_cases hlt:i<b.sales.length
    ·obtain ⟨L2,t2,p1,p2,p3,z0,z2,z7,z8,z9,zJ⟩:=sold_round N ⟨64,none,Try.f64.ntmps,X 64⟩ hT ok hBu gqu hq hnb ho (by omega) (by omega) hlt q0 q2 q7 q8 q9 hD hw hz hJi
     have p2':Bedd u t2 l w ((k0+1) * (i+1)) own:=by rw [Nat.mul_succ];exact p2
     exact .inl ⟨hlt,L2,t2,p1,z0,z2,z7,z8,z9,p2',zJ,p3⟩
    ·obtain rfl:i=b.sales.length:=by omega
     have e1:decide ((b.sales.length:Int)<(b.sales.length:Int))=false:=by simp
     rw [List.take_length] at hJi hz
     refine .inr ⟨.exit 0,L'.set 10 (.bool false),t',by simp,?_,rfl,⟨hD.same,hD.n,by have:=hD.le;omega,hD.m,hD.mle⟩,hJi,hz⟩
     simp (disch:=first|omega|(with_unfolding_all exact rfl)|(simp only[new_n,put_n,new_m];omega)|(refine put_m_le ?_;simp only[new_m];omega)) only [res64,K64r0,K64r1,K64r2,K64r3s15,K64r3s14,K64r3s13,K64r3s12,K64r3s9,K64r3s8,K64r3s7,K64r3s6,K64r3,K64r4,K64,K64l0,Abs.W,reduceIte,Nat.reduceEqDiff,Nat.reduceAdd,decide_true,decide_false,kLoop_def,Nat.reduceSub,List.cons_append,List.nil_append,List.append_nil,List.length_cons,List.length_nil,Env.find_set,q8,q9,e1])
  obtain ⟨d1,d2,d3,d4,d5⟩:=hD
  simp (disch:=first|omega|(with_unfolding_all exact rfl)|(simp only[new_n,put_n,new_m];omega)|(refine put_m_le ?_;simp only[new_m];omega)) only [res64,K64r0,K64r1,K64r2,K64r3s15,K64r3s14,K64r3s13,K64r3s12,K64r3s9,K64r3s8,K64r3s7,K64r3s6,K64r3,K64r4,K64,Abs.W,reduceIte,Nat.reduceEqDiff,Nat.reduceAdd,decide_true,decide_false,kLoop_def,Nat.reduceSub,List.cons_append,List.nil_append,List.append_nil,List.length_cons,List.length_nil,Env.find_set,leave_nil]
  refine ⟨_,_,rfl,⟨rfl,hJ1,fun y hy h1 h2=>by rw [d1 y (by omega) h1 h2,uh],by omega,by omega,d4,d5,hz.1,hz.2⟩,fun _ hle=>⟨rfl,?_,fun _ _ _ _=>trivial,Nat.le_refl _,by omega,d4,d5,hz.1,hz.2⟩⟩
  rcases hz.1 with hz | hz
  ·rw [hz];exact hJ
  ·omega)
 have hkk:=hkm 40 (Nat.le_refl _)
 refine ⟨t,e,a1,a2,a3,by omega,?_,?_,?_⟩
 ·rcases hm' with ⟨_,hm'⟩ | ⟨_,hm'⟩<;>omega
 ·rcases hm' with ⟨_,hm'⟩ | ⟨_,hm'⟩<;>omega
 ·rcases hm' with ⟨h1,hm'⟩ | ⟨h1,hm'⟩
  ·rcases a7 with a7 | a7
   ·rw [a7];exact hT.nil _
   ·omega
  ·exact hT.mono _ _ _ (by omega) a8
end Go.Proofs.Ytamlnddeiokbdaa.walk
set_option maxRecDepth 10000
namespace Go.Proofs.Ytamlnddeiokbdaa.walk
open Go.Abs Go.Proofs.Ytamlnddeiokbdaa.code
theorem ind0 (x y:Int) (s:St):indA 2 1 none s (.agg [.int .i64 x,.int .i64 y]) (.int .i64 0)=.val (.int .i64 x) s:=rfl
theorem ind1 (x y:Int) (s:St):indA 2 1 none s (.agg [.int .i64 x,.int .i64 y]) (.int .i64 1)=.val (.int .i64 y) s:=rfl
theorem weighI_snoc (hi:Bool) (x:Sale):∀ p:List Sale,weighI hi (p++[x])=weighI hi p+spanAt hi x.gl x.gh
 | []=>by show spanAt hi x.gl x.gh+0=0+_;omega
 | y::p=>by
  show spanAt hi y.gl y.gh+weighI hi (p++[x])=spanAt hi y.gl y.gh+weighI hi p+_
  rw [weighI_snoc hi x p];omega
def Fine (l:List Sale):Prop:=∀ s ∈ l,0≤s.gl∧s.gl≤s.gh∧s.gh≤5000∧0≤s.cl∧s.cl≤s.ch∧s.ch≤2000
theorem weigh_range (hi:Bool):∀ l:List Sale,Fine l→0≤weighI hi l∧weighI hi l≤5000 * l.length
 | [],_=>by unfold weighI;simp
 | x::r,h=>by
  obtain ⟨a,b⟩:=weigh_range hi r (fun s hs=>h s (List.mem_cons_of_mem _ hs))
  have c:=h x (List.mem_cons_self ..)
  unfold weighI
  rw [List.length_cons]
  cases hi<;>simp only [spanAt]<;>omega
theorem Fine.left {p r:List Sale} (h:Fine (p++r)):Fine p:=fun s hs=>h s (List.mem_append_left _ hs)
theorem endV_cells (hi:Bool):scalars (endV hi)=true:=by cases hi<;>rfl
theorem okA_end (hi:Bool) (s:St):okA (.val (.agg [hereV hi,hereV (!hi)]) s)=.val (.agg [hereV hi,hereV (!hi)]) s:=by cases hi<;>rfl
theorem weighs_ok {M nb cb:Nat} {H:Heap} {g:FuncId} {cap:List AV} {T:List Sale} {s:St} (hi:Bool) (hM:2≤M) (hh:Hands Try.prog X (M+1) (M+2) nb cb H g cap (fun s:Sale=>.agg s.cells) T) (hF:Fine T) (hl:T.length≤40) (hcb:cb≤100) (hH:∀ y,y<nb→s.h.get y=H.get y) (hnb:nb≤s.n) (hs:s.n+200000≤far) :
  call Try.prog X (M+3) (.fn 46) [.agg (endV hi),.func g [] cap] s=.val (.int .i64 (weighI hi T)) s:=by
 have hff:far=1000000000:=rfl
 refine call_plain' (n:=M+2) Try.func46 (fun u uh un um=>?_) rfl
 have scE:=endV_cells hi
 obtain ⟨w,hw⟩:∃ w:St,w=((u.new (.cells (endV hi) (tag 82))).new (.cells [.int .i64 0] (tag 3))).put (u.n+1) (.cells [.int .i64 0] (tag 3)):=⟨_,rfl⟩
 have wn:w.n=u.n+2:=by rw [hw];rfl
 have wm:w.m=min far (u.n+1):=by rw [hw];simp only [St.put,minN_eq,new_m,um]
 have wg:∀ c,c<u.n→w.h.get c=u.h.get c:=fun c hc=>by rw [hw,get_put_ne' _ _ _ _ (by omega),get_new_ne _ _ _ (by rw [new_n];omega),get_new_ne _ _ _ (by omega)]
 have w0:w.h.get u.n=some (.cells [hereV hi,hereV (!hi)] (tag 82)):=by rw [hw,get_put_ne' _ _ _ _ (by omega),get_new_ne _ _ _ (by rw [new_n];omega)];exact get_new_eq _ _ _ rfl (by omega)
 have w1:w.h.get (u.n+1)=some (.cells [.int .i64 0] (tag 3)):=by rw [hw];exact get_put_eq _ _ _ _ rfl (by omega)
 rw [enter46]
 simp (disch:=first|omega|(with_unfolding_all exact rfl)|(simp only[new_n,put_n,new_m];omega)|(refine put_m_le ?_;simp only[new_m];omega)) only [K46,K46r0,K46r1,K46r2,Abs.W,reduceIte,Nat.reduceEqDiff,Nat.reduceAdd,decide_true,decide_false,kLoop_def,Nat.reduceSub,List.cons_append,List.nil_append,List.append_nil,List.length_cons,List.length_nil,Env.find_set,scE,Nat.zero_add]
 simp only [new_n]
 rw [← hw]
 clear hw
 generalize hL:Env.cons 0 _ _=L0
 have f2:L0.find 2=.ptr u.n 0:=by rw [← hL];simp only [find_cons,reduceIte,Nat.reduceEqDiff]
 have f5:L0.find 5=.ptr (u.n+1) 0:=by rw [← hL];simp only [find_cons,reduceIte,Nat.reduceEqDiff]
 have f7:L0.find 7=.func g [] cap:=by rw [← hL];simp only [find_cons,reduceIte,Nat.reduceEqDiff]
 clear hL
 obtain ⟨s',e1,e2,e3,e4,e5,e6,e7,e8,_⟩:=hands_range (P:=Try.prog) (X:=X) (M:=M) (Z:=M+2) hh (f:=.tmp 7) (ps:=[8]) (c:=⟨46,none,Try.f46.ntmps,X 46⟩) (L:=L0) (s:=w) rfl (by rw [ev_tmp,f7]) rfl code46a0 code46b0 10 (u.n+1) 10000 (fun y=>y=u.n+1) (fun _ _=>True) (fun _ _ _ _ _=>trivial) (fun _=>trivial) (fun p h _=>h.get (u.n+1)=some (.cells [.int .i64 (weighI hi p)] (tag 3)))
  (by omega) (fun y hy=>by rw [wg y (by omega),uh];exact hH y hy) (by omega) (fun y hy=>by omega) (by omega) (by omega) (by omega) (by omega) w1 (fun p h h' n n' hb _ hp=>(hb _ (by omega)).trans hp)
  (fun p x rest t ht hp hfr htn htf htm htm' _=>by
   have hT:T=p++x::rest:=ht.symm
   have hFp:Fine p:=by rw [hT] at hF;exact hF.left
   have hx:=hF x (by rw [hT];simp)
   have hpl:p.length+1≤40:=by rw [hT] at hl;simp at hl;omega
   obtain ⟨a0,a1⟩:=weigh_range hi p hFp
   have hsn:=weighI_snoc hi x p
   have hxs:0≤spanAt hi x.gl x.gh∧spanAt hi x.gl x.gh≤5000:=by cases hi<;>simp only [spanAt]<;>omega
   have ad:∀ s,aAdd s .i64 (weighI hi p) (spanAt hi x.gl x.gh)=.val (.int .i64 (weighI hi (p++[x]))) s:=fun s=>by rw [hsn];exact aAdd_i64 s _ _ (by omega)
   obtain ⟨y,hy⟩:∃ y:St,y=(t.new (.cells [.int .i64 0,.int .i64 0,.int .i64 0,.int .i64 0,.int .i64 0,.int .i64 0] (tag 51))).put t.n (.cells [.int .i64 x.st,.int .i64 x.gd,.int .i64 x.gl,.int .i64 x.gh,.int .i64 x.cl,.int .i64 x.ch] (tag 51)):=⟨_,rfl⟩
   have yn:y.n=t.n+1:=by rw [hy];rfl
   have yg:∀ c,c<t.n→y.h.get c=t.h.get c:=fun c hc=>by rw [hy,get_put_ne' _ _ _ _ (by omega),get_new_ne _ _ _ (by omega)]
   have yt:y.h.get t.n=some (.cells [.int .i64 x.st,.int .i64 x.gd,.int .i64 x.gl,.int .i64 x.gh,.int .i64 x.cl,.int .i64 x.ch] (tag 51)):=by rw [hy];exact get_put_eq _ _ _ _ rfl (by omega)
   have ym:y.m=min t.m t.n:=by rw [hy];simp only [St.put,minN_eq,new_m]
   obtain ⟨z,hz⟩:∃ z:St,z=y.put (w.n+1) (.loop { loopO ⟨46,none,Try.f46.ntmps,X 46⟩ L0 [8] (rangeAt Try.f46 0).1 (rangeAt Try.f46 0).2 w with state:=.busy }):=⟨_,rfl⟩
   have zn:z.n=y.n:=by rw [hz];rfl
   have zg:∀ c,c≠w.n+1→z.h.get c=y.h.get c:=fun c hc=>by rw [hz,get_put_ne' _ _ _ _ hc]
   have zl:z.h.get (w.n+1)=some (.loop { loopO ⟨46,none,Try.f46.ntmps,X 46⟩ L0 [8] (rangeAt Try.f46 0).1 (rangeAt Try.f46 0).2 w with state:=.busy }):=by rw [hz];exact get_put_eq _ _ _ _ rfl (by omega)
   have zm:z.m=min y.m (w.n+1):=by rw [hz];simp only [St.put,minN_eq]
   have z0:=(zg u.n (by omega)).trans ((yg u.n (by omega)).trans ((hfr u.n (by omega) (by omega)).trans w0))
   have z1:=(zg (u.n+1) (by omega)).trans ((yg (u.n+1) (by omega)).trans hp)
   have zt:=(zg t.n (by omega)).trans yt
   have so:∀ s:St,s.n+1000≤far→call Try.prog X M (.fn 62) [.agg [hereV hi,hereV (!hi)],.agg [.int .i64 x.st,.int .i64 x.gd,.int .i64 x.gl,.int .i64 x.gh,.int .i64 x.cl,.int .i64 x.ch]] s=.val (.agg [.int .i64 (spanAt hi x.gl x.gh),.int .i64 (spanAt hi x.cl x.ch)]) s:=fun s hs=>sale_ok M (by omega) hi x s hs
   have zmf:z.m≤far:=by omega
   refine ⟨(L0.set 8 (.agg x.cells)).set 6 (.ptr t.n 0),y,(L0.set 8 (.agg x.cells)).set 6 (.ptr t.n 0),z.put (u.n+1) (.cells [.int .i64 (weighI hi (p++[x]))] (tag 3)),?_,yg _ (by omega),?_,get_put_eq _ _ _ _ rfl (by omega),?_,fun c hc h1 h2=>?_,by rw [put_n];omega,by rw [put_n];omega,?_,?_,trivial⟩
   ·rw [hy]
    simp (disch:=first|omega|(with_unfolding_all exact rfl)|(simp only[new_n,put_n,new_m];omega)|(refine put_m_le ?_;simp only[new_m];omega)) only [K46a0,K46a0r0,Abs.W,reduceIte,Nat.reduceEqDiff,Nat.reduceAdd,decide_true,decide_false,kLoop_def,Nat.reduceSub,List.cons_append,List.nil_append,List.append_nil,List.length_cons,List.length_nil,setParams1,Sale.cells,Env.find_set,Nat.reduceEqDiff]
   ·rw [← hz]
    simp (disch:=first|omega|(with_unfolding_all exact rfl)|(simp only[new_n,put_n,new_m];omega)|(refine put_m_le ?_;simp only[new_m];omega)) only [K46b0,K46b0r0,Abs.W,reduceIte,Nat.reduceEqDiff,Nat.reduceAdd,decide_true,decide_false,kLoop_def,Nat.reduceSub,List.cons_append,List.nil_append,List.append_nil,List.length_cons,List.length_nil,Env.find_set,Nat.reduceEqDiff,f2,f5,z0,z1,zt,okA_end,so,ind0,ad,endO_nil,Nat.zero_add]
   ·rw [get_put_ne' _ _ _ _ (by omega)];exact zl
   ·rw [get_put_ne' _ _ _ _ h2,zg c h1];exact yg c hc
   ·simp only [St.put,minN_eq];omega
   ·simp only [St.put,minN_eq];omega)
 simp (disch:=first|omega|(with_unfolding_all exact rfl)|(simp only[new_n,put_n,new_m];omega)|(refine put_m_le ?_;simp only[new_m];omega)) only [K46r3,Abs.W,reduceIte,Nat.reduceEqDiff,Nat.reduceAdd,decide_true,decide_false,kLoop_def,Nat.reduceSub,List.cons_append,List.nil_append,List.append_nil,List.length_cons,List.length_nil,e1,Env.find_set,f5,e2]
 have ed:s'.h.get w.n=some .dfr:=e4
 rw [leave_dfr _ _ _ _ _ ed]
 simp (disch:=first|omega|(with_unfolding_all exact rfl)|(simp only[new_n,put_n,new_m];omega)|(refine put_m_le ?_;simp only[new_m];omega)) only [res46,Abs.W,reduceIte,Nat.reduceEqDiff,Nat.reduceAdd,decide_true,decide_false,kLoop_def,Nat.reduceSub,List.cons_append,List.nil_append,List.append_nil,List.length_cons,List.length_nil,Env.find_set]
 refine ⟨_,rfl,?_⟩
 simp only [St.kill,minN_eq];omega
end Go.Proofs.Ytamlnddeiokbdaa.walk
set_option maxRecDepth 10000
namespace Go.Proofs.Ytamlnddeiokbdaa.walk
open Go.Abs Go.Proofs.Ytamlnddeiokbdaa.code
def triedG (hi:Bool) (M:Sale) (p:Int):Int:=if spanAt hi M.cl M.ch≤p then spanAt (!hi) M.gl M.gh else spanAt hi M.gl M.gh
theorem tried_ok (N:Nat) (hN:3≤N) (hi:Bool) (M:Sale) (p:Int) (s:St) (hs:s.n+2000≤far):call Try.prog X N (.fn 66) [.agg (endV hi),.agg M.cells,.int .i64 p] s=.val (.agg [.int .i64 (triedG hi M p),.int .i64 (spanAt hi M.cl M.ch)]) s:=by
 obtain ⟨n,rfl⟩:∃ n,N=n+1:=⟨N - 1,by omega⟩
 have hf:far=1000000000:=rfl
 have sh2:shapeT Try.prog 103=some (some 2):=by kernel_rfl
 refine call_plain' Try.func66 (fun u uh un um=>?_) rfl
 have scE:=endV_cells hi
 have so:∀ s:St,s.n+1000≤far→call Try.prog X n (.fn 62) [.agg [hereV hi,hereV (!hi)],.agg [.int .i64 M.st,.int .i64 M.gd,.int .i64 M.gl,.int .i64 M.gh,.int .i64 M.cl,.int .i64 M.ch]] s=.val (.agg [.int .i64 (spanAt hi M.gl M.gh),.int .i64 (spanAt hi M.cl M.ch)]) s:=fun s hs=>sale_ok n (by omega) hi M s hs
 obtain ⟨w,hw⟩:∃ w:St,w=((u.new (.cells (endV hi) (tag 82))).new (.cells M.cells (tag 51))).new (.cells [.int .i64 0,.int .i64 0] (tag 103)):=⟨_,rfl⟩
 have wn:w.n=u.n+3:=by rw [hw];rfl
 have wm:w.m=far:=by rw [hw];exact um
 have w0:w.h.get u.n=some (.cells [hereV hi,hereV (!hi)] (tag 82)):=by rw [hw,get_new_ne _ _ _ (by simp only [new_n];omega),get_new_ne _ _ _ (by simp only [new_n];omega)];exact get_new_eq _ _ _ rfl (by omega)
 have w1:w.h.get (u.n+1)=some (.cells [.int .i64 M.st,.int .i64 M.gd,.int .i64 M.gl,.int .i64 M.gh,.int .i64 M.cl,.int .i64 M.ch] (tag 51)):=by rw [hw,get_new_ne _ _ _ (by simp only [new_n];omega)];exact get_new_eq _ _ _ rfl (by simp only [new_n];omega)
 have w2:w.h.get (u.n+2)=some (.cells [.int .i64 0,.int .i64 0] (tag 103)):=by rw [hw];exact get_new_eq _ _ _ rfl (by simp only [new_n];omega)
 obtain ⟨x,hx⟩:∃ x:St,x=(w.new (.cells [.int .i64 0,.int .i64 0] (tag 103))).put w.n (.cells [.int .i64 (spanAt hi M.gl M.gh),.int .i64 (spanAt hi M.cl M.ch)] (tag 103)):=⟨_,rfl⟩
 have xn:x.n=w.n+1:=by rw [hx];rfl
 have xm:x.m=min far w.n:=by rw [hx];simp only [St.put,minN_eq,new_m,wm]
 have xg:∀ c,c<w.n→x.h.get c=w.h.get c:=fun c hc=>by rw [hx,get_put_ne' _ _ _ _ (by omega),get_new_ne _ _ _ (by omega)]
 have xt:x.h.get w.n=some (.cells [.int .i64 (spanAt hi M.gl M.gh),.int .i64 (spanAt hi M.cl M.ch)] (tag 103)):=by rw [hx];exact get_put_eq _ _ _ _ rfl (by omega)
 have x0:=(xg u.n (by omega)).trans w0
 have x1:=(xg (u.n+1) (by omega)).trans w1
 have x2:=(xg (u.n+2) (by omega)).trans w2
 have scM:scalars M.cells=true:=rfl
 rw [enter66]
 simp (disch:=first|omega|(with_unfolding_all exact rfl)|(simp only[new_n,put_n,new_m];omega)|(refine put_m_le ?_;simp only[new_m];omega)) only [K66,K66r0,Abs.W,reduceIte,Nat.reduceEqDiff,Nat.reduceAdd,decide_true,decide_false,kLoop_def,Nat.reduceSub,List.cons_append,List.nil_append,List.append_nil,List.length_cons,List.length_nil,Env.find_set,scE,scM,Nat.zero_add]
 simp only [new_n]
 rw [← hw]
 clear hw
 simp (disch:=first|omega|(with_unfolding_all exact rfl)|(simp only[new_n,put_n,new_m];omega)|(refine put_m_le ?_;simp only[new_m];omega)) only [K66r1,Abs.W,reduceIte,Nat.reduceEqDiff,Nat.reduceAdd,decide_true,decide_false,kLoop_def,Nat.reduceSub,List.cons_append,List.nil_append,List.append_nil,List.length_cons,List.length_nil,Env.find_set,w0,w1,okA_end,so,Nat.zero_add]
 rw [← hx]
 clear hx
 by_cases hp:spanAt hi M.cl M.ch≤p
 ·have d:decide (spanAt hi M.cl M.ch≤p)=true:=decide_eq_true hp
  have hT:triedG hi M p=spanAt (!hi) M.gl M.gh:=by unfold triedG;rw [if_pos hp]
  rw [hT]
  have th:∀ s:St,s.n+100≤far→callV (call Try.prog X n) [.agg [.int .i64 M.gl,.int .i64 M.gh]] s (hereV (!hi))=.val (.int .i64 (spanAt (!hi) M.gl M.gh)) s:=fun s hs=>by
   cases hi
   ·show callV _ _ s (.func 61 [] [])=_
    rw [callV_func];exact hi_ok n (by omega) _ _ s hs
   ·show callV _ _ s (.func 60 [] [])=_
    rw [callV_func];exact lo_ok n (by omega) _ _ s hs
  have okh:∀ s,okA (.val (hereV (!hi)) s)=.val (hereV (!hi)) s:=fun s=>by cases hi<;>rfl
  simp (disch:=first|omega|(with_unfolding_all exact rfl)|(simp only[new_n,put_n,new_m];omega)|(refine put_m_le ?_;simp only[new_m];omega)) only [res66,K66r0,K66r1,K66r2,K66r3,K66r4,K66,Abs.W,reduceIte,Nat.reduceEqDiff,Nat.reduceAdd,decide_true,decide_false,kLoop_def,Nat.reduceSub,List.cons_append,List.nil_append,List.append_nil,List.length_cons,List.length_nil,Env.find_set,ixa2_0,ixa2_1,xt,x0,x1,x2,d,okh,th,Nat.zero_add]
  refine ⟨_,leave_cell _ _ _ _ sh2 ?_,?_⟩
  ·simp only [find_cons,reduceIte,Nat.reduceEqDiff]
   rw [load_ptr,get_put_eq _ _ _ _ rfl (by omega),loadO_cells,partS_some]
   rfl
  ·simp only [St.put,minN_eq];omega
 ·have d:decide (spanAt hi M.cl M.ch≤p)=false:=decide_eq_false hp
  have hT:triedG hi M p=spanAt hi M.gl M.gh:=by unfold triedG;rw [if_neg hp]
  rw [hT]
  simp (disch:=first|omega|(with_unfolding_all exact rfl)|(simp only[new_n,put_n,new_m];omega)|(refine put_m_le ?_;simp only[new_m];omega)) only [res66,K66r0,K66r1,K66r2,K66r3,K66r4,K66,Abs.W,reduceIte,Nat.reduceEqDiff,Nat.reduceAdd,decide_true,decide_false,kLoop_def,Nat.reduceSub,List.cons_append,List.nil_append,List.append_nil,List.length_cons,List.length_nil,Env.find_set,ixa2_0,ixa2_1,xt,x0,x1,x2,d,Nat.zero_add]
  refine ⟨_,leave_cell _ _ _ _ sh2 ?_,?_⟩
  ·simp only [find_cons,reduceIte,Nat.reduceEqDiff]
   rw [load_ptr,get_put_eq _ _ _ _ rfl (by omega),loadO_cells,partS_some]
   rfl
  ·simp only [St.put,minN_eq];omega
theorem cheap_snoc (hi:Bool) (q:Int) (x:Sale):∀ p:List Sale,cheapI hi q (p++[x])=cheapI hi q p+(if spanAt hi x.cl x.ch≤q then spanAt (!hi) x.gl x.gh else 0)
 | []=>by show _+0=0+_;omega
 | y::p=>by
  show _+cheapI hi q (p++[x])=_+cheapI hi q p+_
  rw [cheap_snoc hi q x p];omega
theorem dear_snoc (hi:Bool) (q:Int) (x:Sale):∀ p:List Sale,dearI hi q (p++[x])=dearI hi q p+(if spanAt hi x.cl x.ch≤q then 0 else spanAt hi x.gl x.gh)
 | []=>by show _+0=0+_;omega
 | y::p=>by
  show _+dearI hi q (p++[x])=_+dearI hi q p+_
  rw [dear_snoc hi q x p];omega
theorem cheap_range (hi:Bool) (q:Int):∀ l:List Sale,Fine l→(0≤cheapI hi q l∧cheapI hi q l≤5000 * l.length)∧0≤dearI hi q l∧dearI hi q l≤5000 * l.length
 | [],_=>by unfold cheapI dearI;simp
 | x::r,h=>by
  obtain ⟨⟨a,b⟩,a',b'⟩:=cheap_range hi q r (fun s hs=>h s (List.mem_cons_of_mem _ hs))
  have c:=h x (List.mem_cons_self ..)
  unfold cheapI dearI
  rw [List.length_cons]
  cases hi<;>simp only [spanAt,Bool.not_true,Bool.not_false]<;>split<;>omega
theorem enough_ok {M nb cb p2 p3 z2 z3:Nat} {H:Heap} {g:FuncId} {cap:List AV} {T:List Sale} {s:St} (hi:Bool) (q:Int) (hM:4≤M) (hh:Hands Try.prog X (M+1) (M+2) nb cb H g cap (fun s:Sale=>.agg s.cells) T) (hF:Fine T) (hl:T.length≤40) (hcb:cb≤100) (hH:∀ y,y<nb→s.h.get y=H.get y) (hnb:nb≤s.n)
  (h2:s.h.get p2=some (.cells [hereV hi,hereV (!hi)] z2)) (h3:s.h.get p3=some (.cells [.func g [] cap] z3)) (n2:p2<s.n) (n3:p3<s.n) (hs:s.n+200000≤far) :
  call Try.prog X (M+3) (.fn 65) [.int .i64 q,.ptr p3 0,.ptr p2 0] s=.val (.bool (enoughI hi T q)) s:=by
 have hff:far=1000000000:=rfl
 refine call_plain' (n:=M+2) Try.func65 (fun u uh un um=>?_) rfl
 rw [← uh] at h2 h3
 rw [← un] at n2 n3 hnb hs
 obtain ⟨w,hw⟩:∃ w:St,w=((((u.new (.cells [.int .i64 q] (tag 3))).new (.cells [.int .i64 0] (tag 3))).new (.cells [.int .i64 0] (tag 3))).put (u.n+1) (.cells [.int .i64 0] (tag 3))).put (u.n+2) (.cells [.int .i64 0] (tag 3)):=⟨_,rfl⟩
 have wn:w.n=u.n+3:=by rw [hw];rfl
 have wm:w.m=min (min far (u.n+1)) (u.n+2):=by rw [hw];simp only [St.put,minN_eq,new_m,um]
 have wg:∀ c,c<u.n→w.h.get c=u.h.get c:=fun c hc=>by rw [hw,get_put_ne' _ _ _ _ (by omega),get_put_ne' _ _ _ _ (by omega),get_new_ne _ _ _ (by simp only [new_n];omega),get_new_ne _ _ _ (by simp only [new_n];omega),get_new_ne _ _ _ (by omega)]
 have w0:w.h.get u.n=some (.cells [.int .i64 q] (tag 3)):=by rw [hw,get_put_ne' _ _ _ _ (by omega),get_put_ne' _ _ _ _ (by omega),get_new_ne _ _ _ (by simp only [new_n];omega),get_new_ne _ _ _ (by simp only [new_n];omega)];exact get_new_eq _ _ _ rfl (by omega)
 have w1:w.h.get (u.n+1)=some (.cells [.int .i64 0] (tag 3)):=by rw [hw,get_put_ne' _ _ _ _ (by omega)];exact get_put_eq _ _ _ _ rfl (by omega)
 have w2:w.h.get (u.n+2)=some (.cells [.int .i64 0] (tag 3)):=by rw [hw];exact get_put_eq _ _ _ _ rfl (by omega)
 have w3:=(wg p3 n3).trans h3
 rw [enter65]
 simp (disch:=first|omega|(with_unfolding_all exact rfl)|(simp only[new_n,put_n,new_m];omega)|(refine put_m_le ?_;simp only[new_m];omega)) only [K65,K65r0,K65r1,Abs.W,reduceIte,Nat.reduceEqDiff,Nat.reduceAdd,decide_true,decide_false,kLoop_def,Nat.reduceSub,List.cons_append,List.nil_append,List.append_nil,List.length_cons,List.length_nil,boxIntE,Env.find_set,Nat.zero_add]
 try simp only [new_n]
 rw [← hw]
 clear hw
 simp (disch:=first|omega|(with_unfolding_all exact rfl)|(simp only[new_n,put_n,new_m];omega)|(refine put_m_le ?_;simp only[new_m];omega)) only [K65r2,Abs.W,reduceIte,Nat.reduceEqDiff,Nat.reduceAdd,decide_true,decide_false,kLoop_def,Nat.reduceSub,List.cons_append,List.nil_append,List.append_nil,List.length_cons,List.length_nil,Env.find_set,w3,okA_fnv]
 generalize hL:Env.cons 0 _ _=L0
 have f2:L0.find 2=.ptr p2 0:=by rw [← hL];simp only [find_cons,reduceIte,Nat.reduceEqDiff]
 have f3:L0.find 3=.ptr u.n 0:=by rw [← hL];simp only [find_cons,reduceIte,Nat.reduceEqDiff]
 have f5:L0.find 5=.ptr (u.n+1) 0:=by rw [← hL];simp only [find_cons,reduceIte,Nat.reduceEqDiff]
 have f6:L0.find 6=.ptr (u.n+2) 0:=by rw [← hL];simp only [find_cons,reduceIte,Nat.reduceEqDiff]
 have f9:L0.find 9=.func g [] cap:=by rw [← hL];simp only [find_cons,reduceIte,Nat.reduceEqDiff]
 clear hL
 obtain ⟨s',e1,⟨e2,e2'⟩,e3,e4,e5,e6,e7,e8,_⟩:=hands_range (P:=Try.prog) (X:=X) (M:=M) (Z:=M+2) hh (f:=.tmp 9) (ps:=[10]) (c:=⟨65,none,Try.f65.ntmps,X 65⟩) (L:=L0) (s:=w) rfl (by rw [ev_tmp,f9]) rfl code65a0 code65b0 10 (u.n+1) 10000 (fun y=>y=u.n+1∨y=u.n+2) (fun _ _=>True) (fun _ _ _ _ _=>trivial) (fun _=>trivial) (fun p h _=>h.get (u.n+1)=some (.cells [.int .i64 (cheapI hi q p)] (tag 3))∧h.get (u.n+2)=some (.cells [.int .i64 (dearI hi q p)] (tag 3)))
  (by omega) (fun y hy=>by rw [wg y (by omega),uh];exact hH y hy) (by omega) (fun y hy=>by omega) (by omega) (by omega) (by omega) (by omega) ⟨w1,w2⟩ (fun p h h' n n' hb _ ⟨hp,hp'⟩=>⟨(hb _ (by omega)).trans hp,(hb _ (by omega)).trans hp'⟩)
  (fun p x rest t ht ⟨hp,hp'⟩ hfr htn htf htm htm' _=>by
   have hT:T=p++x::rest:=ht.symm
   have hFp:Fine p:=by rw [hT] at hF;exact hF.left
   have hx:=hF x (by rw [hT];simp)
   have hpl:p.length+1≤40:=by rw [hT] at hl;simp at hl;omega
   obtain ⟨⟨a0,a1⟩,a2,a3⟩:=cheap_range hi q p hFp
   have hs1:=cheap_snoc hi q x p
   have hs2:=dear_snoc hi q x p
   have hxs:0≤spanAt hi x.gl x.gh∧spanAt hi x.gl x.gh≤5000:=by cases hi<;>simp only [spanAt]<;>omega
   have hxs':0≤spanAt (!hi) x.gl x.gh∧spanAt (!hi) x.gl x.gh≤5000:=by cases hi<;>simp only [spanAt,Bool.not_true,Bool.not_false]<;>omega
   obtain ⟨y,hy⟩:∃ y:St,y=(t.new (.cells [.int .i64 0,.int .i64 0,.int .i64 0,.int .i64 0,.int .i64 0,.int .i64 0] (tag 51))).put t.n (.cells [.int .i64 x.st,.int .i64 x.gd,.int .i64 x.gl,.int .i64 x.gh,.int .i64 x.cl,.int .i64 x.ch] (tag 51)):=⟨_,rfl⟩
   have yn:y.n=t.n+1:=by rw [hy];rfl
   have yg:∀ c,c<t.n→y.h.get c=t.h.get c:=fun c hc=>by rw [hy,get_put_ne' _ _ _ _ (by omega),get_new_ne _ _ _ (by omega)]
   have yt:y.h.get t.n=some (.cells [.int .i64 x.st,.int .i64 x.gd,.int .i64 x.gl,.int .i64 x.gh,.int .i64 x.cl,.int .i64 x.ch] (tag 51)):=by rw [hy];exact get_put_eq _ _ _ _ rfl (by omega)
   have ym:y.m=min t.m t.n:=by rw [hy];simp only [St.put,minN_eq,new_m]
   obtain ⟨z,hz⟩:∃ z:St,z=y.put (w.n+1) (.loop { loopO ⟨65,none,Try.f65.ntmps,X 65⟩ L0 [10] (rangeAt Try.f65 0).1 (rangeAt Try.f65 0).2 w with state:=.busy }):=⟨_,rfl⟩
   have zn:z.n=y.n:=by rw [hz];rfl
   have zg:∀ c,c≠w.n+1→z.h.get c=y.h.get c:=fun c hc=>by rw [hz,get_put_ne' _ _ _ _ hc]
   have zl:z.h.get (w.n+1)=some (.loop { loopO ⟨65,none,Try.f65.ntmps,X 65⟩ L0 [10] (rangeAt Try.f65 0).1 (rangeAt Try.f65 0).2 w with state:=.busy }):=by rw [hz];exact get_put_eq _ _ _ _ rfl (by omega)
   have zm:z.m=min y.m (w.n+1):=by rw [hz];simp only [St.put,minN_eq]
   have z2':=(zg p2 (by omega)).trans ((yg p2 (by omega)).trans ((hfr p2 (by omega) (by omega)).trans ((wg p2 n2).trans h2)))
   have z0:=(zg u.n (by omega)).trans ((yg u.n (by omega)).trans ((hfr u.n (by omega) (by omega)).trans w0))
   have zt:=(zg t.n (by omega)).trans yt
   have tr:∀ s:St,s.n+2000≤far→call Try.prog X M (.fn 66) [.agg [hereV hi,hereV (!hi)],.agg [.int .i64 x.st,.int .i64 x.gd,.int .i64 x.gl,.int .i64 x.gh,.int .i64 x.cl,.int .i64 x.ch],.int .i64 q] s=.val (.agg [.int .i64 (triedG hi x q),.int .i64 (spanAt hi x.cl x.ch)]) s:=fun s hs=>tried_ok M (by omega) hi x q s hs
   obtain ⟨v,hv⟩:∃ v:St,v=(z.new (.cells [.int .i64 0,.int .i64 0] (tag 103))).put z.n (.cells [.int .i64 (triedG hi x q),.int .i64 (spanAt hi x.cl x.ch)] (tag 103)):=⟨_,rfl⟩
   have vn:v.n=z.n+1:=by rw [hv];rfl
   have vg:∀ c,c<z.n→v.h.get c=z.h.get c:=fun c hc=>by rw [hv,get_put_ne' _ _ _ _ (by omega),get_new_ne _ _ _ (by omega)]
   have vt:v.h.get z.n=some (.cells [.int .i64 (triedG hi x q),.int .i64 (spanAt hi x.cl x.ch)] (tag 103)):=by rw [hv];exact get_put_eq _ _ _ _ rfl (by omega)
   have vm:v.m=min z.m z.n:=by rw [hv];simp only [St.put,minN_eq,new_m]
   have v1:=(vg (u.n+1) (by omega)).trans ((zg (u.n+1) (by omega)).trans ((yg (u.n+1) (by omega)).trans hp))
   have v2:=(vg (u.n+2) (by omega)).trans ((zg (u.n+2) (by omega)).trans ((yg (u.n+2) (by omega)).trans hp'))
   have v0:=(vg u.n (by omega)).trans z0
   have vl:=(vg (w.n+1) (by omega)).trans zl
   have vy:∀ c,c<t.n→c≠w.n+1→v.h.get c=t.h.get c:=fun c hc h1=>(vg c (by omega)).trans ((zg c h1).trans (yg c hc))
   have hA:K65a0 (call Try.prog X M) ⟨65,some (w.n+1),Try.f65.ntmps,X 65⟩ (setParams L0 [10] [.agg x.cells]) [] t=.done .norm ((L0.set 10 (.agg x.cells)).set 7 (.ptr t.n 0)) [] y:=by
    rw [hy]
    simp (disch:=first|omega|(with_unfolding_all exact rfl)|(simp only[new_n,put_n,new_m];omega)|(refine put_m_le ?_;simp only[new_m];omega)) only [K65a0,K65a0r0,Abs.W,reduceIte,Nat.reduceEqDiff,Nat.reduceAdd,decide_true,decide_false,kLoop_def,Nat.reduceSub,List.cons_append,List.nil_append,List.append_nil,List.length_cons,List.length_nil,setParams1,Sale.cells,Env.find_set,Nat.reduceEqDiff]
   by_cases hc:spanAt hi x.cl x.ch≤q
   ·have d:decide (spanAt hi x.cl x.ch≤q)=true:=decide_eq_true hc
    rw [if_pos hc] at hs1 hs2
    have hG:triedG hi x q=spanAt (!hi) x.gl x.gh:=by unfold triedG;rw [if_pos hc]
    have ad:∀ s,aAdd s .i64 (cheapI hi q p) (triedG hi x q)=.val (.int .i64 (cheapI hi q (p++[x]))) s:=fun s=>by rw [hs1,hG];exact aAdd_i64 s _ _ (by omega)
    rw [Int.add_zero] at hs2
    refine ⟨_,y,((L0.set 10 (.agg x.cells)).set 7 (.ptr t.n 0)).set 8 (.ptr z.n 0) |>.set 18 (.bool true),v.put (u.n+1) (.cells [.int .i64 (cheapI hi q (p++[x]))] (tag 3)),hA,yg _ (by omega),?_,⟨get_put_eq _ _ _ _ rfl (by omega),?_⟩,?_,fun c hc h1 h2=>?_,by rw [put_n];omega,by rw [put_n];omega,?_,?_,trivial⟩
    ·rw [← hz]
     simp (disch:=first|omega|(with_unfolding_all exact rfl)|(simp only[new_n,put_n,new_m];omega)|(refine put_m_le ?_;simp only[new_m];omega)) only [K65b0,K65b0r0,Abs.W,reduceIte,Nat.reduceEqDiff,Nat.reduceAdd,decide_true,decide_false,kLoop_def,Nat.reduceSub,List.cons_append,List.nil_append,List.append_nil,List.length_cons,List.length_nil,Env.find_set,Nat.reduceEqDiff,f2,f3,f5,f6,z0,z2',zt,okA_end,tr,Nat.zero_add]
     rw [← hv]
     simp (disch:=first|omega|(with_unfolding_all exact rfl)|(simp only[new_n,put_n,new_m];omega)|(refine put_m_le ?_;simp only[new_m];omega)) only [K65b0r1,K65b0r2,Abs.W,reduceIte,Nat.reduceEqDiff,Nat.reduceAdd,decide_true,decide_false,kLoop_def,Nat.reduceSub,List.cons_append,List.nil_append,List.append_nil,List.length_cons,List.length_nil,Env.find_set,Nat.reduceEqDiff,f2,f3,f5,f6,ixa2_0,ixa2_1,vt,v0,v1,v2,d,ad,Nat.zero_add]
    ·rw [get_put_ne' _ _ _ _ (by omega),hs2];exact v2
    ·rw [get_put_ne' _ _ _ _ (by omega)];exact vl
    ·rw [get_put_ne' _ _ _ _ (by omega)];exact vy c hc h1
    ·simp only [St.put,minN_eq];omega
    ·simp only [St.put,minN_eq];omega
   ·have d:decide (spanAt hi x.cl x.ch≤q)=false:=decide_eq_false hc
    rw [if_neg hc] at hs1 hs2
    have hG:triedG hi x q=spanAt hi x.gl x.gh:=by unfold triedG;rw [if_neg hc]
    have ad:∀ s,aAdd s .i64 (dearI hi q p) (triedG hi x q)=.val (.int .i64 (dearI hi q (p++[x]))) s:=fun s=>by rw [hs2,hG];exact aAdd_i64 s _ _ (by omega)
    rw [Int.add_zero] at hs1
    refine ⟨_,y,((L0.set 10 (.agg x.cells)).set 7 (.ptr t.n 0)).set 8 (.ptr z.n 0) |>.set 18 (.bool false),v.put (u.n+2) (.cells [.int .i64 (dearI hi q (p++[x]))] (tag 3)),hA,yg _ (by omega),?_,⟨?_,get_put_eq _ _ _ _ rfl (by omega)⟩,?_,fun c hc h1 h2=>?_,by rw [put_n];omega,by rw [put_n];omega,?_,?_,trivial⟩
    ·rw [← hz]
     simp (disch:=first|omega|(with_unfolding_all exact rfl)|(simp only[new_n,put_n,new_m];omega)|(refine put_m_le ?_;simp only[new_m];omega)) only [K65b0,K65b0r0,Abs.W,reduceIte,Nat.reduceEqDiff,Nat.reduceAdd,decide_true,decide_false,kLoop_def,Nat.reduceSub,List.cons_append,List.nil_append,List.append_nil,List.length_cons,List.length_nil,Env.find_set,Nat.reduceEqDiff,f2,f3,f5,f6,z0,z2',zt,okA_end,tr,Nat.zero_add]
     rw [← hv]
     simp (disch:=first|omega|(with_unfolding_all exact rfl)|(simp only[new_n,put_n,new_m];omega)|(refine put_m_le ?_;simp only[new_m];omega)) only [K65b0r1,K65b0r3,Abs.W,reduceIte,Nat.reduceEqDiff,Nat.reduceAdd,decide_true,decide_false,kLoop_def,Nat.reduceSub,List.cons_append,List.nil_append,List.append_nil,List.length_cons,List.length_nil,Env.find_set,Nat.reduceEqDiff,f2,f3,f5,f6,ixa2_0,ixa2_1,vt,v0,v1,v2,d,ad,Nat.zero_add]
    ·rw [get_put_ne' _ _ _ _ (by omega),hs1];exact v1
    ·rw [get_put_ne' _ _ _ _ (by omega)];exact vl
    ·rw [get_put_ne' _ _ _ _ (by omega)];exact vy c hc h1
    ·simp only [St.put,minN_eq];omega
    ·simp only [St.put,minN_eq];omega)
 have hE:enoughI hi T q=decide (dearI hi q T≤cheapI hi q T):=rfl
 rw [hE]
 simp (disch:=first|omega|(with_unfolding_all exact rfl)|(simp only[new_n,put_n,new_m];omega)|(refine put_m_le ?_;simp only[new_m];omega)) only [K65r3,Abs.W,reduceIte,Nat.reduceEqDiff,Nat.reduceAdd,decide_true,decide_false,kLoop_def,Nat.reduceSub,List.cons_append,List.nil_append,List.append_nil,List.length_cons,List.length_nil,e1,Env.find_set,f5,f6,e2,e2']
 have ed:s'.h.get w.n=some .dfr:=e4
 rw [leave_dfr _ _ _ _ _ ed]
 simp (disch:=first|omega|(with_unfolding_all exact rfl)|(simp only[new_n,put_n,new_m];omega)|(refine put_m_le ?_;simp only[new_m];omega)) only [res65,Abs.W,reduceIte,Nat.reduceEqDiff,Nat.reduceAdd,decide_true,decide_false,kLoop_def,Nat.reduceSub,List.cons_append,List.nil_append,List.append_nil,List.length_cons,List.length_nil,Env.find_set]
 refine ⟨_,rfl,?_⟩
 simp only [St.kill,minN_eq];omega
end Go.Proofs.Ytamlnddeiokbdaa.walk
set_option maxRecDepth 10000
namespace Go.Proofs.Ytamlnddeiokbdaa.walk
open Go.Abs Go.Proofs.Ytamlnddeiokbdaa.code
def pricesTo (hi:Bool) (T l:List Sale):List Int:=(l.filter fun s=>enoughI hi T (spanAt hi s.cl s.ch)).map fun s=>spanAt hi s.cl s.ch
theorem pricesTo_app (hi:Bool) (T l r:List Sale):pricesTo hi T (l++r)=pricesTo hi T l++pricesTo hi T r:=by unfold pricesTo;rw [List.filter_append,List.map_append]
theorem pricesTo_yes {hi:Bool} {T:List Sale} {x:Sale} (h:enoughI hi T (spanAt hi x.cl x.ch)=true) (r:List Sale):pricesTo hi T (x::r)=spanAt hi x.cl x.ch::pricesTo hi T r:=by unfold pricesTo;rw [List.filter_cons,if_pos h];rfl
theorem pricesTo_no {hi:Bool} {T:List Sale} {x:Sale} (h:enoughI hi T (spanAt hi x.cl x.ch)=false) (r:List Sale):pricesTo hi T (x::r)=pricesTo hi T r:=by unfold pricesTo;rw [List.filter_cons,if_neg (by rw [h];simp)]
theorem least_tries (hi:Bool) (T:List Sale):∀ (r:List Sale) (st:Bool × Int),r.foldl (tryI hi T) st=(pricesTo hi T r).foldl leastI st
 | [],_=>rfl
 | x::r,st=>by
  rw [List.foldl_cons]
  cases h:enoughI hi T (spanAt hi x.cl x.ch) with
  | true=>rw [pricesTo_yes h,List.foldl_cons,← least_tries hi T r];unfold tryI;rw [if_pos h]
  | false=>rw [pricesTo_no h,← least_tries hi T r];unfold tryI;rw [if_neg (by rw [h];simp)]
theorem boxYE (sz l:Nat) (s:St):boxA sz s (.yield l)=.val (.ptr s.n 0) (s.new (.cells [.yield l] sz)):=Eq.trans (Eq.refl _) (Eq.refl _)
theorem okA_yi (l:Nat) (s:St):okA (.val (.yield l) s)=.val (.yield l) s:=Eq.trans (Eq.refl _) (Eq.refl _)
set_option maxRecDepth 100000 in
theorem price2_hands {M nb nb' cb p2 p3 p5 z2 z3 z5:Nat} {H H':Heap} {g:FuncId} {cap:List AV} {T:List Sale} (hi:Bool) (hM:7≤M) (hh:∀ N,Hands Try.prog X N (N+1) nb cb H g cap (fun s:Sale=>.agg s.cells) T) (hF:Fine T) (hl:T.length≤40) (hcb:cb≤100) (hnn:nb≤nb') (hHH:∀ y,y<nb→H'.get y=H.get y)
  (h2:H'.get p2=some (.cells [hereV hi,hereV (!hi)] z2)) (h3:H'.get p3=some (.cells [.func g [] cap] z3)) (h5:H'.get p5=some (.cells [.func 65 [] [.ptr p3 0,.ptr p2 0]] z5)) (n2:p2<nb') (n3:p3<nb') (n5:p5<nb') :
  Hands Try.prog X M (M+3) nb' 6000 H' 68 [.ptr p3 0,.ptr p2 0,.ptr p5 0] (fun c:Int=>.int .i64 c) (pricesTo hi T T):=by
 intro l k0 w rm own μ J s hT ho hH hnb hll hw hs hJ hwm hm
 have hff:far=1000000000:=rfl
 have kf:=hT.few
 obtain ⟨rq,hrq⟩:∃ rq,rq=rm+300000:=⟨_,rfl⟩
 obtain ⟨v',t,mm,e,⟨rfl,a1,a2,a3,a4,a5,a6,a7,a8⟩,hm'⟩:=call_any (n:=M+2) (args:=[.yield l,.ptr p3 0,.ptr p2 0,.ptr p5 0]) (s:=s) (Q:=fun v h n m'=>v=.tup []∧J (pricesTo hi T T) h n∧(∀ y,y<s.n→y≠l→¬ own y→h.get y=s.h.get y)∧s.n≤n∧n≤s.n+60 * (k0+6000)∧w≤m'∧m'≤far∧(pricesTo hi T T=[]∨m'≤l)∧μ (pricesTo hi T T) m') Try.func68 rfl (fun u uh un um=>by
  have hu:∀ y,y<nb'→u.h.get y=H'.get y:=fun y hy=>by rw [uh];exact hH y hy
  obtain ⟨w0,hw0⟩:∃ w0:St,w0=u.new (.cells [.yield l] (tag 108)):=⟨_,rfl⟩
  have wn:w0.n=u.n+1:=by rw [hw0];rfl
  have wm:w0.m=far:=by rw [hw0];exact um
  have wg:∀ c,c<u.n→w0.h.get c=u.h.get c:=fun c hc=>by rw [hw0,get_new_ne _ _ _ (by omega)]
  have w4:w0.h.get u.n=some (.cells [.yield l] (tag 108)):=by rw [hw0];exact get_new_eq _ _ _ rfl (by omega)
  have wH:∀ y,y<nb'→w0.h.get y=H'.get y:=fun y hy=>(wg y (by omega)).trans (hu y hy)
  have w3:=(wH p3 n3).trans h3
  rw [enter68]
  simp (disch:=first|omega|(with_unfolding_all exact rfl)|(simp only[new_n,put_n,new_m];omega)|(refine put_m_le ?_;simp only[new_m];omega)) only [K68,K68r0,Abs.W,reduceIte,Nat.reduceEqDiff,Nat.reduceAdd,decide_true,decide_false,kLoop_def,Nat.reduceSub,List.cons_append,List.nil_append,List.append_nil,List.length_cons,List.length_nil,boxYE,Env.find_set,Nat.zero_add]
  rw [← hw0]
  clear hw0
  simp (disch:=first|omega|(with_unfolding_all exact rfl)|(simp only[new_n,put_n,new_m];omega)|(refine put_m_le ?_;simp only[new_m];omega)) only [K68r1,Abs.W,reduceIte,Nat.reduceEqDiff,Nat.reduceAdd,decide_true,decide_false,kLoop_def,Nat.reduceSub,List.cons_append,List.nil_append,List.append_nil,List.length_cons,List.length_nil,Env.find_set,w3,okA_fnv]
  generalize hL:Env.cons 0 _ _=L0
  have f2:L0.find 2=.ptr p2 0:=by rw [← hL];simp only [find_cons,reduceIte,Nat.reduceEqDiff]
  have f3:L0.find 3=.ptr p5 0:=by rw [← hL];simp only [find_cons,reduceIte,Nat.reduceEqDiff]
  have f4:L0.find 4=.ptr u.n 0:=by rw [← hL];simp only [find_cons,reduceIte,Nat.reduceEqDiff]
  have f7:L0.find 7=.func g [] cap:=by rw [← hL];simp only [find_cons,reduceIte,Nat.reduceEqDiff]
  clear hL
  obtain ⟨s',e1,e2,e3,e4,e5,e6,e7,e8,e9,e10⟩:=hands_range (P:=Try.prog) (X:=X) (M:=M) (Z:=M+2) (hh (M+1)) (f:=.tmp 7) (ps:=[8]) (c:=⟨68,none,Try.f68.ntmps,X 68⟩) (L:=L0) (s:=w0) rfl (by rw [ev_tmp,f7]) rfl code68a0 code68b0 (k0+10) w rq (fun y=>own y∨y=l) (fun p m=>μ (pricesTo hi T p) m∧(pricesTo hi T p=[]∨m≤l)) (fun p m m' h1 h2=>⟨hT.mono _ _ _ h1 h2.1,h2.2.imp id (fun h=>by omega)⟩) (fun m=>⟨hT.nil m,.inl rfl⟩) (fun p h n=>J (pricesTo hi T p) h n)
   (by omega) (fun y hy=>(wH y (by omega)).trans (hHH y hy)) (by omega) (fun y hy=>by
    rcases hy with hy | hy
    ·have:=ho y hy;omega
    ·omega) (by omega) (by omega) (by omega) (by omega) (hT.keep _ _ _ _ _ (fun y hy=>by rw [wg y (by omega),uh]) (by omega) hJ) (fun p h h' n n' hb hn hp=>hT.keep _ _ _ _ _ (fun y hy=>hb y (by omega)) hn hp)
   (fun p x rest t ht hp hfr htn htf htm htm' hμ=>by
    have hTe:T=p++x::rest:=ht.symm
    have hpx:=pricesTo_app hi T p [x]
    have hpr:=pricesTo_app hi T p (x::rest)
    rw [← hTe] at hpr
    obtain ⟨y,hy⟩:∃ y:St,y=(t.new (.cells [.int .i64 0,.int .i64 0,.int .i64 0,.int .i64 0,.int .i64 0,.int .i64 0] (tag 51))).put t.n (.cells [.int .i64 x.st,.int .i64 x.gd,.int .i64 x.gl,.int .i64 x.gh,.int .i64 x.cl,.int .i64 x.ch] (tag 51)):=⟨_,rfl⟩
    have yn:y.n=t.n+1:=by rw [hy];rfl
    have yg:∀ c,c<t.n→y.h.get c=t.h.get c:=fun c hc=>by rw [hy,get_put_ne' _ _ _ _ (by omega),get_new_ne _ _ _ (by omega)]
    have yt:y.h.get t.n=some (.cells [.int .i64 x.st,.int .i64 x.gd,.int .i64 x.gl,.int .i64 x.gh,.int .i64 x.cl,.int .i64 x.ch] (tag 51)):=by rw [hy];exact get_put_eq _ _ _ _ rfl (by omega)
    have ym:y.m=min t.m t.n:=by rw [hy];simp only [St.put,minN_eq,new_m]
    obtain ⟨z,hz⟩:∃ z:St,z=y.put (w0.n+1) (.loop { loopO ⟨68,none,Try.f68.ntmps,X 68⟩ L0 [8] (rangeAt Try.f68 0).1 (rangeAt Try.f68 0).2 w0 with state:=.busy }):=⟨_,rfl⟩
    have zn:z.n=y.n:=by rw [hz];rfl
    have zg:∀ c,c≠w0.n+1→z.h.get c=y.h.get c:=fun c hc=>by rw [hz,get_put_ne' _ _ _ _ hc]
    have zl:z.h.get (w0.n+1)=some (.loop { loopO ⟨68,none,Try.f68.ntmps,X 68⟩ L0 [8] (rangeAt Try.f68 0).1 (rangeAt Try.f68 0).2 w0 with state:=.busy }):=by rw [hz];exact get_put_eq _ _ _ _ rfl (by omega)
    have zm:z.m=min y.m (w0.n+1):=by rw [hz];simp only [St.put,minN_eq]
    have zy:∀ c,c<t.n→c≠w0.n+1→z.h.get c=t.h.get c:=fun c hc h1=>(zg c h1).trans (yg c hc)
    have nown:∀ y,y<nb'→¬ (own y∨y=l):=fun y hy h=>by
     rcases h with h | h
     ·have:=ho y h;omega
     ·omega
    have zH:∀ c,c<nb'→z.h.get c=H'.get c:=fun c hc=>(zy c (by omega) (by omega)).trans ((hfr c (by omega) (nown c hc)).trans (wH c hc))
    have z2':=(zH p2 n2).trans h2
    have z3':=(zH p3 n3).trans h3
    have z5':=(zH p5 n5).trans h5
    have z4:=(zy u.n (by omega) (by omega)).trans ((hfr u.n (by omega) (fun h=>by
     rcases h with h | h
     ·have:=ho _ h;omega
     ·omega)).trans w4)
    have zt:=(zg t.n (by omega)).trans yt
    have so:∀ s:St,s.n+1000≤far→call Try.prog X M (.fn 62) [.agg [hereV hi,hereV (!hi)],.agg [.int .i64 x.st,.int .i64 x.gd,.int .i64 x.gl,.int .i64 x.gh,.int .i64 x.cl,.int .i64 x.ch]] s=.val (.agg [.int .i64 (spanAt hi x.gl x.gh),.int .i64 (spanAt hi x.cl x.ch)]) s:=fun s hs=>sale_ok M (by omega) hi x s hs
    obtain ⟨M',rfl⟩:∃ M',M=M'+3:=⟨M - 3,by omega⟩
    have en:=enough_ok (M:=M') (nb:=nb) (cb:=cb) (p2:=p2) (p3:=p3) (T:=T) (s:=z) hi (spanAt hi x.cl x.ch) (by omega) (hh (M'+1)) hF hl hcb (fun y hy=>(zH y (by omega)).trans (hHH y hy)) (by omega) z2' z3' (by omega) (by omega) (by omega)
    have hA:K68a0 (call Try.prog X (M'+3)) ⟨68,some (w0.n+1),Try.f68.ntmps,X 68⟩ (setParams L0 [8] [.agg x.cells]) [] t=.done .norm ((L0.set 8 (.agg x.cells)).set 5 (.ptr t.n 0)) [] y:=by
     rw [hy]
     simp (disch:=first|omega|(with_unfolding_all exact rfl)|(simp only[new_n,put_n,new_m];omega)|(refine put_m_le ?_;simp only[new_m];omega)) only [K68a0,K68a0r0,Abs.W,reduceIte,Nat.reduceEqDiff,Nat.reduceAdd,decide_true,decide_false,kLoop_def,Nat.reduceSub,List.cons_append,List.nil_append,List.append_nil,List.length_cons,List.length_nil,setParams1,Sale.cells,Env.find_set,Nat.reduceEqDiff]
    have hJz:J (pricesTo hi T p) z.h z.n:=hT.keep _ _ _ _ _ (fun b hb=>zy b (by omega) (by omega)) (by omega) hp
    have hzm:z.m≤t.m:=by omega
    have hμz:μ (pricesTo hi T p) z.m:=hT.mono _ _ _ hzm hμ.1
    have u1s5:=fun cl L s=>congrFun (congrFun (congrFun K68b0r1s5.eq_1 cl) L) s
    have u1s6:=fun cl L s=>congrFun (congrFun (congrFun K68b0r1s6.eq_1 cl) L) s
    have u1s7:=fun cl L s=>congrFun (congrFun (congrFun K68b0r1s7.eq_1 cl) L) s
    have u1s8:=fun cl L s=>congrFun (congrFun (congrFun K68b0r1s8.eq_1 cl) L) s
    cases hen:enoughI hi T (spanAt hi x.cl x.ch) with
    | true =>
     rw [hen] at en
     have h1:pricesTo hi T [x]=[spanAt hi x.cl x.ch]:=pricesTo_yes hen []
     have h2:pricesTo hi T (x::rest)=spanAt hi x.cl x.ch::pricesTo hi T rest:=pricesTo_yes hen rest
     rw [h1] at hpx
     rw [h2] at hpr
     obtain ⟨s2,k0',k1,k3,k4,k5,k6,k7,k8,k9⟩:=hT.take (pricesTo hi T p) (spanAt hi x.cl x.ch) (pricesTo hi T rest) z hpr.symm hJz (by omega) (by omega) (by omega) (by omega) hμz
     rw [hpx]
     refine ⟨_,y,(((L0.set 8 (.agg x.cells)).set 5 (.ptr t.n 0)).set 6 (.int .i64 (spanAt hi x.cl x.ch))).set 21 (.bool false),s2,hA,yg _ (by omega),?_,k1,(k3 _ (by omega) (by omega) (fun h=>by have:=ho _ h;omega)).trans zl,fun c hc h1 h2=>?_,by omega,by omega,k6,by omega,k9,.inr k8⟩
     ·rw [← hz]
      simp (disch:=first|omega|(with_unfolding_all exact rfl)|(simp only[new_n,put_n,new_m];omega)|(refine put_m_le ?_;simp only[new_m];omega)) only [K68b0,K68b0r0,Abs.W,reduceIte,Nat.reduceEqDiff,Nat.reduceAdd,decide_true,decide_false,kLoop_def,Nat.reduceSub,List.cons_append,List.nil_append,List.append_nil,List.length_cons,List.length_nil,Env.find_set,Nat.reduceEqDiff,f2,f3,f4,z2',zt,okA_end,so,ind1,Nat.zero_add]
      simp (disch:=first|omega|(with_unfolding_all exact rfl)|(simp only[new_n,put_n,new_m];omega)|(refine put_m_le ?_;simp only[new_m];omega)) only [K68b0r1,u1s5,u1s6,u1s7,u1s8,Abs.W,reduceIte,Nat.reduceEqDiff,Nat.reduceAdd,decide_true,decide_false,kLoop_def,Nat.reduceSub,List.cons_append,List.nil_append,List.append_nil,List.length_cons,List.length_nil,Env.find_set,Nat.reduceEqDiff,f2,f3,f4,z5',z4,okA_fnv,okA_yi,en,k0',Nat.zero_add]
     ·rw [k3 c (by omega) (fun h=>h2 (.inr h)) (fun h=>h2 (.inl h))];exact zy c hc h1
    | false =>
     rw [hen] at en
     have h1:pricesTo hi T [x]=[]:=pricesTo_no hen []
     rw [h1,List.append_nil] at hpx
     rw [hpx]
     refine ⟨_,y,(((L0.set 8 (.agg x.cells)).set 5 (.ptr t.n 0)).set 6 (.int .i64 (spanAt hi x.cl x.ch))).set 21 (.bool false),z,hA,yg _ (by omega),?_,hJz,zl,fun c hc h1 h2=>zy c hc h1,by omega,by omega,by omega,hzm,hμz,hμ.2.imp id (fun h=>by omega)⟩
     rw [← hz]
     simp (disch:=first|omega|(with_unfolding_all exact rfl)|(simp only[new_n,put_n,new_m];omega)|(refine put_m_le ?_;simp only[new_m];omega)) only [K68b0,K68b0r0,Abs.W,reduceIte,Nat.reduceEqDiff,Nat.reduceAdd,decide_true,decide_false,kLoop_def,Nat.reduceSub,List.cons_append,List.nil_append,List.append_nil,List.length_cons,List.length_nil,Env.find_set,Nat.reduceEqDiff,f2,f3,f4,z2',zt,okA_end,so,ind1,Nat.zero_add]
     simp (disch:=first|omega|(with_unfolding_all exact rfl)|(simp only[new_n,put_n,new_m];omega)|(refine put_m_le ?_;simp only[new_m];omega)) only [K68b0r1,u1s5,u1s6,u1s7,u1s8,Abs.W,reduceIte,Nat.reduceEqDiff,Nat.reduceAdd,decide_true,decide_false,kLoop_def,Nat.reduceSub,List.cons_append,List.nil_append,List.append_nil,List.length_cons,List.length_nil,Env.find_set,Nat.reduceEqDiff,f2,f3,f4,z5',z4,okA_fnv,okA_yi,en,Nat.zero_add])
  have ed:s'.h.get w0.n=some .dfr:=e4
  simp (disch:=first|omega|(with_unfolding_all exact rfl)|(simp only[new_n,put_n,new_m];omega)|(refine put_m_le ?_;simp only[new_m];omega)) only [Abs.W,reduceIte,Nat.reduceEqDiff,Nat.reduceAdd,decide_true,decide_false,kLoop_def,Nat.reduceSub,List.cons_append,List.nil_append,List.append_nil,List.length_cons,List.length_nil,e1]
  rw [leave_dfr _ _ _ _ _ ed]
  simp (disch:=first|omega|(with_unfolding_all exact rfl)|(simp only[new_n,put_n,new_m];omega)|(refine put_m_le ?_;simp only[new_m];omega)) only [res68,Abs.W,reduceIte,Nat.reduceEqDiff,Nat.reduceAdd,decide_true,decide_false,kLoop_def,Nat.reduceSub,List.cons_append,List.nil_append,List.append_nil,List.length_cons,List.length_nil,leave_nil]
  have kg:∀ c,c≠w0.n→(s'.kill w0.n).h.get c=s'.h.get c:=fun c hc=>get_kill_ne _ _ _ hc
  have km:(s'.kill w0.n).m=min s'.m w0.n:=by simp only [St.kill,minN_eq]
  have kn:(s'.kill w0.n).n=s'.n:=rfl
  have q1:pricesTo hi T T=[]∨(s'.kill w0.n).m≤l:=e10.imp id (fun h=>by omega)
  have q2:μ (pricesTo hi T T) (s'.kill w0.n).m:=hT.mono _ _ _ (by omega) e9
  refine ⟨_,_,rfl,⟨rfl,hT.keep _ _ _ _ _ (fun b hb=>kg b (by omega)) (Nat.le_refl _) e2,fun y hy h1 h2=>?_,by omega,by omega,by omega,by omega,q1,q2⟩,fun _ hle=>⟨rfl,?_,fun _ _ _ _=>trivial,Nat.le_refl _,by omega,by omega,by omega,q1,q2⟩⟩
  ·rw [kg y (by omega),e3 y (by omega) (fun h=>by rcases h with h | h;exact h2 h;exact h1 h),wg y (by omega),uh]
  ·rcases q1 with q1 | q1
   ·rw [q1];exact hJ
   ·omega)
 refine ⟨t,e,a1,a2,a3,a4,?_,?_,?_⟩
 ·rcases hm' with ⟨_,hm'⟩ | ⟨_,hm'⟩<;>omega
 ·rcases hm' with ⟨_,hm'⟩ | ⟨_,hm'⟩<;>omega
 ·rcases hm' with ⟨h1,hm'⟩ | ⟨h1,hm'⟩
  ·rcases a7 with a7 | a7
   ·rw [a7];exact hT.nil _
   ·omega
  ·exact hT.mono _ _ _ (by omega) a8
end Go.Proofs.Ytamlnddeiokbdaa.walk
set_option maxRecDepth 10000
namespace Go.Proofs.Ytamlnddeiokbdaa.walk
open Go.Abs Go.Proofs.Ytamlnddeiokbdaa.code
theorem cellsBool (b:Bool):cellsOf 1 (.bool b)=some [.bool b]:=rfl
def leastQ (p:List Int):Bool × Int:=p.foldl leastI (false,0)
theorem leastQ_snoc (p:List Int) (c:Int):leastQ (p++[c])=leastI (leastQ p) c:=by unfold leastQ;rw [List.foldl_append];rfl
theorem least_ok {M Z nb cb:Nat} {H:Heap} {g:FuncId} {cap:List AV} {T:List Int} {s:St} (hh:Hands Try.prog X (M+1) Z nb cb H g cap (fun c:Int=>.int .i64 c) T) (hcb:cb≤6000) (hH:∀ y,y<nb→s.h.get y=H.get y) (hnb:nb≤s.n) (hs:s.n+1000000≤far) :
  call Try.prog X (Z+1) (.fn 67) [.func g [] cap] s=.val (.int .i64 (leastQ T).2) s:=by
 have hff:far=1000000000:=rfl
 refine call_plain' (n:=Z) Try.func67 (fun u uh un um=>?_) rfl
 obtain ⟨w,hw⟩:∃ w:St,w=((u.new (.cells [.int .i64 0] (tag 3))).new (.cells [.bool false] (tag 4))).put (u.n+1) (.cells [.bool false] (tag 4)):=⟨_,rfl⟩
 have wn:w.n=u.n+2:=by rw [hw];rfl
 have wm:w.m=min far (u.n+1):=by rw [hw];simp only [St.put,minN_eq,new_m,um]
 have wg:∀ c,c<u.n→w.h.get c=u.h.get c:=fun c hc=>by rw [hw,get_put_ne' _ _ _ _ (by omega),get_new_ne _ _ _ (by rw [new_n];omega),get_new_ne _ _ _ (by omega)]
 have w0:w.h.get u.n=some (.cells [.int .i64 0] (tag 3)):=by rw [hw,get_put_ne' _ _ _ _ (by omega),get_new_ne _ _ _ (by rw [new_n];omega)];exact get_new_eq _ _ _ rfl (by omega)
 have w1:w.h.get (u.n+1)=some (.cells [.bool false] (tag 4)):=by rw [hw];exact get_put_eq _ _ _ _ rfl (by omega)
 rw [enter67]
 simp (disch:=first|omega|(with_unfolding_all exact rfl)|(simp only[new_n,put_n,new_m];omega)|(refine put_m_le ?_;simp only[new_m];omega)) only [K67,K67r0,K67r1,K67r2,Abs.W,reduceIte,Nat.reduceEqDiff,Nat.reduceAdd,decide_true,decide_false,kLoop_def,Nat.reduceSub,List.cons_append,List.nil_append,List.append_nil,List.length_cons,List.length_nil,cellsBool,Env.find_set,Nat.zero_add]
 try simp only [new_n]
 rw [← hw]
 clear hw
 simp (disch:=first|omega|(with_unfolding_all exact rfl)|(simp only[new_n,put_n,new_m];omega)|(refine put_m_le ?_;simp only[new_m];omega)) only [K67r3,Abs.W,reduceIte,Nat.reduceEqDiff,Nat.reduceAdd,decide_true,decide_false,kLoop_def,Nat.reduceSub,List.cons_append,List.nil_append,List.append_nil,List.length_cons,List.length_nil,cellsBool,Env.find_set]
 generalize hL:Env.cons 0 _ _=L0
 have f3:L0.find 3=.ptr u.n 0:=by rw [← hL];simp only [find_cons,reduceIte,Nat.reduceEqDiff]
 have f4:L0.find 4=.ptr (u.n+1) 0:=by rw [← hL];simp only [find_cons,reduceIte,Nat.reduceEqDiff]
 have f6:L0.find 6=.func g [] cap:=by rw [← hL];simp only [find_cons,reduceIte,Nat.reduceEqDiff]
 clear hL
 obtain ⟨s',e1,⟨e2,e2'⟩,e3,e4,e5,e6,e7,e8,_⟩:=hands_range (P:=Try.prog) (X:=X) (M:=M) (Z:=Z) hh (f:=.tmp 6) (ps:=[7]) (c:=⟨67,none,Try.f67.ntmps,X 67⟩) (L:=L0) (s:=w) rfl (by rw [ev_tmp,f6]) rfl code67a0 code67b0 10 u.n 10000 (fun y=>y=u.n∨y=u.n+1) (fun _ _=>True) (fun _ _ _ _ _=>trivial) (fun _=>trivial) (fun p h _=>h.get u.n=some (.cells [.int .i64 (leastQ p).2] (tag 3))∧h.get (u.n+1)=some (.cells [.bool (leastQ p).1] (tag 4)))
  (by omega) (fun y hy=>by rw [wg y (by omega),uh];exact hH y hy) (by omega) (fun y hy=>by omega) (by omega) (by omega) (by omega) (by omega) ⟨w0,w1⟩ (fun p h h' n n' hb _ ⟨hp,hp'⟩=>⟨(hb _ (by omega)).trans hp,(hb _ (by omega)).trans hp'⟩)
  (fun p c rest t ht ⟨hp,hp'⟩ hfr htn htf htm htm' _=>by
   have hq:=leastQ_snoc p c
   rw [hq]
   generalize leastQ p=q at *
   obtain ⟨qf,qb⟩:=q
   simp only at hp hp'
   obtain ⟨z,hz⟩:∃ z:St,z=t.put (w.n+1) (.loop { loopO ⟨67,none,Try.f67.ntmps,X 67⟩ L0 [7] (rangeAt Try.f67 0).1 (rangeAt Try.f67 0).2 w with state:=.busy }):=⟨_,rfl⟩
   have zn:z.n=t.n:=by rw [hz];rfl
   have zg:∀ c,c≠w.n+1→z.h.get c=t.h.get c:=fun c hc=>by rw [hz,get_put_ne' _ _ _ _ hc]
   have zl:z.h.get (w.n+1)=some (.loop { loopO ⟨67,none,Try.f67.ntmps,X 67⟩ L0 [7] (rangeAt Try.f67 0).1 (rangeAt Try.f67 0).2 w with state:=.busy }):=by rw [hz];exact get_put_eq _ _ _ _ rfl (by omega)
   have zm:z.m=min t.m (w.n+1):=by rw [hz];simp only [St.put,minN_eq]
   have z0:=(zg u.n (by omega)).trans hp
   have z1:=(zg (u.n+1) (by omega)).trans hp'
   have hA:K67a0 (call Try.prog X M) ⟨67,some (w.n+1),Try.f67.ntmps,X 67⟩ (setParams L0 [7] [.int .i64 c]) [] t=.done .norm ((L0.set 7 (.int .i64 c)).set 5 (.int .i64 c)) [] t:=by
    simp (disch:=first|omega|(with_unfolding_all exact rfl)|(simp only[new_n,put_n,new_m];omega)|(refine put_m_le ?_;simp only[new_m];omega)) only [K67a0,K67a0r0,Abs.W,reduceIte,Nat.reduceEqDiff,Nat.reduceAdd,decide_true,decide_false,kLoop_def,Nat.reduceSub,List.cons_append,List.nil_append,List.append_nil,List.length_cons,List.length_nil,setParams1,Env.find_set,Nat.reduceEqDiff]
   have u0s4:=fun cl L s=>congrFun (congrFun (congrFun K67b0r0s4.eq_1 cl) L) s
   have u0s5:=fun cl L s=>congrFun (congrFun (congrFun K67b0r0s5.eq_1 cl) L) s
   have u0s6:=fun cl L s=>congrFun (congrFun (congrFun K67b0r0s6.eq_1 cl) L) s
   by_cases hb:(!qf || decide (c<qb))=true
   ·have hQ:leastI (qf,qb) c=(true,c):=by unfold leastI;rw [if_pos hb]
    rw [hQ]
    refine ⟨_,t,(((L0.set 7 (.int .i64 c)).set 5 (.int .i64 c)).set 14 (.bool true)),(z.put u.n (.cells [.int .i64 c] (tag 3))).put (u.n+1) (.cells [.bool true] (tag 4)),hA,rfl,?_,⟨?_,get_put_eq _ _ _ _ rfl (by omega)⟩,?_,fun x hc h1 h2=>?_,by simp only [put_n];omega,by simp only [put_n];omega,?_,?_,trivial⟩
    ·rw [← hz]
     cases qf with
     | false=>simp (disch:=first|omega|(with_unfolding_all exact rfl)|(simp only[new_n,put_n,new_m];omega)|(refine put_m_le ?_;simp only[new_m];omega)) only [K67b0,K67b0r0,K67b0r1,u0s4,u0s5,u0s6,Abs.W,reduceIte,Nat.reduceEqDiff,Nat.reduceAdd,decide_true,decide_false,kLoop_def,Nat.reduceSub,List.cons_append,List.nil_append,List.append_nil,List.length_cons,List.length_nil,cellsBool,Env.find_set,Nat.reduceEqDiff,f3,f4,z0,z1,Nat.zero_add]
     | true =>
      have d:decide (c<qb)=true:=by simpa using hb
      simp (disch:=first|omega|(with_unfolding_all exact rfl)|(simp only[new_n,put_n,new_m];omega)|(refine put_m_le ?_;simp only[new_m];omega)) only [K67b0,K67b0r0,K67b0r1,u0s4,u0s5,u0s6,Abs.W,reduceIte,Nat.reduceEqDiff,Nat.reduceAdd,decide_true,decide_false,kLoop_def,Nat.reduceSub,List.cons_append,List.nil_append,List.append_nil,List.length_cons,List.length_nil,cellsBool,Env.find_set,Nat.reduceEqDiff,f3,f4,z0,z1,d,Nat.zero_add]
    ·rw [get_put_ne' _ _ _ _ (by omega)];exact get_put_eq _ _ _ _ rfl (by omega)
    ·rw [get_put_ne' _ _ _ _ (by omega),get_put_ne' _ _ _ _ (by omega)];exact zl
    ·rw [get_put_ne' _ _ _ _ (fun h=>h2 (.inr h)),get_put_ne' _ _ _ _ (fun h=>h2 (.inl h))];exact zg x h1
    ·simp only [St.put,minN_eq];omega
    ·simp only [St.put,minN_eq];omega
   ·have hQ:leastI (qf,qb) c=(qf,qb):=by unfold leastI;rw [if_neg hb]
    have h1:qf=true:=by cases qf with
     | true=>rfl
     | false=>simp at hb
    subst h1
    have d:decide (c<qb)=false:=by simpa using hb
    rw [hQ]
    refine ⟨_,t,(((L0.set 7 (.int .i64 c)).set 5 (.int .i64 c)).set 14 (.bool false)),z,hA,rfl,?_,⟨z0,z1⟩,zl,fun x hc h1 h2=>zg x h1,by omega,by omega,by omega,by omega,trivial⟩
    rw [← hz]
    simp (disch:=first|omega|(with_unfolding_all exact rfl)|(simp only[new_n,put_n,new_m];omega)|(refine put_m_le ?_;simp only[new_m];omega)) only [K67b0,K67b0r0,u0s4,u0s5,u0s6,Abs.W,reduceIte,Nat.reduceEqDiff,Nat.reduceAdd,decide_true,decide_false,kLoop_def,Nat.reduceSub,List.cons_append,List.nil_append,List.append_nil,List.length_cons,List.length_nil,cellsBool,Env.find_set,Nat.reduceEqDiff,f3,f4,z0,z1,d,Nat.zero_add])
 simp (disch:=first|omega|(with_unfolding_all exact rfl)|(simp only[new_n,put_n,new_m];omega)|(refine put_m_le ?_;simp only[new_m];omega)) only [K67r4,Abs.W,reduceIte,Nat.reduceEqDiff,Nat.reduceAdd,decide_true,decide_false,kLoop_def,Nat.reduceSub,List.cons_append,List.nil_append,List.append_nil,List.length_cons,List.length_nil,e1,Env.find_set,f3,e2]
 have ed:s'.h.get w.n=some .dfr:=e4
 rw [leave_dfr _ _ _ _ _ ed]
 simp (disch:=first|omega|(with_unfolding_all exact rfl)|(simp only[new_n,put_n,new_m];omega)|(refine put_m_le ?_;simp only[new_m];omega)) only [res67,Abs.W,reduceIte,Nat.reduceEqDiff,Nat.reduceAdd,decide_true,decide_false,kLoop_def,Nat.reduceSub,List.cons_append,List.nil_append,List.append_nil,List.length_cons,List.length_nil,cellsBool,Env.find_set]
 refine ⟨_,rfl,?_⟩
 simp only [St.kill,minN_eq];omega
theorem price_ok {M nb cb:Nat} {H:Heap} {g:FuncId} {cap:List AV} {T:List Sale} {s:St} (hi:Bool) (hM:7≤M) (hh:∀ N,Hands Try.prog X N (N+1) nb cb H g cap (fun s:Sale=>.agg s.cells) T) (hF:Fine T) (hl:T.length≤40) (hcb:cb≤100) (hH:∀ y,y<nb→s.h.get y=H.get y) (hnb:nb≤s.n) (hs:s.n+2000000≤far) :
  call Try.prog X (M+6) (.fn 48) [.agg (endV hi),.func g [] cap] s=.val (.int .i64 (priceI hi T)) s:=by
 have hff:far=1000000000:=rfl
 refine call_plain' (n:=M+5) Try.func48 (fun u uh un um=>?_) rfl
 have scE:=endV_cells hi
 obtain ⟨w,hw⟩:∃ w:St,w=(((u.new (.cells (endV hi) (tag 82))).new (.cells [.func g [] cap] (tag 89))).new (.cells [.nilfunc] (tag 108))).put (u.n+2) (.cells [.func 65 [] [.ptr (u.n+1) 0,.ptr u.n 0]] (tag 108)):=⟨_,rfl⟩
 have wn:w.n=u.n+3:=by rw [hw];rfl
 have wm:w.m=min far (u.n+2):=by rw [hw];simp only [St.put,minN_eq,new_m,um]
 have wg:∀ c,c<u.n→w.h.get c=u.h.get c:=fun c hc=>by rw [hw,get_put_ne' _ _ _ _ (by omega),get_new_ne _ _ _ (by simp only [new_n];omega),get_new_ne _ _ _ (by simp only [new_n];omega),get_new_ne _ _ _ (by omega)]
 have w0:w.h.get u.n=some (.cells [hereV hi,hereV (!hi)] (tag 82)):=by rw [hw,get_put_ne' _ _ _ _ (by omega),get_new_ne _ _ _ (by simp only [new_n];omega),get_new_ne _ _ _ (by simp only [new_n];omega)];exact get_new_eq _ _ _ rfl (by omega)
 have w1:w.h.get (u.n+1)=some (.cells [.func g [] cap] (tag 89)):=by rw [hw,get_put_ne' _ _ _ _ (by omega),get_new_ne _ _ _ (by simp only [new_n];omega)];exact get_new_eq _ _ _ rfl (by simp only [new_n];omega)
 have w2:w.h.get (u.n+2)=some (.cells [.func 65 [] [.ptr (u.n+1) 0,.ptr u.n 0]] (tag 108)):=by rw [hw];exact get_put_eq _ _ _ _ rfl (by omega)
 have wH:∀ y,y<nb→w.h.get y=H.get y:=fun y hy=>by rw [wg y (by omega),uh];exact hH y hy
 have h2:=price2_hands (M:=M+1) (nb:=nb) (nb':=w.n) (cb:=cb) (p2:=u.n) (p3:=u.n+1) (p5:=u.n+2) (H:=H) (H':=w.h) (g:=g) (cap:=cap) (T:=T) hi (by omega) hh hF hl hcb (by omega) wH w0 w1 w2 (by omega) (by omega) (by omega)
 have hle:=fun m=>least_ok (s:=⟨w.h,w.n,m⟩) h2 (Nat.le_refl _) (fun _ _=>rfl) (Nat.le_refl _) (by show w.n+1000000≤far;omega)
 have hle':call Try.prog X (M+5) (.fn 67) [.func 68 [] [.ptr (u.n+1) 0,.ptr u.n 0,.ptr (u.n+2) 0]] w=.val (.int .i64 (priceI hi T)) w:=by
  have:=hle w.m
  have e:(leastQ (pricesTo hi T T)).2=priceI hi T:=by unfold leastQ priceI;rw [least_tries]
  rw [e] at this
  exact this
 rw [enter48]
 simp (disch:=first|omega|(with_unfolding_all exact rfl)|(simp only[new_n,put_n,new_m];omega)|(refine put_m_le ?_;simp only[new_m];omega)) only [K48,K48r0,K48r1,Abs.W,reduceIte,Nat.reduceEqDiff,Nat.reduceAdd,decide_true,decide_false,kLoop_def,Nat.reduceSub,List.cons_append,List.nil_append,List.append_nil,List.length_cons,List.length_nil,Env.find_set,scE,boxA_func,kFuncE',okA_fnv,cellsFn,Nat.zero_add]
 try simp only [new_n]
 rw [← hw]
 clear hw
 simp (disch:=first|omega|(with_unfolding_all exact rfl)|(simp only[new_n,put_n,new_m];omega)|(refine put_m_le ?_;simp only[new_m];omega)) only [K48r2,res48,Abs.W,reduceIte,Nat.reduceEqDiff,Nat.reduceAdd,decide_true,decide_false,kLoop_def,Nat.reduceSub,List.cons_append,List.nil_append,List.append_nil,List.length_cons,List.length_nil,Env.find_set,kFuncE',okA_fnv,hle']
 refine ⟨_,rfl,?_⟩
 omega
end Go.Proofs.Ytamlnddeiokbdaa.walk
