/- Dues: steps that may be, and what they make of a turnover. -/
import Derived.Test.YtamlnddeiokbdaaM3
import Derived.Test.YtamlnddeiokbdaaM2
import Derived.Test.YtamlnddeiokbdaaCodes
import Derived.Test.YtamlnddeiokbdaaM1
import Derived.Test.YtamlnddeiokbdaaWalkAll
set_option linter.unusedSimpArgs false
set_option maxHeartbeats 16000000
set_option linter.unusedVariables false
set_option maxRecDepth 10000
namespace Go.Proofs.Ytamlnddeiokbdaa.walk
open Go.Abs Go.Proofs.Ytamlnddeiokbdaa.code
theorem unless_ok (N:Nat) (hN:1≤N) (e:Int) (s:St) (hs:s.n≤far):call Try.prog X N (.fn 72) [.bool true,.int .i64 e] s=.val (.int .i64 0) s:=by
 obtain ⟨n,rfl⟩:∃ n,N=n+1:=⟨N - 1,by omega⟩
 refine call_plain (s':=⟨s.h,s.n,far⟩) Try.func72 ?_ rfl hs
 rw [enter72]
 simp only [res72,K72r0,K72r1,K72r2,K72r3,K72,Abs.W,reduceIte,Nat.reduceEqDiff,Nat.reduceAdd,decide_true,decide_false,kLoop_def,Nat.reduceSub,List.cons_append,List.nil_append,List.append_nil,List.length_cons,List.length_nil]
theorem step_wide (l:List Step):∀ r ∈ l.map Step.cells,r.length=2:=by
 intro r hr
 obtain ⟨f,_,rfl⟩:=List.mem_map.mp hr
 rfl
theorem step_cut {l:List Step} {i:Nat} (hi:i<l.length):cut (i * 2) 2 (l.map Step.cells).flatten=some [.int .i64 (stepAt l i).fr,.int .i64 (stepAt l i).sh]:=by
 rw [flatten_cut (step_wide l) (by simpa using hi),List.getElem_map]
 unfold stepAt
 simp only [List.getD,List.getElem?_eq_getElem hi,Option.getD_some]
 rfl
theorem step_nth {l:List Step} {i:Nat} (hi:i<l.length):nth (l.map Step.cells).flatten (i * 2)=.int .i64 (stepAt l i).fr:=by
 obtain ⟨a,t,z1,z2,z3⟩:=cut_some (step_cut hi)
 rw [z1,← z2,List.append_assoc,← Nat.add_zero a.length,nth_skip]
 rfl
theorem checkFrom_ok {N i b sz:Nat} {l:List Step} {s:St} (hN:2≤N) (ok:StepsOk l) (hi:i<l.length) (hb:s.h.get b=some (.cells (l.map Step.cells).flatten sz)) (hs:s.n+100≤far) :
  call Try.prog X N (.fn 59) [.int .i64 (stepAt l i).fr,.slice b 0 i l.length true] s=.val (.int .i64 0) s:=by
 obtain ⟨n,rfl⟩:∃ n,N=n+1:=⟨N - 1,by omega⟩
 have hf:far=1000000000:=rfl
 refine call_plain' Try.func59 (fun u uh un um=>?_) rfl
 rw [← uh] at hb
 rw [enter59]
 by_cases h0:i=0
 ·subst h0
  have f0:=ok.f0
  have e0:decide (((0:Nat):Int)=0)=true:=rfl
  have e1:decide ((0:Int)=0)=true:=rfl
  rw [f0]
  simp (disch:=first|omega|(with_unfolding_all exact rfl)|(simp only[new_n,put_n,new_m];omega)|(refine put_m_le ?_;simp only[new_m];omega)) only [res59,K59r0,K59r1,K59r2,K59r3,K59,Abs.W,reduceIte,Nat.reduceEqDiff,Nat.reduceAdd,decide_true,decide_false,kLoop_def,Nat.reduceSub,List.cons_append,List.nil_append,List.append_nil,List.length_cons,List.length_nil,Env.find_set,e0,e1,unless_ok]
  exact ⟨_,rfl,by omega⟩
 ·obtain ⟨j,rfl⟩:∃ j,i=j+1:=⟨i - 1,by omega⟩
  have e0:decide (((j+1:Nat):Int)=0)=false:=decide_eq_false (by omega)
  have sb:∀ s,aSub s .i64 ((j+1:Nat):Int) 1=.val (.int .i64 (j:Int)) s:=fun s=>by rw [aSub_i64 s _ _ (by have:=ok.n1;omega)];congr 2;omega
  have ix:∀ s,ixsA 2 s (.slice b 0 (j+1) l.length true) (.int .i64 (j:Int))=.val (.ptr b (j * 2)) s:=fun s=>by rw [ixs_slice _ _ _ _ _ _ _ _ (by omega),Nat.zero_add]
  have nt:=step_nth (l:=l) (i:=j) (by omega)
  have up:=ok.up j hi
  have e1:decide ((stepAt l (j+1)).fr > (stepAt l j).fr)=true:=decide_eq_true up
  have e2:decide ((stepAt l j).fr<(stepAt l (j+1)).fr)=true:=decide_eq_true up
  simp (disch:=first|omega|(with_unfolding_all exact rfl)|(simp only[new_n,put_n,new_m];omega)|(refine put_m_le ?_;simp only[new_m];omega)) only [res59,K59r0,K59r1,K59r2,K59r3,K59,Abs.W,reduceIte,Nat.reduceEqDiff,Nat.reduceAdd,decide_true,decide_false,kLoop_def,Nat.reduceSub,List.cons_append,List.nil_append,List.append_nil,List.length_cons,List.length_nil,Env.find_set,e0,e1,e2,sb,ix,nt,hb,unless_ok,Nat.add_zero]
  exact ⟨_,rfl,by omega⟩
theorem checkSteps_ok {N b sz:Nat} {l:List Step} {s:St} (hN:3≤N) (ok:StepsOk l) (hl:l.length≤5) (hbn:b<s.n) (hb:s.h.get b=some (.cells (l.map Step.cells).flatten sz)) (hs:s.n+1000≤far) :
  call Try.prog X N (.fn 37) [.slice b 0 l.length l.length true] s=.val (.int .i64 0) s:=by
 obtain ⟨n,rfl⟩:∃ n,N=n+1:=⟨N - 1,by omega⟩
 have hf:far=1000000000:=rfl
 refine call_plain' Try.func37 (fun u uh un um=>?_) rfl
 rw [← uh] at hb
 rw [← un] at hbn hs
 have n0:=ok.n0
 have z0:decide ((0:Int)=0)=true:=rfl
 rw [enter37]
 simp (disch:=first|omega|(with_unfolding_all exact rfl)|(simp only[new_n,put_n,new_m];omega)|(refine put_m_le ?_;simp only[new_m];omega)) only [res37,K37r0,K37r1,K37r2,K37r3,K37r4,K37r5,K37r6,K37r7,K37r8,K37r9,K37r10,K37r11,K37,Abs.W,reduceIte,Nat.reduceEqDiff,Nat.reduceAdd,decide_true,decide_false,kLoop_def,Nat.reduceSub,List.cons_append,List.nil_append,List.append_nil,List.length_cons,List.length_nil,Env.find_set,counted_ok,z0]
 generalize hl1:loopN _ rounds _ _ _ _ _=q1
 obtain ⟨e,L1,s1,rfl,rfl,hE⟩:=loop_of hl1
  (fun i L' t=>L'.find 0=.slice b 0 l.length l.length true∧L'.find 13=.slice b 0 l.length l.length true∧L'.find 14=.int .i64 l.length∧L'.find 15=.int .i64 i∧Beside u t (2 * i))
  (fun e L1 s1=>e=.exit 0∧Beside u s1 (2 * l.length))
  l.length (by unfold rounds;omega) ⟨by simp only [find_cons,Env.find_set,reduceIte,Nat.reduceEqDiff],by simp only [find_cons,Env.find_set,reduceIte,Nat.reduceEqDiff],by simp only [find_cons,Env.find_set,reduceIte,Nat.reduceEqDiff],by simp only [find_cons,Env.find_set,reduceIte,Nat.reduceEqDiff];rfl,Beside.refl u (by omega) um⟩
  (fun i L' t hi ⟨q0,q13,q14,q15,hE⟩=>by
   have tn:=hE.n
   have tl:=hE.le
   have tm:=hE.m
   have tf:=hE.far
   by_cases hlt:i<l.length
   ·have e0:decide ((i:Int)<(l.length:Int))=true:=decide_eq_true (by omega)
    have tb:=(hE.same b hbn).trans hb
    have ix:∀ s,ixsA 2 s (.slice b 0 l.length l.length true) (.int .i64 (i:Int))=.val (.ptr b (i * 2)) s:=fun s=>by rw [ixs_slice _ _ _ _ _ _ _ _ hlt,Nat.zero_add]
    have ct:=step_cut hlt
    have f1:=ok.f1 i hlt
    have s0:=ok.s0 i hlt
    have s1:=ok.s1 i hlt
    have sl:=fun s=>slice_to 2 s b 0 l.length l.length i true (Nat.le_refl _) (by omega) (by omega)
    have cf:∀ s:St,s.h.get b=some (.cells (l.map Step.cells).flatten sz)→s.n+100≤far→call Try.prog X n (.fn 59) [.int .i64 (stepAt l i).fr,.slice b 0 i l.length true] s=.val (.int .i64 0) s:=fun s h1 h2=>checkFrom_ok (by omega) ok hlt h1 h2
    have ad:∀ s,aAdd s .i64 (i:Int) 1=.val (.int .i64 ((i:Int)+1)) s:=fun s=>aAdd_i64 s _ _ (by omega)
    obtain ⟨x,hx⟩:∃ x:St,x=(t.new (.cells [.int .i64 0,.int .i64 0] (tag 75))).put t.n (.cells [.int .i64 (stepAt l i).fr,.int .i64 (stepAt l i).sh] (tag 75)):=⟨_,rfl⟩
    have xn:x.n=t.n+1:=by rw [hx];rfl
    have xg:∀ c,c<t.n→x.h.get c=t.h.get c:=fun c hc=>by rw [hx,get_put_ne' _ _ _ _ (by omega),get_new_ne _ _ _ (by omega)]
    have xt:x.h.get t.n=some (.cells [.int .i64 (stepAt l i).fr,.int .i64 (stepAt l i).sh] (tag 75)):=by rw [hx];exact get_put_eq _ _ _ _ rfl (by omega)
    have xm:u.n≤x.m∧x.m≤far:=by rw [hx];simp only [St.put,minN_eq,new_m];omega
    have hX:Beside u x (2 * i+1):=by rw [hx];exact (hE.new _).put _ tn
    have xb:=(xg b (by omega)).trans tb
    refine .inl ⟨hlt,_,_,by
     simp (disch:=first|omega|(with_unfolding_all exact rfl)|(simp only[new_n,put_n,new_m];omega)|(refine put_m_le ?_;simp only[new_m];omega)) only [K37l0,K37r5,K37r6,Abs.W,reduceIte,Nat.reduceEqDiff,Nat.reduceAdd,decide_true,decide_false,kLoop_def,Nat.reduceSub,List.cons_append,List.nil_append,List.append_nil,List.length_cons,List.length_nil,Env.find_set,q0,q13,q14,q15,e0,ix,ct,tb,Nat.zero_add]
     rw [← hx]
     simp (disch:=first|omega|(with_unfolding_all exact rfl)|(simp only[new_n,put_n,new_m];omega)|(refine put_m_le ?_;simp only[new_m];omega)) only [res37,K37r0,K37r1,K37r2,K37r3,K37r4,K37r5,K37r6,K37r7,K37r8,K37r9,K37r10,K37r11,K37,Abs.W,reduceIte,Nat.reduceEqDiff,Nat.reduceAdd,decide_true,decide_false,kLoop_def,Nat.reduceSub,List.cons_append,List.nil_append,List.append_nil,List.length_cons,List.length_nil,Env.find_set,q0,q13,q14,q15,xt,xb,kSlice_def,optEv_some,optEv_none,sl,within_ok,cf,or_new3,z0,ad,endO_nil,Nat.zero_add]
     rfl,?_,?_,?_,?_,?_⟩
    ·simp only [Env.find_set,q0,reduceIte,Nat.reduceEqDiff]
    ·simp only [Env.find_set,q13,reduceIte,Nat.reduceEqDiff]
    ·simp only [Env.find_set,q14,reduceIte,Nat.reduceEqDiff]
    ·simp only [Env.find_set,reduceIte,Nat.reduceEqDiff];rfl
    ·exact (hX.new _).mono (by omega)
   ·obtain rfl:i=l.length:=by omega
    have e0:decide ((l.length:Int)<(l.length:Int))=false:=by simp
    refine .inr ⟨.exit 0,L'.set 16 (.bool false),t,by simp,?_,rfl,hE⟩
    simp (disch:=first|omega|(with_unfolding_all exact rfl)|(simp only[new_n,put_n,new_m];omega)|(refine put_m_le ?_;simp only[new_m];omega)) only [K37l0,K37r5,Abs.W,reduceIte,Nat.reduceEqDiff,Nat.reduceAdd,decide_true,decide_false,kLoop_def,Nat.reduceSub,List.cons_append,List.nil_append,List.append_nil,List.length_cons,List.length_nil,Env.find_set,q14,q15,e0])
 simp (disch:=first|omega|(with_unfolding_all exact rfl)|(simp only[new_n,put_n,new_m];omega)|(refine put_m_le ?_;simp only[new_m];omega)) only [res37,K37r0,K37r1,K37r2,K37r3,K37r4,K37r5,K37r6,K37r7,K37r8,K37r9,K37r10,K37r11,K37,Abs.W,reduceIte,Nat.reduceEqDiff,Nat.reduceAdd,decide_true,decide_false,kLoop_def,Nat.reduceSub,List.cons_append,List.nil_append,List.append_nil,List.length_cons,List.length_nil,Env.find_set]
 refine ⟨s1,rfl,?_⟩
 have:=hE.m
 omega
theorem due_ok {N b sz:Nat} {l:List Step} {x:Int} {s:St} (hN:1≤N) (ok:StepsOk l) (hx:0≤x∧x≤1000000000) (hbn:b<s.n) (hb:s.h.get b=some (.cells (l.map Step.cells).flatten sz)) (hs:s.n+1000≤far) :
  call Try.prog X N (.fn 40) [.int .i64 x,.slice b 0 l.length l.length true] s=.val (.int .i64 (dueI l x)) s:=by
 obtain ⟨n,rfl⟩:∃ n,N=n+1:=⟨N - 1,by omega⟩
 have hf:far=1000000000:=rfl
 refine call_plain' Try.func40 (fun u uh un um=>?_) rfl
 rw [← uh] at hb
 rw [← un] at hbn hs
 have n0:=ok.n0
 have n1:=ok.n1
 rw [enter40]
 simp (disch:=first|omega|(with_unfolding_all exact rfl)|(simp only[new_n,put_n,new_m];omega)|(refine put_m_le ?_;simp only[new_m];omega)) only [res40,K40r0,K40r1,K40r2,K40r3,K40r4,K40r5,K40r6,K40r7,K40r8,K40r9,K40r10,K40,Abs.W,reduceIte,Nat.reduceEqDiff,Nat.reduceAdd,decide_true,decide_false,kLoop_def,Nat.reduceSub,List.cons_append,List.nil_append,List.append_nil,List.length_cons,List.length_nil,Env.find_set]
 generalize hl1:loopN _ rounds _ _ _ _ _=q1
 obtain ⟨e,L1,s1,rfl,rfl,hq,hE⟩:=loop_of hl1
  (fun i L' t=>L'.find 0=.int .i64 x∧L'.find 1=.slice b 0 l.length l.length true∧L'.find 5=.int .i64 (shareTo l x i)∧L'.find 9=.slice b 0 l.length l.length true∧L'.find 10=.int .i64 l.length∧L'.find 11=.int .i64 i∧Beside u t (1 * i))
  (fun e L1 s1=>e=.exit 0∧L1.find 5=.int .i64 (shareTo l x l.length)∧Beside u s1 (1 * l.length))
  l.length (by unfold rounds;omega) ⟨by simp only [find_cons,Env.find_set,reduceIte,Nat.reduceEqDiff],by simp only [find_cons,Env.find_set,reduceIte,Nat.reduceEqDiff],by simp only [find_cons,Env.find_set,reduceIte,Nat.reduceEqDiff];rfl,by simp only [find_cons,Env.find_set,reduceIte,Nat.reduceEqDiff],by simp only [find_cons,Env.find_set,reduceIte,Nat.reduceEqDiff],by simp only [find_cons,Env.find_set,reduceIte,Nat.reduceEqDiff];rfl,Beside.refl u (by omega) um⟩
  (fun i L' t hi ⟨q0,q1,q5,q9,q10,q11,hE⟩=>by
   have tn:=hE.n
   have tl:=hE.le
   have tm:=hE.m
   have tf:=hE.far
   by_cases hlt:i<l.length
   ·have e0:decide ((i:Int)<(l.length:Int))=true:=decide_eq_true (by omega)
    have tb:=(hE.same b hbn).trans hb
    have ix:∀ s,ixsA 2 s (.slice b 0 l.length l.length true) (.int .i64 (i:Int))=.val (.ptr b (i * 2)) s:=fun s=>by rw [ixs_slice _ _ _ _ _ _ _ _ hlt,Nat.zero_add]
    have ct:=step_cut hlt
    have f1:=ok.f1 i hlt
    have s0:=ok.s0 i hlt
    have s1:=ok.s1 i hlt
    have ad:∀ s,aAdd s .i64 (i:Int) 1=.val (.int .i64 ((i+1:Nat):Int)) s:=fun s=>by rw [aAdd_i64 s _ _ (by omega)];rfl
    obtain ⟨y,hy⟩:∃ y:St,y=(t.new (.cells [.int .i64 0,.int .i64 0] (tag 75))).put t.n (.cells [.int .i64 (stepAt l i).fr,.int .i64 (stepAt l i).sh] (tag 75)):=⟨_,rfl⟩
    have yn:y.n=t.n+1:=by rw [hy];rfl
    have yg:∀ c,c<t.n→y.h.get c=t.h.get c:=fun c hc=>by rw [hy,get_put_ne' _ _ _ _ (by omega),get_new_ne _ _ _ (by omega)]
    have yt:y.h.get t.n=some (.cells [.int .i64 (stepAt l i).fr,.int .i64 (stepAt l i).sh] (tag 75)):=by rw [hy];exact get_put_eq _ _ _ _ rfl (by omega)
    have hY:Beside u y (1 * (i+1)):=by rw [hy];exact ((hE.new _).put _ tn).mono (by omega)
    have yb:=(yg b (by omega)).trans tb
    obtain ⟨r0,r1⟩:=share_range ok hx.1 i (by omega)
    obtain ⟨r2,r3⟩:=share_range ok hx.1 (i+1) (by omega)
    have hS:shareTo l x (i+1)=shareTo l x i+partI l x i:=rfl
    have up0:0≤upTo l x i∧upTo l x i≤x:=by
     unfold upTo
     by_cases h:i+1<l.length
     ·have:=ok.f1 (i+1) h
      rw [if_pos h];omega
     ·rw [if_neg h];omega
    have sb:∀ s,aSub s .i64 (upTo l x i) (stepAt l i).fr=.val (.int .i64 (upTo l x i - (stepAt l i).fr)) s:=fun s=>aSub_i64 s _ _ (by omega)
    have hP:partI l x i=max 0 (upTo l x i - (stepAt l i).fr) * (stepAt l i).sh:=rfl
    have mu:∀ s,aMul s .i64 (max 0 (upTo l x i - (stepAt l i).fr)) (stepAt l i).sh=.val (.int .i64 (partI l x i)) s:=fun s=>by
     rw [aMul_def,wrapA_eq]
     congr 2
     exact IntWalk.i64_in _ (by show -9223372036854775808≤partI l x i∧partI l x i≤9223372036854775807;omega)
    have ad2:∀ s,aAdd s .i64 (shareTo l x i) (partI l x i)=.val (.int .i64 (shareTo l x (i+1))) s:=fun s=>aAdd_i64 s _ _ (by omega)
    suffices hgo:∃ L1,K40l0 (call Try.prog X n) ⟨40,none,Try.f40.ntmps,X 40⟩ L' [] t=.done .norm L1 [] y∧(L1.find 0=.int .i64 x∧L1.find 1=.slice b 0 l.length l.length true∧L1.find 5=.int .i64 (shareTo l x (i+1))∧L1.find 9=.slice b 0 l.length l.length true∧L1.find 10=.int .i64 l.length∧L1.find 11=.int .i64 ((i+1:Nat):Int)) from by
     obtain ⟨L9,z1,z2,z3,z4,z5,z6,z7⟩:=hgo
     exact .inl ⟨hlt,L9,y,z1,z2,z3,z4,z5,z6,z7,hY⟩
    simp (disch:=first|omega|(with_unfolding_all exact rfl)|(simp only[new_n,put_n,new_m];omega)|(refine put_m_le ?_;simp only[new_m];omega)) only [K40l0,K40r3,K40r4,K40r5,Abs.W,reduceIte,Nat.reduceEqDiff,Nat.reduceAdd,decide_true,decide_false,kLoop_def,Nat.reduceSub,List.cons_append,List.nil_append,List.append_nil,List.length_cons,List.length_nil,Env.find_set,q0,q1,q5,q9,q10,q11,e0,ix,ct,tb,Nat.zero_add]
    rw [← hy]
    by_cases h:i+1<l.length
    ·have e1:decide (((i+1:Nat):Int)<(l.length:Int))=true:=decide_eq_true (by omega)
     have hU:min x (stepAt l (i+1)).fr=upTo l x i:=by unfold upTo;rw [if_pos h]
     have ix1:∀ s,ixsA 2 s (.slice b 0 l.length l.length true) (.int .i64 ((i+1:Nat):Int))=.val (.ptr b ((i+1) * 2)) s:=fun s=>by rw [ixs_slice _ _ _ _ _ _ _ _ h,Nat.zero_add]
     have nt:=step_nth (l:=l) (i:=i+1) h
     simp (disch:=first|omega|(with_unfolding_all exact rfl)|(simp only[new_n,put_n,new_m];omega)|(refine put_m_le ?_;simp only[new_m];omega)) only [res40,K40r0,K40r1,K40r2,K40r3,K40r4,K40r5,K40r6,K40r7,K40r8,K40r9,K40r10,K40,Abs.W,reduceIte,Nat.reduceEqDiff,Nat.reduceAdd,decide_true,decide_false,kLoop_def,Nat.reduceSub,List.cons_append,List.nil_append,List.append_nil,List.length_cons,List.length_nil,Env.find_set,q0,q1,q5,q9,q10,q11,yt,yb,e1,ad,ix1,nt,kFold_def,foldA_nil,foldA_cons,minA_i64,maxA_i64,hU,sb,mu,ad2,Nat.zero_add,Nat.add_zero]
     refine ⟨_,rfl,?_,?_,?_,?_,?_,?_⟩<;>simp only [Env.find_set,q0,q1,q9,q10,reduceIte,Nat.reduceEqDiff]
    ·have e1:decide (((i+1:Nat):Int)<(l.length:Int))=false:=decide_eq_false (by omega)
     have hU:x=upTo l x i:=by unfold upTo;rw [if_neg h]
     have sb:∀ s,aSub s .i64 x (stepAt l i).fr=.val (.int .i64 (upTo l x i - (stepAt l i).fr)) s:=fun s=>by have:=sb s;rw [← hU] at this ⊢;exact this
     simp (disch:=first|omega|(with_unfolding_all exact rfl)|(simp only[new_n,put_n,new_m];omega)|(refine put_m_le ?_;simp only[new_m];omega)) only [res40,K40r0,K40r1,K40r2,K40r3,K40r4,K40r5,K40r6,K40r7,K40r8,K40r9,K40r10,K40,Abs.W,reduceIte,Nat.reduceEqDiff,Nat.reduceAdd,decide_true,decide_false,kLoop_def,Nat.reduceSub,List.cons_append,List.nil_append,List.append_nil,List.length_cons,List.length_nil,Env.find_set,q0,q1,q5,q9,q10,q11,yt,yb,e1,ad,kFold_def,foldA_nil,foldA_cons,minA_i64,maxA_i64,sb,mu,ad2,Nat.zero_add]
     refine ⟨_,rfl,?_,?_,?_,?_,?_,?_⟩<;>simp only [Env.find_set,q0,q1,q9,q10,reduceIte,Nat.reduceEqDiff]
   ·obtain rfl:i=l.length:=by omega
    have e0:decide ((l.length:Int)<(l.length:Int))=false:=by simp
    refine .inr ⟨.exit 0,L'.set 12 (.bool false),t,by simp,?_,rfl,by simp only [Env.find_set,q5,reduceIte,Nat.reduceEqDiff],hE⟩
    simp (disch:=first|omega|(with_unfolding_all exact rfl)|(simp only[new_n,put_n,new_m];omega)|(refine put_m_le ?_;simp only[new_m];omega)) only [K40l0,K40r3,Abs.W,reduceIte,Nat.reduceEqDiff,Nat.reduceAdd,decide_true,decide_false,kLoop_def,Nat.reduceSub,List.cons_append,List.nil_append,List.append_nil,List.length_cons,List.length_nil,Env.find_set,q10,q11,e0])
 obtain ⟨r0,r1⟩:=share_range ok hx.1 l.length (Nat.le_refl _)
 have qu:∀ s,aQuo s .i64 (shareTo l x l.length) 1000=.val (.int .i64 (dueI l x)) s:=fun s=>by
  rw [aQuo_ne _ _ _ _ (by decide),wrapA_eq,Int.tdiv_eq_ediv_of_nonneg r0]
  congr 2
  exact IntWalk.i64_in _ (by show -9223372036854775808≤shareTo l x l.length / 1000∧shareTo l x l.length / 1000≤9223372036854775807;omega)
 simp (disch:=first|omega|(with_unfolding_all exact rfl)|(simp only[new_n,put_n,new_m];omega)|(refine put_m_le ?_;simp only[new_m];omega)) only [res40,K40r0,K40r1,K40r2,K40r3,K40r4,K40r5,K40r6,K40r7,K40r8,K40r9,K40r10,K40,Abs.W,reduceIte,Nat.reduceEqDiff,Nat.reduceAdd,decide_true,decide_false,kLoop_def,Nat.reduceSub,List.cons_append,List.nil_append,List.append_nil,List.length_cons,List.length_nil,Env.find_set,hq,qu]
 refine ⟨s1,rfl,?_⟩
 have:=hE.m
 omega
end Go.Proofs.Ytamlnddeiokbdaa.walk
set_option maxRecDepth 10000
namespace Go.Proofs.Ytamlnddeiokbdaa.walk
open Go.Abs Go.Proofs.Ytamlnddeiokbdaa.code
theorem dues1_ok {N p q r sb sz st:Nat} {b:Book} {l:List Step} {v:AV} {s:St} (hi:Bool) (hN:5≤N) (ok:b.Ok) (oks:StepsOk l) (hp:s.h.get p=some (.cells (bookV b v) (tag 27))) (hq:s.h.get q=some (.cells [.int .i64 (st:Int)] (tag 3))) (hr:s.h.get r=some (.cells [.slice sb 0 l.length l.length true] (tag 29))) (hb:s.h.get sb=some (.cells (l.map Step.cells).flatten sz)) (hpn:p<s.n) (hqn:q<s.n) (hrn:r<s.n) (hbn:sb<s.n) (hB:RowsAt s.h s.n 6 (b.sales.map Sale.cells) v) (hs:s.n+6000≤far) :
  call Try.prog X N (.fn 39) (.agg (endV hi)::[.ptr p 0,.ptr q 0,.ptr r 0]) s=.val (.int .i64 (dueI l (turnOf hi b.sales st))) s:=by
 obtain ⟨n,rfl⟩:∃ n,N=n+1:=⟨N - 1,by omega⟩
 have hf:far=1000000000:=rfl
 refine call_plain' Try.func39 (fun u uh un um=>?_) rfl
 rw [← uh] at hp hq hr hb hB
 rw [← un] at hB hpn hqn hrn hbn hs
 have kv:∀ t,okA (.val v t)=.val v t:=fun t=>okA_ne hB.ne
 have scE:scalars (endV hi)=true:=by cases hi<;>rfl
 obtain ⟨w,hw⟩:∃ w:St,w=u.new (.cells (endV hi) (tag 82)):=⟨_,rfl⟩
 have wn:w.n=u.n+1:=by rw [hw];rfl
 have wm:w.m=far:=by rw [hw];exact um
 have wg:∀ c,c<u.n→w.h.get c=u.h.get c:=fun c hc=>by rw [hw,get_new_ne _ _ _ (by omega)]
 have w0:w.h.get u.n=some (.cells [hereV hi,hereV (!hi)] (tag 82)):=by rw [hw];exact get_new_eq _ _ _ rfl (by omega)
 have hR:=hB.grow wg (by omega:u.n≤w.n)
 have w1:=(wg p hpn).trans hp
 have w2:=(wg q hqn).trans hq
 have w3:=(wg r hrn).trans hr
 have w4:=(wg sb hbn).trans hb
 unfold bookV at w1
 rw [enter39]
 simp (disch:=first|omega|(with_unfolding_all exact rfl)|(simp only[new_n,put_n,new_m];omega)|(refine put_m_le ?_;simp only[new_m];omega)) only [K39,K39r0,res39,Abs.W,reduceIte,Nat.reduceEqDiff,Nat.reduceAdd,decide_true,decide_false,kLoop_def,Nat.reduceSub,List.cons_append,List.nil_append,List.append_nil,List.length_cons,List.length_nil,Env.find_set,scE,Nat.zero_add]
 rw [← hw]
 clear hw
 simp (disch:=first|omega|(with_unfolding_all exact rfl)|(simp only[new_n,put_n,new_m];omega)|(refine put_m_le ?_;simp only[new_m];omega)) only [K39r1,Abs.W,reduceIte,Nat.reduceEqDiff,Nat.reduceAdd,decide_true,decide_false,kLoop_def,Nat.reduceSub,List.cons_append,List.nil_append,List.append_nil,List.length_cons,List.length_nil,Env.find_set,w0,w1,kv,Nat.zero_add]
 generalize hc:call _ _ _ (.fn 41) _ _=r1
 obtain ⟨mb,t,rfl,st1,h1,h2,h3⟩:=turnovers_ex hi hc (by omega) ok.ok (hR) (by have:=ok.l;omega) (by show w.n+5000≤far;omega)
 have tm:t.m=far:=st1.m
 have tn:w.n≤t.n:=st1.n
 have tl:t.n≤w.n+1000:=st1.le
 rw [thenT_val _ _ _ _ _ _ _ _ (by omega)]
 have t2:=(st1.same q (by show q<w.n;omega)).trans w2
 have t3:=(st1.same r (by show r<w.n;omega)).trans w3
 have t4:=(st1.same sb (by show sb<w.n;omega)).trans w4
 have lk:∀ m,lookA .int (.int .i64 0) false ⟨t.h,t.n,m⟩ (.int .i64 (st:Int)) (.map mb)=.val (.int .i64 (turnOf hi b.sales st)) ⟨t.h,t.n,m⟩:=fun m=>by rw [look_map (sums hi b.sales) _ mb ⟨t.h,t.n,m⟩ h3,getP_sums]
 have tr:=turnOf_range hi (st:Int) b.sales ok.ok
 have bl:=ok.l
 have du:∀ m,call Try.prog X n (.fn 40) [.int .i64 (turnOf hi b.sales st),.slice sb 0 l.length l.length true] ⟨t.h,t.n,m⟩=.val (.int .i64 (dueI l (turnOf hi b.sales st))) ⟨t.h,t.n,m⟩:=fun m=>due_ok (by omega) oks (by omega) (by show sb<t.n;omega) t4 (by show t.n+1000≤far;omega)
 simp (disch:=first|omega|(with_unfolding_all exact rfl)|(simp only[new_n,put_n,new_m];omega)|(refine put_m_le ?_;simp only[new_m];omega)) only [Abs.W,reduceIte,Nat.reduceEqDiff,Nat.reduceAdd,decide_true,decide_false,kLoop_def,Nat.reduceSub,List.cons_append,List.nil_append,List.append_nil,List.length_cons,List.length_nil,Env.find_set,t2,t3,kLookE,lk,du,endO_nil,Nat.zero_add]
 refine ⟨_,rfl,?_⟩
 first | omega | (simp only [minN_eq];omega)
def dueRow (l:List Step) (sales:List Sale) (st:Nat):List AV:=[.int .i64 (dueI l (turnOf false sales st)),.int .i64 (dueI l (turnOf true sales st))]
def dueRows (l:List Step) (sales:List Sale) (k:Nat):List (List AV):=(List.range k).map (dueRow l sales)
theorem dueRows_snoc (l:List Step) (sales:List Sale) (k:Nat):dueRows l sales (k+1)=dueRows l sales k++[dueRow l sales k]:=by unfold dueRows;rw [List.range_succ,List.map_append];rfl
theorem dueRows_len (l:List Step) (sales:List Sale) (k:Nat):(dueRows l sales k).length=k:=by unfold dueRows;rw [List.length_map,List.length_range]
theorem dueRows_wide (l:List Step) (sales:List Sale) (k:Nat):∀ r ∈ dueRows l sales k,r.length=2:=by
 intro r hr
 obtain ⟨f,_,rfl⟩:=List.mem_map.mp hr
 rfl
theorem Dues_ex {N sb sz:Nat} {b:Book} {l:List Step} {v:AV} {s:St} {r:ARes} (hr:call Try.prog X N (.fn 12) [.agg (bookV b v),.slice sb 0 l.length l.length true] s=r) (hN:8≤N) (ok:b.Ok) (oks:StepsOk l) (hl:l.length≤5) (hb:s.h.get sb=some (.cells (l.map Step.cells).flatten sz)) (hbn:sb<s.n) (hB:RowsAt s.h s.n 6 (b.sales.map Sale.cells) v) (hs:s.n+8000≤far) :
  ∃ bd t,r=.val (.tup [.slice bd 0 b.stalls b.stalls false,.int .i64 0]) t∧New s t 100∧s.n≤bd∧bd<t.n∧t.h.get bd=some (.cells (dueRows l b.sales b.stalls).flatten 0):=by
 obtain ⟨n,rfl⟩:∃ n,N=n+1:=⟨N - 1,by omega⟩
 have hf:far=1000000000:=rfl
 obtain ⟨v',t,e,st,bd,rfl,h1,h2,h3⟩:=call_new (n:=n) (args:=[.agg (bookV b v),.slice sb 0 l.length l.length true]) (s:=s) (k:=100) (Q:=fun v' h m=>∃ bd,v'=.tup [.slice bd 0 b.stalls b.stalls false,.int .i64 0]∧s.n≤bd∧bd<m∧h.get bd=some (.cells (dueRows l b.sales b.stalls).flatten 0)) Try.func12 rfl (fun u uh un um=>by
  rw [← uh,← un] at hB
  rw [← uh] at hb
  rw [← un] at hs hbn
  rw [← un]
  have kv:∀ t,okA (.val v t)=.val v t:=fun t=>okA_ne hB.ne
  have scB:scalars (bookV b v)=true:=by
   have hv:v.scalar=true:=by
    have h:=hB.len u
    cases v<;>first | rfl | cases h
   show scalars [v]=true
   unfold scalars
   rw [hv]
   rfl
  have k0:=ok.k0
  have k1:=ok.k1
  have n0:=oks.n0
  obtain ⟨w,hw⟩:∃ w:St,w=(u.new (.cells (bookV b v) (tag 27))).new (.cells [.slice sb 0 l.length l.length true] (tag 29)):=⟨_,rfl⟩
  have wn:w.n=u.n+2:=by rw [hw];rfl
  have wm:w.m=far:=by rw [hw];exact um
  have wg:∀ c,c<u.n→w.h.get c=u.h.get c:=fun c hc=>by rw [hw,get_new_ne _ _ _ (by simp only [new_n];omega),get_new_ne _ _ _ (by omega)]
  have w0:w.h.get u.n=some (.cells (bookV b v) (tag 27)):=by rw [hw,get_new_ne _ _ _ (by simp only [new_n];omega)];exact get_new_eq _ _ _ rfl (by omega)
  have w1:w.h.get (u.n+1)=some (.cells [.slice sb 0 l.length l.length true] (tag 29)):=by rw [hw];exact get_new_eq _ _ _ rfl (by simp only [new_n];omega)
  have hW:Beside u w 2:=by rw [hw];exact ((Beside.refl u (by omega) um).new _).new _
  have hR:=hB.grow wg (by omega:u.n≤w.n)
  have wb:=(wg sb hbn).trans hb
  have hck:=fun m=>check_ok n (by omega) b ok v ⟨w.h,w.n,m⟩ hR (by show w.n+4000≤far;omega)
  have hcs:=fun m=>checkSteps_ok (N:=n) (s:=⟨w.h,w.n,m⟩) (by omega) oks hl (by show sb<w.n;omega) wb (by show w.n+1000≤far;omega)
  have hcs':call Try.prog X n (.fn 37) [.slice sb 0 l.length l.length true] w=.val (.int .i64 0) w:=hcs w.m
  have z0:decide ((0:Int)=0)=true:=rfl
  have w0':=w0
  unfold bookV at w0 hw scB hck
  rw [enter12]
  unfold bookV
  simp (disch:=first|omega|(with_unfolding_all exact rfl)|(simp only[new_n,put_n,new_m];omega)|(refine put_m_le ?_;simp only[new_m];omega)) only [K12,K12r0,Abs.W,reduceIte,Nat.reduceEqDiff,Nat.reduceAdd,decide_true,decide_false,kLoop_def,Nat.reduceSub,List.cons_append,List.nil_append,List.append_nil,List.length_cons,List.length_nil,scB,Nat.zero_add]
  rw [← hw]
  clear hw
  simp (disch:=first|omega|(with_unfolding_all exact rfl)|(simp only[new_n,put_n,new_m];omega)|(refine put_m_le ?_;simp only[new_m];omega)) only [K12r1,K12r2,K12r4,Abs.W,reduceIte,Nat.reduceEqDiff,Nat.reduceAdd,decide_true,decide_false,kLoop_def,Nat.reduceSub,List.cons_append,List.nil_append,List.append_nil,List.length_cons,List.length_nil,Env.find_set,new_n,w0,w1,kv,scB,hck,hck w.m,hcs,hcs',or_new2,z0,endO_nil,Nat.zero_add,kMake_def]
  have mk:=fun s=>make_rows [.int .i64 0,.int .i64 0] 16 b.stalls s (by omega) (by omega)
  simp (disch:=first|omega|(with_unfolding_all exact rfl)|(simp only[new_n,put_n,new_m];omega)|(refine put_m_le ?_;simp only[new_m];omega)) only [Abs.W,reduceIte,Nat.reduceEqDiff,Nat.reduceAdd,decide_true,decide_false,kLoop_def,Nat.reduceSub,List.cons_append,List.nil_append,List.append_nil,List.length_cons,List.length_nil,Env.find_set,mk,new_n]
  obtain ⟨x,hx⟩:∃ x:St,x=(w.new (.cells [AV.int .i64 0,.int .i64 0] 0)).new (.cells (List.replicate b.stalls [AV.int .i64 0,.int .i64 0]).flatten 0):=⟨_,rfl⟩
  rw [← hx]
  have xn:x.n=w.n+2:=by rw [hx];rfl
  have xm:x.m=far:=by rw [hx];exact wm
  have xg:∀ c,c<w.n→x.h.get c=w.h.get c:=fun c hc=>by rw [hx,get_new_ne _ _ _ (by simp only [new_n];omega),get_new_ne _ _ _ (by omega)]
  have xd:x.h.get (w.n+1)=some (.cells (fillRows b.stalls [AV.int .i64 0,.int .i64 0] (dueRows l b.sales 0)).flatten 0):=by rw [hx];exact get_new_eq _ _ _ rfl (by simp only [new_n];omega)
  have hX:Beside u x (4+1 * 0):=by rw [hx];exact ((hW.new _).new _).mono (by omega)
  clear hx
  simp (disch:=first|omega|(with_unfolding_all exact rfl)|(simp only[new_n,put_n,new_m];omega)|(refine put_m_le ?_;simp only[new_m];omega)) only [K12r5,Abs.W,reduceIte,Nat.reduceEqDiff,Nat.reduceAdd,decide_true,decide_false,kLoop_def,Nat.reduceSub,List.cons_append,List.nil_append,List.append_nil,List.length_cons,List.length_nil,Env.find_set]
  generalize hl1:loopN _ rounds _ _ _ _ _=q1
  obtain ⟨e,L1,s1,rfl,rfl,g7,hE,g1,g2⟩:=loop_of hl1
   (fun i L' t=>L'.find 2=.ptr u.n 0∧L'.find 3=.ptr (u.n+1) 0∧L'.find 7=.slice (w.n+1) 0 b.stalls b.stalls false∧L'.find 22=.int .i64 (b.stalls:Int)∧L'.find 23=.int .i64 i∧Beside u t (4+1 * i)∧w.n+1<t.n ∧
    t.h.get u.n=some (.cells [.int .i64 b.stalls,.int .i64 b.goods,v] (tag 27))∧t.h.get (u.n+1)=some (.cells [.slice sb 0 l.length l.length true] (tag 29))∧t.h.get (w.n+1)=some (.cells (fillRows b.stalls [AV.int .i64 0,.int .i64 0] (dueRows l b.sales i)).flatten 0))
   (fun e L1 s1=>e=.exit 0∧L1.find 7=.slice (w.n+1) 0 b.stalls b.stalls false∧Beside u s1 (4+1 * b.stalls)∧w.n+1<s1.n∧s1.h.get (w.n+1)=some (.cells (dueRows l b.sales b.stalls).flatten 0))
   b.stalls (by unfold rounds;omega) ⟨by simp only [find_cons,Env.find_set,reduceIte,Nat.reduceEqDiff],by simp only [find_cons,Env.find_set,reduceIte,Nat.reduceEqDiff],by simp only [find_cons,Env.find_set,reduceIte,Nat.reduceEqDiff],by simp only [find_cons,Env.find_set,reduceIte,Nat.reduceEqDiff],by simp only [find_cons,Env.find_set,reduceIte,Nat.reduceEqDiff];rfl,hX,by omega,(xg u.n (by omega)).trans w0,(xg (u.n+1) (by omega)).trans w1,xd⟩
   (fun i L' t hi ⟨q2,q3,q7,q22,q23,hE,hn,t0,t1,td⟩=>by
    have tn:=hE.n
    have tl:=hE.le
    have tm:=hE.m
    have tf:=hE.far
    by_cases hlt:i<b.stalls
    ·have e0:decide ((i:Int)<(b.stalls:Int))=true:=decide_eq_true (by omega)
     have ix:∀ s,ixsA 2 s (.slice (w.n+1) 0 b.stalls b.stalls false) (.int .i64 (i:Int))=.val (.ptr (w.n+1) (i * 2)) s:=fun s=>by rw [ixs_slice _ _ _ _ _ _ _ _ hlt,Nat.zero_add]
     have ad:∀ s,aAdd s .i64 (i:Int) 1=.val (.int .i64 ((i:Int)+1)) s:=fun s=>aAdd_i64 s _ _ (by omega)
     obtain ⟨y,hy⟩:∃ y:St,y=(t.new (.cells [.int .i64 0] (tag 3))).put t.n (.cells [.int .i64 (i:Int)] (tag 3)):=⟨_,rfl⟩
     have yn:y.n=t.n+1:=by rw [hy];rfl
     have yg:∀ c,c<t.n→y.h.get c=t.h.get c:=fun c hc=>by rw [hy,get_put_ne' _ _ _ _ (by omega),get_new_ne _ _ _ (by omega)]
     have yt:y.h.get t.n=some (.cells [.int .i64 (i:Int)] (tag 3)):=by rw [hy];exact get_put_eq _ _ _ _ rfl (by omega)
     have ym:u.n≤y.m∧y.m≤far:=by rw [hy];simp only [St.put,minN_eq,new_m];omega
     have hY:Beside u y (4+1 * (i+1)):=by rw [hy];exact ((hE.new _).put _ tn).mono (by omega)
     have yb:=(hY.same sb hbn).trans hb
     have hRy:=hB.grow hY.same hY.n
     have bt:∀ m,call Try.prog X n (.fn 38) [.func 39 [] [.ptr u.n 0,.ptr t.n 0,.ptr (u.n+1) 0]] ⟨y.h,y.n,m⟩=.val (.agg [.int .i64 (dueI l (turnOf false b.sales i)),.int .i64 (dueI l (turnOf true b.sales i))]) ⟨y.h,y.n,m⟩:=fun m =>
      between_ok _ _ (by omega) (fun e t' ht h3 h4=>by
       have h3':y.n≤t'.n:=h3
       have h4':t'.n≤y.n+10:=h4
       have hxt:∀ c,c<y.n→t'.h.get c=y.h.get c:=fun c hc=>ht c hc
       have:=dues1_ok (N:=n - 1) (p:=u.n) (q:=t.n) (r:=u.n+1) (sb:=sb) (sz:=sz) (st:=i) (s:=t') e (by omega) ok oks ((hxt u.n (by omega)).trans ((yg u.n (by omega)).trans t0)) ((hxt t.n (by omega)).trans yt) ((hxt (u.n+1) (by omega)).trans ((yg (u.n+1) (by omega)).trans t1)) ((hxt sb (by omega)).trans yb) (by omega) (by omega) (by omega) (by omega) ((hB.grow (h':=t'.h) (n':=t'.n) (fun c hc=>(hxt c (by omega)).trans (hY.same c hc)) (by omega))) (by omega)
       cases e<;>exact this) (by show y.n+100≤far;omega)
     have yd:=(yg (w.n+1) hn).trans td
     have ov:=fillRows_over (n:=b.stalls) (w:=2) (z:=[AV.int .i64 0,.int .i64 0]) (row:=dueRow l b.sales i) (l:=dueRows l b.sales i) rfl (dueRows_wide l b.sales i) rfl (by rw [dueRows_len];exact hlt)
     rw [dueRows_len,← dueRows_snoc] at ov
     unfold dueRow at ov
     suffices hgo:∃ L1 t9,K12l0 (call Try.prog X n) ⟨12,none,Try.f12.ntmps,X 12⟩ L' [] t=.done .norm L1 [] t9∧(L1.find 2=.ptr u.n 0∧L1.find 3=.ptr (u.n+1) 0∧L1.find 7=.slice (w.n+1) 0 b.stalls b.stalls false∧L1.find 22=.int .i64 (b.stalls:Int)∧L1.find 23=.int .i64 ((i+1:Nat):Int)∧Beside u t9 (4+1 * (i+1))∧w.n+1<t9.n ∧
       t9.h.get u.n=some (.cells [.int .i64 b.stalls,.int .i64 b.goods,v] (tag 27))∧t9.h.get (u.n+1)=some (.cells [.slice sb 0 l.length l.length true] (tag 29))∧t9.h.get (w.n+1)=some (.cells (fillRows b.stalls [AV.int .i64 0,.int .i64 0] (dueRows l b.sales (i+1))).flatten 0)) from by
      obtain ⟨L9,t9,z1,z2⟩:=hgo
      exact .inl ⟨hlt,L9,t9,z1,z2⟩
     simp (disch:=first|omega|(with_unfolding_all exact rfl)|(simp only[new_n,put_n,new_m];omega)|(refine put_m_le ?_;simp only[new_m];omega)) only [K12l0,K12r6,K12r7,Abs.W,reduceIte,Nat.reduceEqDiff,Nat.reduceAdd,decide_true,decide_false,kLoop_def,Nat.reduceSub,List.cons_append,List.nil_append,List.append_nil,List.length_cons,List.length_nil,Env.find_set,q2,q3,q7,q22,q23,e0,Nat.zero_add]
     rw [← hy]
     clear hy
     simp (disch:=first|omega|(with_unfolding_all exact rfl)|(simp only[new_n,put_n,new_m];omega)|(refine put_m_le ?_;simp only[new_m];omega)) only [K12r8,K12r9,Abs.W,reduceIte,Nat.reduceEqDiff,Nat.reduceAdd,decide_true,decide_false,kLoop_def,Nat.reduceSub,List.cons_append,List.nil_append,List.append_nil,List.length_cons,List.length_nil,Env.find_set,q2,q3,q7,q22,q23,yt,yd,kFuncE',okA_fnv,bt,bt y.m,ix,ov,ad,endO_nil,Nat.zero_add]
     refine ⟨_,_,rfl,?_,?_,?_,?_,?_,hY.put _ (by omega),?_,?_,?_,?_⟩
     ·simp only [Env.find_set,q2,reduceIte,Nat.reduceEqDiff]
     ·simp only [Env.find_set,q3,reduceIte,Nat.reduceEqDiff]
     ·simp only [Env.find_set,q7,reduceIte,Nat.reduceEqDiff]
     ·simp only [Env.find_set,q22,reduceIte,Nat.reduceEqDiff]
     ·simp only [Env.find_set,reduceIte,Nat.reduceEqDiff];rfl
     ·simp only [put_n];omega
     ·rw [get_put_ne' _ _ _ _ (by omega)];exact (yg u.n (by omega)).trans t0
     ·rw [get_put_ne' _ _ _ _ (by omega)];exact (yg (u.n+1) (by omega)).trans t1
     ·exact get_put_eq _ _ _ _ rfl (by omega)
    ·obtain rfl:i=b.stalls:=by omega
     have e0:decide ((b.stalls:Int)<(b.stalls:Int))=false:=by simp
     rw [fillRows_full (dueRows_len l b.sales b.stalls)] at td
     refine .inr ⟨.exit 0,L'.set 24 (.bool false),t,by simp,?_,rfl,by simp only [Env.find_set,q7,reduceIte,Nat.reduceEqDiff],hE,hn,td⟩
     simp (disch:=first|omega|(with_unfolding_all exact rfl)|(simp only[new_n,put_n,new_m];omega)|(refine put_m_le ?_;simp only[new_m];omega)) only [K12l0,K12r6,Abs.W,reduceIte,Nat.reduceEqDiff,Nat.reduceAdd,decide_true,decide_false,kLoop_def,Nat.reduceSub,List.cons_append,List.nil_append,List.append_nil,List.length_cons,List.length_nil,Env.find_set,q22,q23,e0])
  simp (disch:=first|omega|(with_unfolding_all exact rfl)|(simp only[new_n,put_n,new_m];omega)|(refine put_m_le ?_;simp only[new_m];omega)) only [res12,K12r0,K12r1,K12r2,K12r3,K12r4,K12r5,K12r6,K12r7,K12r8,K12r9,K12r10,K12,Abs.W,reduceIte,Nat.reduceEqDiff,Nat.reduceAdd,decide_true,decide_false,kLoop_def,Nat.reduceSub,List.cons_append,List.nil_append,List.append_nil,List.length_cons,List.length_nil,Env.find_set,g7]
  have hv:oneA [Env.find 4 (Env.set 5 (AV.int IntKind.i64 0) (Env.set 4 (AV.slice (w.n+1) 0 b.stalls b.stalls false) L1)),Env.find 5 (Env.set 5 (AV.int IntKind.i64 0) (Env.set 4 (AV.slice (w.n+1) 0 b.stalls b.stalls false) L1))]=AV.tup [.slice (w.n+1) 0 b.stalls b.stalls false,.int .i64 0]:=by
   simp only [Env.find_set,reduceIte,Nat.reduceEqDiff]
   rfl
  exact ⟨_,_,rfl,hE.mono (by omega),by first | rfl | (rw [hv];rfl),w.n+1,hv,by omega,g1,g2⟩)
 exact ⟨bd,t,hr.symm.trans e,st,h1,h2,h3⟩
end Go.Proofs.Ytamlnddeiokbdaa.walk
namespace Go.Proofs.Ytamlnddeiokbdaa.walk
open Go.Abs Go.Proofs.Ytamlnddeiokbdaa.code
section
variable {l r:List Sale}
end
end Go.Proofs.Ytamlnddeiokbdaa.walk
namespace Go.Proofs.Ytamlnddeiokbdaa.walk
open Go.Abs Go.Proofs.Ytamlnddeiokbdaa.code
abbrev Sold:=Sale × (Int × Int)
def allG (g:Int):List Sold→Int
 | []=>0
 | z::r=>(if z.1.gd=g then z.2.1 else 0)+allG g r
def uptoZ (g p:Int):List Sold→Int
 | []=>0
 | z::r=>(if z.1.gd=g∧z.2.2≤p then z.2.1 else 0)+uptoZ g p r
def takeZ (k:Int):List Sold→Int
 | []=>0
 | z::r=>(if z.1.st=k then z.2.1 * z.2.2 / 1000 else 0)+takeZ k r
theorem allG_snoc (g:Int) (x:Sold):∀ l:List Sold,allG g (l++[x])=allG g l+(if x.1.gd=g then x.2.1 else 0)
 | []=>by show _+0=0+_;omega
 | y::l=>by show _+allG g (l++[x])=_+allG g l+_;rw [allG_snoc g x l];omega
theorem uptoZ_snoc (g p:Int) (x:Sold):∀ l:List Sold,uptoZ g p (l++[x])=uptoZ g p l+(if x.1.gd=g∧x.2.2≤p then x.2.1 else 0)
 | []=>by show _+0=0+_;omega
 | y::l=>by show _+uptoZ g p (l++[x])=_+uptoZ g p l+_;rw [uptoZ_snoc g p x l];omega
theorem takeZ_snoc (k:Int) (x:Sold):∀ l:List Sold,takeZ k (l++[x])=takeZ k l+(if x.1.st=k then x.2.1 * x.2.2 / 1000 else 0)
 | []=>by show _+0=0+_;omega
 | y::l=>by show _+takeZ k (l++[x])=_+takeZ k l+_;rw [takeZ_snoc k x l];omega
def fairStep (g all:Int) (Z:List Sold) (st:Int × Bool) (z:Sold):Int × Bool :=
 if z.1.gd≠g∨(st.2=true∧st.1≤z.2.2) then st else if all≤2 * uptoZ g z.2.2 Z then (z.2.2,true) else st
def fairTo (g:Int) (Z:List Sold) (l:List Sold):Int × Bool:=l.foldl (fairStep g (allG g Z) Z) (0,false)
def fairI (g:Int) (Z:List Sold):Int × Bool:=if allG g Z=0 then (0,false) else fairTo g Z Z
theorem fairTo_snoc (g:Int) (Z l:List Sold) (z:Sold):fairTo g Z (l++[z])=fairStep g (allG g Z) Z (fairTo g Z l) z:=by unfold fairTo;rw [List.foldl_append];rfl
structure Sold.Ok (z:Sold):Prop where
 g0:0≤z.1.gl
 g1:z.1.gl≤z.2.1
 g2:z.2.1≤z.1.gh
 g3:z.1.gh≤5000
 c0:0≤z.1.cl
 c1:z.1.cl≤z.2.2
 c2:z.2.2≤z.1.ch
 c3:z.1.ch≤2000
def AllOk (Z:List Sold):Prop:=∀ z ∈ Z,Sold.Ok z
theorem AllOk.tail {z:Sold} {Z:List Sold} (h:AllOk (z::Z)):AllOk Z:=fun x hx=>h x (List.mem_cons_of_mem _ hx)
theorem AllOk.left {l r:List Sold} (h:AllOk (l++r)):AllOk l:=fun x hx=>h x (List.mem_append_left _ hx)
theorem all_range (g:Int):∀ Z:List Sold,AllOk Z→0≤allG g Z∧allG g Z≤5000 * Z.length
 | [],_=>by unfold allG;simp
 | z::r,h=>by
  obtain ⟨a,b⟩:=all_range g r h.tail
  have:=h z (List.mem_cons_self ..)
  obtain ⟨g0,g1,g2,g3,_,_,_,_⟩:=this
  unfold allG
  rw [List.length_cons]
  split<;>omega
theorem upto_range (g p:Int):∀ Z:List Sold,AllOk Z→0≤uptoZ g p Z∧uptoZ g p Z≤allG g Z
 | [],_=>by unfold uptoZ allG;simp
 | z::r,h=>by
  obtain ⟨a,b⟩:=upto_range g p r h.tail
  obtain ⟨g0,g1,g2,g3,_,_,_,_⟩:=h z (List.mem_cons_self ..)
  unfold uptoZ allG
  by_cases h1:z.1.gd=g
  ·by_cases h2:z.2.2≤p
   ·rw [if_pos ⟨h1,h2⟩,if_pos h1];omega
   ·rw [if_neg (fun h=>h2 h.2),if_pos h1];omega
  ·rw [if_neg (fun h=>h1 h.1),if_neg h1];omega
theorem upto_same (g:Int) {p q:Int}:∀ Z:List Sold,(∀ z ∈ Z,z.1.gd=g→(z.2.2≤p↔z.2.2≤q))→uptoZ g p Z=uptoZ g q Z
 | [],_=>rfl
 | z::r,h=>by
  have a:=upto_same g r (fun x hx=>h x (List.mem_cons_of_mem _ hx))
  have c:=h z (List.mem_cons_self ..)
  unfold uptoZ
  rw [a]
  congr 1
  by_cases h1:z.1.gd=g
  ·by_cases h2:z.2.2≤p
   ·rw [if_pos ⟨h1,h2⟩,if_pos ⟨h1,(c h1).mp h2⟩]
   ·rw [if_neg (fun h=>h2 h.2),if_neg (fun h=>h2 ((c h1).mpr h.2))]
  ·rw [if_neg (fun h=>h1 h.1),if_neg (fun h=>h1 h.1)]
theorem upto_some (g p:Int):∀ Z:List Sold,AllOk Z→0<uptoZ g p Z→∃ z ∈ Z,z.1.gd=g∧z.2.2≤p∧0<z.2.1
 | [],_,h=>absurd h (by unfold uptoZ;omega)
 | z::r,ok,h=>by
  unfold uptoZ at h
  by_cases h1:z.1.gd=g∧z.2.2≤p∧0<z.2.1
  ·exact ⟨z,List.mem_cons_self ..,h1⟩
  ·obtain ⟨g0,g1,g2,g3,_,_,_,_⟩:=ok z (List.mem_cons_self ..)
   have:(if z.1.gd=g∧z.2.2≤p then z.2.1 else 0)≤0:=by
    split
    ·rename_i h2
     have:¬ 0<z.2.1:=fun h3=>h1 ⟨h2.1,h2.2,h3⟩
     omega
    ·omega
   obtain ⟨x,hx,hh⟩:=upto_some g p r ok.tail (by omega)
   exact ⟨x,List.mem_cons_of_mem _ hx,hh⟩
theorem fair_fold (g all:Int) (Z:List Sold):∀ (r:List Sold) (st:Int × Bool),
  (st.2=true→(r.foldl (fairStep g all Z) st).2=true∧(r.foldl (fairStep g all Z) st).1≤st.1) ∧
  (∀ z ∈ r,z.1.gd=g→all≤2 * uptoZ g z.2.2 Z→(r.foldl (fairStep g all Z) st).2=true∧(r.foldl (fairStep g all Z) st).1≤z.2.2) ∧
  (r.foldl (fairStep g all Z) st=st∨∃ z ∈ r,z.1.gd=g∧all≤2 * uptoZ g z.2.2 Z∧r.foldl (fairStep g all Z) st=(z.2.2,true))
 | [],st=>⟨fun h=>⟨h,Int.le_refl _⟩,fun z hz=>absurd hz (by simp),Or.inl rfl⟩
 | a::r,st=>by
  obtain ⟨h1,h2,h3⟩:=fair_fold g all Z r (fairStep g all Z st a)
  rw [List.foldl_cons]
  have k1:st.2=true→(fairStep g all Z st a).2=true∧(fairStep g all Z st a).1≤st.1:=fun h=>by
   unfold fairStep
   by_cases c:a.1.gd≠g∨(st.2=true∧st.1≤a.2.2)
   ·rw [if_pos c];exact ⟨h,Int.le_refl _⟩
   ·rw [if_neg c]
    have:¬ st.1≤a.2.2:=fun hh=>c (.inr ⟨h,hh⟩)
    split
    ·exact ⟨rfl,by show a.2.2≤st.1;omega⟩
    ·exact ⟨h,Int.le_refl _⟩
  have k2:a.1.gd=g→all≤2 * uptoZ g a.2.2 Z→(fairStep g all Z st a).2=true∧(fairStep g all Z st a).1≤a.2.2:=fun h hh=>by
   unfold fairStep
   by_cases c:a.1.gd≠g∨(st.2=true∧st.1≤a.2.2)
   ·rw [if_pos c]
    rcases c with c | c
    ·exact absurd h c
    ·exact c
   ·rw [if_neg c,if_pos hh];exact ⟨rfl,Int.le_refl _⟩
  refine ⟨fun h=>?_,fun z hz hg hh=>?_,?_⟩
  ·obtain ⟨a1,a2⟩:=k1 h
   obtain ⟨b1,b2⟩:=h1 a1
   exact ⟨b1,Int.le_trans b2 a2⟩
  ·rcases List.mem_cons.mp hz with rfl | hz
   ·obtain ⟨a1,a2⟩:=k2 hg hh
    obtain ⟨b1,b2⟩:=h1 a1
    exact ⟨b1,Int.le_trans b2 a2⟩
   ·exact h2 z hz hg hh
  ·rcases h3 with h3 | ⟨z,hz,q1,q2,q3⟩
   ·rw [h3]
    unfold fairStep
    by_cases c:a.1.gd≠g∨(st.2=true∧st.1≤a.2.2)
    ·rw [if_pos c];exact .inl rfl
    ·rw [if_neg c]
     by_cases hh:all≤2 * uptoZ g a.2.2 Z
     ·rw [if_pos hh]
      have:a.1.gd=g:=Decidable.byContradiction fun h=>c (.inl h)
      exact .inr ⟨a,List.mem_cons_self ..,this,hh,rfl⟩
     ·rw [if_neg hh];exact .inl rfl
   ·exact .inr ⟨z,List.mem_cons_of_mem _ hz,q1,q2,q3⟩
theorem greatest_z (f:Sold→Int):∀ (l:List Sold),l≠[]→∃ s ∈ l,∀ t ∈ l,f t≤f s
 | [],h=>absurd rfl h
 | [a],_=>⟨a,List.mem_cons_self ..,fun t ht=>by rw [List.mem_singleton.mp ht];exact Int.le_refl _⟩
 | a::b::r,_=>by
  obtain ⟨s,hs,h⟩:=greatest_z f (b::r) (by simp)
  by_cases g:f s≤f a
  ·exact ⟨a,List.mem_cons_self ..,fun t ht=>by
    rcases List.mem_cons.mp ht with rfl | ht
    ·exact Int.le_refl _
    ·exact Int.le_trans (h t ht) g⟩
  ·exact ⟨s,List.mem_cons_of_mem _ hs,fun t ht=>by
    rcases List.mem_cons.mp ht with rfl | ht
    ·omega
    ·exact h t ht⟩
theorem fair_upTo {g:Int} {Z:List Sold} (ok:AllOk Z) (ha:0<allG g Z) {q:Int} (h:allG g Z≤2 * uptoZ g q Z):(fairI g Z).2=true∧(fairI g Z).1≤q:=by
 obtain ⟨z,hz,z1,z2,_⟩:=upto_some g q Z ok (by omega)
 have hm:z ∈ Z.filter (fun t=>decide (t.1.gd=g) && decide (t.2.2≤q)):=List.mem_filter.mpr ⟨hz,by rw [decide_eq_true z1,decide_eq_true z2];rfl⟩
 obtain ⟨m,mm,mg⟩:=greatest_z (fun t=>t.2.2) (Z.filter (fun t=>decide (t.1.gd=g) && decide (t.2.2≤q))) (fun h0=>by rw [h0] at hm;cases hm)
 obtain ⟨m1,m2⟩:=List.mem_filter.mp mm
 obtain ⟨m3,m4⟩:=Bool.and_eq_true_iff.mp m2
 have m3:=of_decide_eq_true m3
 have m4:=of_decide_eq_true m4
 have e:=upto_same g (p:=m.2.2) (q:=q) Z (fun t ht hg=>⟨fun h=>Int.le_trans h m4,fun h=>mg t (List.mem_filter.mpr ⟨ht,by rw [decide_eq_true hg,decide_eq_true h];rfl⟩)⟩)
 obtain ⟨a1,a2⟩:=(fair_fold g (allG g Z) Z Z (0,false)).2.1 m m1 m3 (by rw [e];exact h)
 unfold fairI
 rw [if_neg (by omega)]
 exact ⟨a1,Int.le_trans a2 m4⟩
theorem upto_all (g q:Int):∀ Z:List Sold,(∀ z ∈ Z,z.2.2≤q)→uptoZ g q Z=allG g Z
 | [],_=>rfl
 | z::r,h=>by
  unfold uptoZ allG
  rw [upto_all g q r (fun x hx=>h x (List.mem_cons_of_mem _ hx))]
  have:=h z (List.mem_cons_self ..)
  by_cases h1:z.1.gd=g
  ·rw [if_pos ⟨h1,this⟩,if_pos h1]
  ·rw [if_neg (fun h=>h1 h.1),if_neg h1]
theorem fair_is {g:Int} {Z:List Sold} (ok:AllOk Z) (ha:0<allG g Z):(fairI g Z).2=true∧allG g Z≤2 * uptoZ g (fairI g Z).1 Z:=by
 have h:=fair_upTo ok ha (q:=2000) (by rw [upto_all g 2000 Z (fun z hz=>by have:=ok z hz;obtain ⟨_,_,_,_,_,_,c2,c3⟩:=this;omega)];omega)
 refine ⟨h.1,?_⟩
 have h1:=h.1
 unfold fairI at h1 ⊢
 rw [if_neg (by omega)] at h1 ⊢
 rcases (fair_fold g (allG g Z) Z Z (0,false)).2.2 with e | ⟨z,_,_,q2,q3⟩
 ·unfold fairTo at h1
  rw [e] at h1;cases h1
 ·unfold fairTo
  rw [q3];exact q2
theorem sold_cons (s:Sale) (l:List Sale) (g:Int):soldOf (s::l) g=if s.gd=g∧0<s.gh then s::soldOf l g else soldOf l g:=by
 unfold soldOf
 rw [List.filter_cons]
 by_cases h:s.gd=g∧0<s.gh
 ·rw [if_pos h,if_pos (by rw [decide_eq_true h.1,decide_eq_true h.2];rfl)]
 ·rw [if_neg h]
  have:¬ (decide (s.gd=g) && decide (0<s.gh))=true:=fun hh=>h ⟨of_decide_eq_true (Bool.and_eq_true_iff.mp hh).1,of_decide_eq_true (Bool.and_eq_true_iff.mp hh).2⟩
  rw [if_neg this]
abbrev salesZ (Z:List Sold):List Sale:=Z.map Prod.fst
theorem low_high (g p:Int):∀ Z:List Sold,AllOk Z →
  uptoZ g p Z≤cheapI false p (soldOf (salesZ Z) g)∧dearI false p (soldOf (salesZ Z) g)≤allG g Z - uptoZ g p Z ∧
  cheapI true p (soldOf (salesZ Z) g)≤uptoZ g p Z∧allG g Z - uptoZ g p Z≤dearI true p (soldOf (salesZ Z) g) ∧
  weighI false (soldOf (salesZ Z) g)≤allG g Z∧allG g Z≤weighI true (soldOf (salesZ Z) g)
 | [],_=>by
  show (0:Int)≤0∧(0:Int)≤0 - 0∧(0:Int)≤0∧(0:Int) - 0≤0∧(0:Int)≤0∧(0:Int)≤0
  omega
 | z::r,h=>by
  obtain ⟨a,b,c,d,e,f⟩:=low_high g p r h.tail
  obtain ⟨g0,g1,g2,g3,c0,c1,c2,c3⟩:=h z (List.mem_cons_self ..)
  have e1:(if z.1.gd=g∧z.2.2≤p then z.2.1 else 0)=if z.1.gd=g then (if z.2.2≤p then z.2.1 else 0) else 0:=by
   by_cases h1:z.1.gd=g
   ·by_cases h3:z.2.2≤p
    ·rw [if_pos ⟨h1,h3⟩,if_pos h1,if_pos h3]
    ·rw [if_neg (fun h=>h3 h.2),if_pos h1,if_neg h3]
   ·rw [if_neg (fun h=>h1 h.1),if_neg h1]
  have eS:=sold_cons z.1 (salesZ r) g
  have eU:uptoZ g p (z::r)=(if z.1.gd=g∧z.2.2≤p then z.2.1 else 0)+uptoZ g p r:=rfl
  have eA:allG g (z::r)=(if z.1.gd=g then z.2.1 else 0)+allG g r:=rfl
  rw [eU,eA,e1,show salesZ (z::r)=z.1::salesZ r from rfl,eS]
  generalize soldOf (salesZ r) g=S at *
  by_cases h1:z.1.gd=g
  ·by_cases h2:0<z.1.gh
   ·rw [if_pos (⟨h1,h2⟩:z.1.gd=g∧0<z.1.gh),if_pos h1,if_pos h1]
    show (if z.2.2≤p then z.2.1 else 0)+uptoZ g p r≤(if z.1.cl≤p then z.1.gh else 0)+cheapI false p S∧(if z.1.cl≤p then 0 else z.1.gl)+dearI false p S≤z.2.1+allG g r - ((if z.2.2≤p then z.2.1 else 0)+uptoZ g p r)∧(if z.1.ch≤p then z.1.gl else 0)+cheapI true p S≤(if z.2.2≤p then z.2.1 else 0)+uptoZ g p r∧z.2.1+allG g r - ((if z.2.2≤p then z.2.1 else 0)+uptoZ g p r)≤(if z.1.ch≤p then 0 else z.1.gh)+dearI true p S∧z.1.gl+weighI false S≤z.2.1+allG g r∧z.2.1+allG g r≤z.1.gh+weighI true S
    by_cases q1:z.2.2≤p<;>by_cases q2:z.1.cl≤p<;>by_cases q3:z.1.ch≤p<;>simp only [q1,q2,q3,if_true,if_false]<;>omega
   ·rw [if_neg (fun h:z.1.gd=g∧0<z.1.gh=>h2 h.2),if_pos h1,if_pos h1]
    have:z.2.1=0:=by omega
    rw [this]
    split<;>omega
  ·rw [if_neg (fun h:z.1.gd=g∧0<z.1.gh=>h1 h.1),if_neg h1,if_neg h1];omega
theorem sold_mem {Z:List Sold} {g:Int} {z:Sold} (hz:z ∈ Z) (hg:z.1.gd=g) (hh:0<z.1.gh):z.1 ∈ soldOf (salesZ Z) g :=
 List.mem_filter.mpr ⟨List.mem_map.mpr ⟨z,hz,rfl⟩,by rw [decide_eq_true hg,decide_eq_true hh];rfl⟩
theorem sold_of {Z:List Sold} {g:Int} {s:Sale} (hs:s ∈ soldOf (salesZ Z) g):∃ z ∈ Z,z.1=s∧s.gd=g∧0<s.gh:=by
 obtain ⟨h1,h2⟩:=List.mem_filter.mp hs
 obtain ⟨z,hz,e⟩:=List.mem_map.mp h1
 obtain ⟨h3,h4⟩:=Bool.and_eq_true_iff.mp h2
 exact ⟨z,hz,e,of_decide_eq_true h3,of_decide_eq_true h4⟩
theorem fineZ {Z:List Sold} (ok:AllOk Z) (g:Int):Fine (soldOf (salesZ Z) g):=fun s hs=>by
 obtain ⟨z,hz,e,_,_⟩:=sold_of hs
 obtain ⟨g0,g1,g2,g3,c0,c1,c2,c3⟩:=ok z hz
 subst e
 omega
theorem fair_between {g:Int} {Z:List Sold} (ok:AllOk Z) (ha:0<allG g Z):priceI false (soldOf (salesZ Z) g)≤(fairI g Z).1∧(fairI g Z).1≤priceI true (soldOf (salesZ Z) g):=by
 have hF:=fineZ ok g
 obtain ⟨_,h2⟩:=fair_is ok ha
 obtain ⟨z,hz,z1,z2,z3⟩:=upto_some g (fairI g Z).1 Z ok (by omega)
 have zk:=ok z hz
 obtain ⟨g0,g1,g2,g3,c0,c1,c2,c3⟩:=zk
 have hm:=sold_mem hz z1 (by omega)
 constructor
 ·obtain ⟨a,b,_⟩:=low_high g (fairI g Z).1 Z ok
  exact price_upTo false _ (by omega) hm (by show z.1.cl≤_;omega)
 ·obtain ⟨s,hs,he,hp⟩:=price_is true (soldOf (salesZ Z) g) (fun h0=>by rw [h0] at hm;cases hm) (fun s hs=>by have:=hF s hs;omega)
  obtain ⟨_,_,c,d,_⟩:=low_high g (priceI true (soldOf (salesZ Z) g)) Z ok
  rw [← hp] at he
  have he:dearI true (priceI true (soldOf (salesZ Z) g)) (soldOf (salesZ Z) g)≤cheapI true (priceI true (soldOf (salesZ Z) g)) (soldOf (salesZ Z) g):=of_decide_eq_true he
  exact (fair_upTo ok ha (by omega)).2
theorem take_between (k:Int):∀ Z:List Sold,AllOk Z→turnOf false (salesZ Z) k≤takeZ k Z∧takeZ k Z≤turnOf true (salesZ Z) k
 | [],_=>⟨Int.le_refl _,Int.le_refl _⟩
 | z::r,h=>by
  obtain ⟨a,b⟩:=take_between k r h.tail
  obtain ⟨g0,g1,g2,g3,c0,c1,c2,c3⟩:=h z (List.mem_cons_self ..)
  show (if z.1.st=k then z.1.turn false else 0)+turnOf false (salesZ r) k≤(if z.1.st=k then z.2.1 * z.2.2 / 1000 else 0)+takeZ k r∧(if z.1.st=k then z.2.1 * z.2.2 / 1000 else 0)+takeZ k r≤(if z.1.st=k then z.1.turn true else 0)+turnOf true (salesZ r) k
  have e1:z.1.gl * z.1.cl≤z.2.1 * z.2.2:=Int.mul_le_mul g1 c1 c0 (by omega)
  have e2:z.2.1 * z.2.2≤z.1.gh * z.1.ch:=Int.mul_le_mul g2 c2 (by omega) (by omega)
  have t1:z.1.turn false=z.1.gl * z.1.cl / 1000:=rfl
  have t2:z.1.turn true=z.1.gh * z.1.ch / 1000:=rfl
  by_cases hk:z.1.st=k
  ·rw [if_pos hk,if_pos hk,if_pos hk,t1,t2];omega
  ·rw [if_neg hk,if_neg hk,if_neg hk];omega
end Go.Proofs.Ytamlnddeiokbdaa.walk
set_option maxRecDepth 10000
namespace Go.Abs
theorem nth_app:∀ {r t:List AV} {j:Nat},j<r.length→nth (r++t) j=nth r j
 | [],_,_,h=>by simp at h
 | a::r,t,0,_=>by rw [List.cons_append,nth_cons,nth_cons];rfl
 | a::r,t,j+1,h=>by
  rw [List.cons_append,nth_cons,nth_cons,if_neg (by omega),if_neg (by omega)]
  exact nth_app (by simpa using h)
theorem nth_cut {o k j:Nat} {c r:List AV} (h:cut o k c=some r) (hj:j<r.length):nth c (o+j)=nth r j:=by
 obtain ⟨a,t,z1,z2,z3⟩:=cut_some h
 rw [z1,← z2,List.append_assoc,nth_skip,nth_app hj]
theorem fr_mono {l:List Step} (ok:StepsOk l) {i:Nat}:∀ j,i≤j→j<l.length→(stepAt l i).fr≤(stepAt l j).fr
 | 0,h,_=>by
  obtain rfl:i=0:=by omega
  exact Int.le_refl _
 | j+1,h,hj=>by
  by_cases e:i=j+1
  ·subst e;exact Int.le_refl _
  ·have a:=fr_mono ok (i:=i) j (by omega) (by omega)
   have b:=ok.up j hj
   omega
theorem share_stop {l:List Step} (ok:StepsOk l) {t:Int} (ht:0≤t) {i:Nat} (hi:i<l.length) (h:t≤(stepAt l i).fr):∀ j,i≤j→j≤l.length→shareTo l t j=shareTo l t i
 | 0,h1,_=>by
  obtain rfl:i=0:=by omega
  rfl
 | j+1,h1,hj=>by
  by_cases e:i=j+1
  ·subst e;rfl
  ·have a:=share_stop ok ht hi h j (by omega) (by omega)
   have b:=fr_mono ok (i:=i) j (by omega) (by omega)
   have c:max 0 (upTo l t j - (stepAt l j).fr)=0:=by
    unfold upTo
    by_cases h:j+1<l.length<;>simp only [h,if_true,if_false]<;>omega
   show shareTo l t j+partI l t j=_
   unfold partI
   rw [c,Int.zero_mul,a]
   omega
end Go.Abs
namespace Go.Proofs.Ytamlnddeiokbdaa.walk
open Go.Abs Go.Proofs.Ytamlnddeiokbdaa.code
theorem holds_ok (N:Nat) (hN:1≤N) (lo hi x:Int) (s:St) (h0:lo≤x) (h1:x≤hi) (hs:s.n+100≤far):call Try.prog X N (.fn 16) [.agg [.int .i64 lo,.int .i64 hi],.int .i64 x] s=.val (.bool true) s:=by
 obtain ⟨n,rfl⟩:∃ n,N=n+1:=⟨N - 1,by omega⟩
 have hf:far=1000000000:=rfl
 refine call_plain' Try.func16 (fun u uh un um=>?_) rfl
 have d0:decide (lo≤x)=true:=decide_eq_true h0
 have d1:decide (x≤hi)=true:=decide_eq_true h1
 rw [enter16]
 simp (disch:=first|omega|(with_unfolding_all exact rfl)|(simp only[new_n,put_n,new_m];omega)|(refine put_m_le ?_;simp only[new_m];omega)) only [res16,K16r0,K16r1s9,K16r1s8,K16r1s7,K16r1s6,K16r1,K16,Abs.W,reduceIte,Nat.reduceEqDiff,Nat.reduceAdd,decide_true,decide_false,kLoop_def,Nat.reduceSub,List.cons_append,List.nil_append,List.append_nil,List.length_cons,List.length_nil,Env.find_set,d0,d1,Nat.zero_add]
 exact ⟨_,rfl,by simp only [new_m];omega⟩
theorem dueRef_ok {N b sz:Nat} {l:List Step} {x:Int} {s:St} (hN:1≤N) (ok:StepsOk l) (hx:0≤x∧x≤1000000000) (hb:s.h.get b=some (.cells (l.map Step.cells).flatten sz)) (hs:s.n+1000≤far) :
  call Try.prog X N (.fn 19) [.slice b 0 l.length l.length true,.int .i64 x] s=.val (.int .i64 (dueI l x)) s:=by
 obtain ⟨n,rfl⟩:∃ n,N=n+1:=⟨N - 1,by omega⟩
 have hf:far=1000000000:=rfl
 refine call_plain' Try.func19 (fun u uh un um=>?_) rfl
 rw [← uh] at hb
 rw [← un] at hs
 have n0:=ok.n0
 have n1:=ok.n1
 rw [enter19]
 simp (disch:=first|omega|(with_unfolding_all exact rfl)|(simp only[new_n,put_n,new_m];omega)|(refine put_m_le ?_;simp only[new_m];omega)) only [res19,K19r0,K19r1,K19r2,K19r3s12,K19r3s11,K19r3s10,K19r3s9,K19r3s8,K19r3s7,K19r3s6,K19r3,K19r4,K19r5,K19r6,K19r7,K19r8,K19r9,K19,Abs.W,reduceIte,Nat.reduceEqDiff,Nat.reduceAdd,decide_true,decide_false,kLoop_def,Nat.reduceSub,List.cons_append,List.nil_append,List.append_nil,List.length_cons,List.length_nil,Env.find_set]
 generalize hl1:loopN _ rounds _ _ _ _ _=q1
 obtain ⟨e,L1,s1,rfl,rfl,hq,hE⟩:=loop_of hl1
  (fun i L' t=>L'.find 0=.slice b 0 l.length l.length true∧L'.find 1=.int .i64 x∧L'.find 5=.int .i64 (shareTo l x i)∧L'.find 6=.int .i64 i∧t=u)
  (fun e L1 s1=>e=.exit 0∧L1.find 5=.int .i64 (shareTo l x l.length)∧s1=u)
  l.length (by unfold rounds;omega) ⟨by simp only [find_cons,Env.find_set,reduceIte,Nat.reduceEqDiff],by simp only [find_cons,Env.find_set,reduceIte,Nat.reduceEqDiff],by simp only [find_cons,Env.find_set,reduceIte,Nat.reduceEqDiff];rfl,by simp only [find_cons,Env.find_set,reduceIte,Nat.reduceEqDiff];rfl,rfl⟩
  (fun i L' t hi ⟨q0,q1,q5,q6,hE⟩=>by
   subst hE
   have u3s6:=fun cl L s=>congrFun (congrFun (congrFun K19r3s6.eq_1 cl) L) s
   have u3s7:=fun cl L s=>congrFun (congrFun (congrFun K19r3s7.eq_1 cl) L) s
   have u3s8:=fun cl L s=>congrFun (congrFun (congrFun K19r3s8.eq_1 cl) L) s
   have u3s9:=fun cl L s=>congrFun (congrFun (congrFun K19r3s9.eq_1 cl) L) s
   have u3s10:=fun cl L s=>congrFun (congrFun (congrFun K19r3s10.eq_1 cl) L) s
   have u3s11:=fun cl L s=>congrFun (congrFun (congrFun K19r3s11.eq_1 cl) L) s
   have u3s12:=fun cl L s=>congrFun (congrFun (congrFun K19r3s12.eq_1 cl) L) s
   by_cases hlt:i<l.length
   ·have e0:decide ((i:Int)<(l.length:Int))=true:=decide_eq_true (by omega)
    have ix:∀ s,ixsA 2 s (.slice b 0 l.length l.length true) (.int .i64 (i:Int))=.val (.ptr b (i * 2)) s:=fun s=>by rw [ixs_slice _ _ _ _ _ _ _ _ hlt,Nat.zero_add]
    have nt:=step_nth hlt
    have nt2:nth (l.map Step.cells).flatten (i * 2+1)=.int .i64 (stepAt l i).sh:=nth_cut (step_cut hlt) (j:=1) (by simp)
    have f1:=ok.f1 i hlt
    have s0:=ok.s0 i hlt
    have s1:=ok.s1 i hlt
    have ad:∀ s,aAdd s .i64 (i:Int) 1=.val (.int .i64 ((i+1:Nat):Int)) s:=fun s=>by rw [aAdd_i64 s _ _ (by omega)];rfl
    by_cases hst:(stepAt l i).fr<x
    ·have e1:decide ((stepAt l i).fr<x)=true:=decide_eq_true hst
     obtain ⟨r0,r1⟩:=share_range ok hx.1 i (by omega)
     obtain ⟨r2,r3⟩:=share_range ok hx.1 (i+1) (by omega)
     have hS:shareTo l x (i+1)=shareTo l x i+partI l x i:=rfl
     have up0:(stepAt l i).fr≤upTo l x i∧upTo l x i≤x:=by
      unfold upTo
      by_cases h:i+1<l.length
      ·have:=ok.up i h
       rw [if_pos h];omega
      ·rw [if_neg h];omega
     have sb:∀ s,aSub s .i64 (upTo l x i) (stepAt l i).fr=.val (.int .i64 (upTo l x i - (stepAt l i).fr)) s:=fun s=>aSub_i64 s _ _ (by omega)
     have hP:partI l x i=(upTo l x i - (stepAt l i).fr) * (stepAt l i).sh:=by unfold partI;rw [show max 0 (upTo l x i - (stepAt l i).fr)=upTo l x i - (stepAt l i).fr by omega]
     have mu:∀ s,aMul s .i64 (upTo l x i - (stepAt l i).fr) (stepAt l i).sh=.val (.int .i64 (partI l x i)) s:=fun s=>by
      have hP':partI l x i=Int.mul (upTo l x i - (stepAt l i).fr) (stepAt l i).sh:=hP
      rw [aMul_def,wrapA_eq,← hP']
      congr 2
      exact IntWalk.i64_in _ (by omega)
     have ad2:∀ s,aAdd s .i64 (shareTo l x i) (partI l x i)=.val (.int .i64 (shareTo l x (i+1))) s:=fun s=>aAdd_i64 s _ _ (by omega)
     by_cases h:i+1<l.length
     ·have e2:decide (((i+1:Nat):Int)<(l.length:Int))=true:=decide_eq_true (by omega)
      have hU:min x (stepAt l (i+1)).fr=upTo l x i:=by unfold upTo;rw [if_pos h]
      have ix1:∀ s,ixsA 2 s (.slice b 0 l.length l.length true) (.int .i64 ((i+1:Nat):Int))=.val (.ptr b ((i+1) * 2)) s:=fun s=>by rw [ixs_slice _ _ _ _ _ _ _ _ h,Nat.zero_add]
      have nt1:=step_nth (l:=l) (i:=i+1) h
      refine .inl ⟨hlt,_,_,by
       simp (config:={ maxSteps:=3000000 }) (disch:=first|omega|(with_unfolding_all exact rfl)|(simp only[new_n,put_n,new_m];omega)|(refine put_m_le ?_;simp only[new_m];omega)) only [K19l0,K19r3,K19r4,K19r5,K19r6,K19r7,K19r8,u3s6,u3s7,u3s8,u3s9,u3s10,u3s11,u3s12,Abs.W,reduceIte,Nat.reduceEqDiff,Nat.reduceAdd,decide_true,decide_false,kLoop_def,Nat.reduceSub,List.cons_append,List.nil_append,List.append_nil,List.length_cons,List.length_nil,Env.find_set,q0,q1,q5,q6,e0,e1,e2,ix,ix1,nt,nt1,nt2,hb,ad,kFold_def,foldA_nil,foldA_cons,minA_i64,hU,sb,mu,ad2,endO_nil,Nat.zero_add,Nat.add_zero]
       rfl,?_,?_,?_,?_,rfl⟩<;>simp only [Env.find_set,q0,q1,reduceIte,Nat.reduceEqDiff]
     ·have e2:decide (((i+1:Nat):Int)<(l.length:Int))=false:=decide_eq_false (by omega)
      have hU:x=upTo l x i:=by unfold upTo;rw [if_neg h]
      have sb:∀ s,aSub s .i64 x (stepAt l i).fr=.val (.int .i64 (upTo l x i - (stepAt l i).fr)) s:=fun s=>by have:=sb s;rw [← hU] at this ⊢;exact this
      refine .inl ⟨hlt,_,_,by
       simp (config:={ maxSteps:=3000000 }) (disch:=first|omega|(with_unfolding_all exact rfl)|(simp only[new_n,put_n,new_m];omega)|(refine put_m_le ?_;simp only[new_m];omega)) only [K19l0,K19r3,K19r4,K19r5,K19r6,K19r7,K19r8,u3s6,u3s7,u3s8,u3s9,u3s10,u3s11,u3s12,Abs.W,reduceIte,Nat.reduceEqDiff,Nat.reduceAdd,decide_true,decide_false,kLoop_def,Nat.reduceSub,List.cons_append,List.nil_append,List.append_nil,List.length_cons,List.length_nil,Env.find_set,q0,q1,q5,q6,e0,e1,e2,ix,nt,nt2,hb,ad,sb,mu,ad2,endO_nil,Nat.zero_add,Nat.add_zero]
       rfl,?_,?_,?_,?_,rfl⟩<;>simp only [Env.find_set,q0,q1,reduceIte,Nat.reduceEqDiff]
    ·have e1:decide ((stepAt l i).fr<x)=false:=decide_eq_false hst
     have hst':=share_stop ok hx.1 hlt (by omega) l.length (by omega) (Nat.le_refl _)
     refine .inr ⟨.exit 0,L'.set 20 (.bool false),_,by simp,?_,rfl,by simp only [Env.find_set,q5,hst',reduceIte,Nat.reduceEqDiff],rfl⟩
     simp (config:={ maxSteps:=3000000 }) (disch:=first|omega|(with_unfolding_all exact rfl)|(simp only[new_n,put_n,new_m];omega)|(refine put_m_le ?_;simp only[new_m];omega)) only [K19l0,K19r3,u3s6,u3s7,u3s8,u3s9,u3s10,u3s11,u3s12,Abs.W,reduceIte,Nat.reduceEqDiff,Nat.reduceAdd,decide_true,decide_false,kLoop_def,Nat.reduceSub,List.cons_append,List.nil_append,List.append_nil,List.length_cons,List.length_nil,Env.find_set,q0,q1,q5,q6,e0,e1,ix,nt,hb,Nat.zero_add,Nat.add_zero]
   ·obtain rfl:i=l.length:=by omega
    have e0:decide ((l.length:Int)<(l.length:Int))=false:=by simp
    refine .inr ⟨.exit 0,L'.set 20 (.bool false),_,by simp,?_,rfl,by simp only [Env.find_set,q5,reduceIte,Nat.reduceEqDiff],rfl⟩
    simp (config:={ maxSteps:=3000000 }) (disch:=first|omega|(with_unfolding_all exact rfl)|(simp only[new_n,put_n,new_m];omega)|(refine put_m_le ?_;simp only[new_m];omega)) only [K19l0,K19r3,u3s6,u3s7,u3s8,u3s9,u3s10,u3s11,u3s12,Abs.W,reduceIte,Nat.reduceEqDiff,Nat.reduceAdd,decide_true,decide_false,kLoop_def,Nat.reduceSub,List.cons_append,List.nil_append,List.append_nil,List.length_cons,List.length_nil,Env.find_set,q0,q1,q5,q6,e0,Nat.zero_add])
 subst hE
 obtain ⟨r0,r1⟩:=share_range ok hx.1 l.length (Nat.le_refl _)
 have qu:∀ s,aQuo s .i64 (shareTo l x l.length) 1000=.val (.int .i64 (dueI l x)) s:=fun s=>by
  rw [aQuo_ne _ _ _ _ (by decide),wrapA_eq,Int.tdiv_eq_ediv_of_nonneg r0]
  congr 2
  exact IntWalk.i64_in _ (by show -9223372036854775808≤shareTo l x l.length / 1000∧shareTo l x l.length / 1000≤9223372036854775807;omega)
 simp (disch:=first|omega|(with_unfolding_all exact rfl)|(simp only[new_n,put_n,new_m];omega)|(refine put_m_le ?_;simp only[new_m];omega)) only [res19,K19r0,K19r1,K19r2,K19r3s12,K19r3s11,K19r3s10,K19r3s9,K19r3s8,K19r3s7,K19r3s6,K19r3,K19r4,K19r5,K19r6,K19r7,K19r8,K19r9,K19,Abs.W,reduceIte,Nat.reduceEqDiff,Nat.reduceAdd,decide_true,decide_false,kLoop_def,Nat.reduceSub,List.cons_append,List.nil_append,List.append_nil,List.length_cons,List.length_nil,Env.find_set,hq,qu]
 refine ⟨_,rfl,?_⟩
 omega
def truthRows (Z:List Sold):List (List AV):=Z.map fun z=>[.int .i64 z.2.1,.int .i64 z.2.2]
theorem truthRows_len (Z:List Sold):(truthRows Z).length=Z.length:=List.length_map ..
theorem take_snocZ {Z:List Sold} {i:Nat} (h:i<Z.length):Z.take (i+1)=Z.take i++[Z[i]]:=List.take_succ_eq_append_getElem h
theorem sold_read {h:Heap} {n:Nat} {Z:List Sold} {v vt:AV} (RS:RowsAt h n 6 ((salesZ Z).map Sale.cells) v) (RT:RowsAt h n 2 (truthRows Z) vt) {i:Nat} (hi:i<Z.length) :
  ∃ x0 o0 cs sz y0 p0 ct st,(∀ s,ixsA 6 s v (.int .i64 (i:Int))=.val (.ptr x0 o0) s)∧h.get x0=some (.cells cs sz)∧nth cs o0=.int .i64 Z[i].1.st∧nth cs (o0+1)=.int .i64 Z[i].1.gd ∧
   (∀ s,ixsA 2 s vt (.int .i64 (i:Int))=.val (.ptr y0 p0) s)∧h.get y0=some (.cells ct st)∧nth ct p0=.int .i64 Z[i].2.1∧nth ct (p0+1)=.int .i64 Z[i].2.2:=by
 obtain ⟨x0,o0,cs,sz,r1,r2,r3,r4⟩:=RS.at_ i (by simpa using hi)
 obtain ⟨y0,p0,ct,st,t1,t2,t3,t4⟩:=RT.at_ i (by rw [truthRows_len];exact hi)
 have e1:((salesZ Z).map Sale.cells)[i]'(by simpa using hi)=Z[i].1.cells:=by simp [salesZ]
 have e2:(truthRows Z)[i]'(by rw [truthRows_len];exact hi)=[.int .i64 Z[i].2.1,.int .i64 Z[i].2.2]:=by simp [truthRows]
 rw [e1] at r4
 rw [e2] at t4
 exact ⟨x0,o0,cs,sz,y0,p0,ct,st,r2,r3,nth_cut r4 (j:=0) (by simp [Sale.cells]),nth_cut r4 (j:=1) (by simp [Sale.cells]),t2,t3,nth_cut t4 (j:=0) (by simp),nth_cut t4 (j:=1) (by simp)⟩
theorem take_range (k:Int):∀ Z:List Sold,AllOk Z→0≤takeZ k Z∧takeZ k Z≤10000 * Z.length
 | [],_=>by unfold takeZ;simp
 | z::r,h=>by
  obtain ⟨a,b⟩:=take_range k r h.tail
  obtain ⟨g0,g1,g2,g3,c0,c1,c2,c3⟩:=h z (List.mem_cons_self ..)
  have e0:0≤z.2.1 * z.2.2:=Int.mul_nonneg (by omega) (by omega)
  have e1:z.2.1 * z.2.2≤5000 * 2000:=Int.mul_le_mul (by omega) (by omega) (by omega) (by omega)
  unfold takeZ
  rw [List.length_cons]
  split<;>omega
theorem takings_ok {N:Nat} {Z:List Sold} {ks kg:AV} {v vt:AV} {k:Int} {s:St} (hN:1≤N) (ok:AllOk Z) (hl:Z.length≤40) (hsc:scalars [ks,kg,v]=true) (RS:RowsAt s.h s.n 6 ((salesZ Z).map Sale.cells) v) (RT:RowsAt s.h s.n 2 (truthRows Z) vt) (hs:s.n+1000≤far) :
  call Try.prog X N (.fn 18) [.agg [ks,kg,v],vt,.int .i64 k] s=.val (.int .i64 (takeZ k Z)) s:=by
 obtain ⟨n,rfl⟩:∃ n,N=n+1:=⟨N - 1,by omega⟩
 have hf:far=1000000000:=rfl
 refine call_plain' Try.func18 (fun u uh un um=>?_) rfl
 rw [← uh,← un] at RS RT
 rw [← un] at hs
 have kv:∀ t,okA (.val v t)=.val v t:=fun t=>okA_ne RS.ne
 have kt:∀ t,okA (.val vt t)=.val vt t:=fun t=>okA_ne RT.ne
 have lt:=RT.len
 rw [truthRows_len] at lt
 obtain ⟨w,hw⟩:∃ w:St,w=u.new (.cells [ks,kg,v] (tag 27)):=⟨_,rfl⟩
 have wn:w.n=u.n+1:=by rw [hw];rfl
 have wm:w.m=far:=by rw [hw];exact um
 have wg:∀ c,c<u.n→w.h.get c=u.h.get c:=fun c hc=>by rw [hw,get_new_ne _ _ _ (by omega)]
 have w0:w.h.get u.n=some (.cells [ks,kg,v] (tag 27)):=by rw [hw];exact get_new_eq _ _ _ rfl (by omega)
 have RS:=RS.grow wg (by omega:u.n≤w.n)
 have RT:=RT.grow wg (by omega:u.n≤w.n)
 rw [enter18]
 simp (disch:=first|omega|(with_unfolding_all exact rfl)|(simp only[new_n,put_n,new_m];omega)|(refine put_m_le ?_;simp only[new_m];omega)) only [K18,K18r0,Abs.W,reduceIte,Nat.reduceEqDiff,Nat.reduceAdd,decide_true,decide_false,kLoop_def,Nat.reduceSub,List.cons_append,List.nil_append,List.append_nil,List.length_cons,List.length_nil,Env.find_set,hsc,Nat.zero_add]
 rw [← hw]
 clear hw
 simp (disch:=first|omega|(with_unfolding_all exact rfl)|(simp only[new_n,put_n,new_m];omega)|(refine put_m_le ?_;simp only[new_m];omega)) only [K18r1,K18r2,Abs.W,reduceIte,Nat.reduceEqDiff,Nat.reduceAdd,decide_true,decide_false,kLoop_def,Nat.reduceSub,List.cons_append,List.nil_append,List.append_nil,List.length_cons,List.length_nil,Env.find_set]
 generalize hl1:loopN _ rounds _ _ _ _ _=q1
 obtain ⟨e,L1,s1,rfl,rfl,hq,hE⟩:=loop_of hl1
  (fun i L' t=>L'.find 1=vt∧L'.find 2=.int .i64 k∧L'.find 3=.ptr u.n 0∧L'.find 7=.int .i64 (takeZ k (Z.take i))∧L'.find 8=.int .i64 i∧t=w)
  (fun e L1 s1=>e=.exit 0∧L1.find 7=.int .i64 (takeZ k Z)∧s1=w)
  Z.length (by unfold rounds;omega) ⟨by simp only [find_cons,Env.find_set,reduceIte,Nat.reduceEqDiff],by simp only [find_cons,Env.find_set,reduceIte,Nat.reduceEqDiff],by simp only [find_cons,Env.find_set,reduceIte,Nat.reduceEqDiff],by simp only [find_cons,Env.find_set,reduceIte,Nat.reduceEqDiff];rfl,by simp only [find_cons,Env.find_set,reduceIte,Nat.reduceEqDiff];rfl,rfl⟩
  (fun i L' t hi ⟨q1,q2,q3,q7,q8,hE⟩=>by
   subst hE
   by_cases hlt:i<Z.length
   ·have e0:decide ((i:Int)<(Z.length:Int))=true:=decide_eq_true (by omega)
    obtain ⟨x0,o0,cs,sz,y0,p0,ct,st,r2,r3,r4,r5,t2,t3,t4,t5⟩:=sold_read RS RT hlt
    have hz:=ok _ (List.getElem_mem hlt)
    have hsn:=takeZ_snoc k Z[i] (Z.take i)
    rw [← take_snocZ hlt] at hsn
    obtain ⟨a0,a1⟩:=take_range k (Z.take i) (fun z hz=>ok z (List.mem_of_mem_take hz))
    have al:(Z.take i).length≤40:=by rw [List.length_take];omega
    have ad:∀ s,aAdd s .i64 (i:Int) 1=.val (.int .i64 ((i+1:Nat):Int)) s:=fun s=>by rw [aAdd_i64 s _ _ (by omega)];rfl
    generalize Z[i]=z at *
    obtain ⟨g0,g1,g2,g3,c0,c1,c2,c3⟩:=hz
    by_cases hst:z.1.st=k
    ·have e1:decide (z.1.st=k)=true:=decide_eq_true hst
     rw [if_pos hst] at hsn
     have m0:0≤z.2.1 * z.2.2:=Int.mul_nonneg (by omega) (by omega)
     have m1:z.2.1 * z.2.2≤5000 * 2000:=Int.mul_le_mul (by omega) (by omega) (by omega) (by omega)
     have mu:∀ s,aMul s .i64 z.2.1 z.2.2=.val (.int .i64 (z.2.1 * z.2.2)) s:=fun s=>by
      rw [aMul_def,wrapA_eq]
      congr 2
      exact IntWalk.i64_in _ (by show -9223372036854775808≤z.2.1 * z.2.2∧z.2.1 * z.2.2≤9223372036854775807;omega)
     have qu:∀ s,aQuo s .i64 (z.2.1 * z.2.2) 1000=.val (.int .i64 (z.2.1 * z.2.2 / 1000)) s:=fun s=>by
      rw [aQuo_ne _ _ _ _ (by decide),wrapA_eq,Int.tdiv_eq_ediv_of_nonneg m0]
      congr 2
      exact IntWalk.i64_in _ (by show -9223372036854775808≤z.2.1 * z.2.2 / 1000∧z.2.1 * z.2.2 / 1000≤9223372036854775807;omega)
     have ad2:∀ s,aAdd s .i64 (takeZ k (Z.take i)) (z.2.1 * z.2.2 / 1000)=.val (.int .i64 (takeZ k (Z.take (i+1)))) s:=fun s=>by rw [hsn];exact aAdd_i64 s _ _ (by omega)
     refine .inl ⟨hlt,_,_,by
      simp (config:={ maxSteps:=3000000 }) (disch:=first|omega|(with_unfolding_all exact rfl)|(simp only[new_n,put_n,new_m];omega)|(refine put_m_le ?_;simp only[new_m];omega)) only [K18l0,K18r3,K18r4,K18r5,K18r6,Abs.W,reduceIte,Nat.reduceEqDiff,Nat.reduceAdd,decide_true,decide_false,kLoop_def,Nat.reduceSub,List.cons_append,List.nil_append,List.append_nil,List.length_cons,List.length_nil,Env.find_set,q1,q2,q3,q7,q8,kv,kt,lt,e0,e1,w0,r2,r3,r4,r5,t2,t3,t4,t5,mu,qu,ad,ad2,endO_nil,Nat.zero_add,Nat.add_zero]
      rfl,?_,?_,?_,?_,?_,rfl⟩<;>simp only [Env.find_set,q1,q2,q3,reduceIte,Nat.reduceEqDiff]
    ·have e1:decide (z.1.st=k)=false:=decide_eq_false hst
     rw [if_neg hst,Int.add_zero] at hsn
     refine .inl ⟨hlt,_,_,by
      simp (config:={ maxSteps:=3000000 }) (disch:=first|omega|(with_unfolding_all exact rfl)|(simp only[new_n,put_n,new_m];omega)|(refine put_m_le ?_;simp only[new_m];omega)) only [K18l0,K18r3,K18r4,K18r6,Abs.W,reduceIte,Nat.reduceEqDiff,Nat.reduceAdd,decide_true,decide_false,kLoop_def,Nat.reduceSub,List.cons_append,List.nil_append,List.append_nil,List.length_cons,List.length_nil,Env.find_set,q1,q2,q3,q7,q8,kv,kt,lt,e0,e1,w0,r2,r3,r4,ad,Nat.zero_add,Nat.add_zero]
      rfl,?_,?_,?_,?_,?_,rfl⟩<;>simp only [Env.find_set,q1,q2,q3,q7,hsn,reduceIte,Nat.reduceEqDiff]
   ·obtain rfl:i=Z.length:=by omega
    have e0:decide ((Z.length:Int)<(Z.length:Int))=false:=by simp
    rw [List.take_length] at q7
    refine .inr ⟨.exit 0,L'.set 12 (.bool false),_,by simp,?_,rfl,by simp only [Env.find_set,q7,reduceIte,Nat.reduceEqDiff],rfl⟩
    simp (config:={ maxSteps:=3000000 }) (disch:=first|omega|(with_unfolding_all exact rfl)|(simp only[new_n,put_n,new_m];omega)|(refine put_m_le ?_;simp only[new_m];omega)) only [K18l0,K18r3,Abs.W,reduceIte,Nat.reduceEqDiff,Nat.reduceAdd,decide_true,decide_false,kLoop_def,Nat.reduceSub,List.cons_append,List.nil_append,List.append_nil,List.length_cons,List.length_nil,Env.find_set,q1,q8,kt,lt,e0,Nat.zero_add])
 subst hE
 simp (disch:=first|omega|(with_unfolding_all exact rfl)|(simp only[new_n,put_n,new_m];omega)|(refine put_m_le ?_;simp only[new_m];omega)) only [res18,K18r0,K18r1,K18r2,K18r3,K18r4,K18r5,K18r6,K18r7,K18,Abs.W,reduceIte,Nat.reduceEqDiff,Nat.reduceAdd,decide_true,decide_false,kLoop_def,Nat.reduceSub,List.cons_append,List.nil_append,List.append_nil,List.length_cons,List.length_nil,Env.find_set,hq]
 refine ⟨_,rfl,?_⟩
 omega
end Go.Proofs.Ytamlnddeiokbdaa.walk
