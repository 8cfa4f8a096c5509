/- The document's own answers: dues, the price of what truly is sold; takings. -/
import Derived.Test.YtamlnddeiokbdaaM4
import Derived.Test.YtamlnddeiokbdaaCodes
import Derived.Test.YtamlnddeiokbdaaM1
import Derived.Test.YtamlnddeiokbdaaWalkAll
set_option linter.unusedSimpArgs false
set_option maxHeartbeats 16000000
set_option linter.unusedVariables false
set_option maxRecDepth 10000
namespace Go.Abs
theorem nth_app:∀ {r t:List AV} {j:Nat},j<r.length→nth (r++t) j=nth r j
 | [],_,_,h=>by simp at h
 | a::r,t,0,_=>by rw [List.cons_append,nth_cons,nth_cons];rfl
 | a::r,t,j+1,h=>by
  rw [List.cons_append,nth_cons,nth_cons,if_neg (by omega),if_neg (by omega)]
  exact nth_app (by simpa using h)
theorem nth_cut {o k j:Nat} {c r:List AV} (h:cut o k c=some r) (hj:j<r.length):nth c (o+j)=nth r j:=by
 obtain ⟨a,t,z1,z2,z3⟩:=cut_some h
 rw [z1,← z2,List.append_assoc,nth_skip,nth_app hj]
theorem fr_mono {l:List Step} (ok:StepsOk l) {i:Nat}:∀ j,i≤j→j<l.length→(stepAt l i).fr≤(stepAt l j).fr
 | 0,h,_=>by
  obtain rfl:i=0:=by omega
  exact Int.le_refl _
 | j+1,h,hj=>by
  by_cases e:i=j+1
  ·subst e;exact Int.le_refl _
  ·have a:=fr_mono ok (i:=i) j (by omega) (by omega)
   have b:=ok.up j hj
   omega
theorem share_stop {l:List Step} (ok:StepsOk l) {t:Int} (ht:0≤t) {i:Nat} (hi:i<l.length) (h:t≤(stepAt l i).fr):∀ j,i≤j→j≤l.length→shareTo l t j=shareTo l t i
 | 0,h1,_=>by
  obtain rfl:i=0:=by omega
  rfl
 | j+1,h1,hj=>by
  by_cases e:i=j+1
  ·subst e;rfl
  ·have a:=share_stop ok ht hi h j (by omega) (by omega)
   have b:=fr_mono ok (i:=i) j (by omega) (by omega)
   have c:max 0 (upTo l t j - (stepAt l j).fr)=0:=by
    unfold upTo
    by_cases h:j+1<l.length<;>simp only [h,if_true,if_false]<;>omega
   show shareTo l t j+partI l t j=_
   unfold partI
   rw [c,Int.zero_mul,a]
   omega
end Go.Abs
namespace Go.Proofs.Ytamlnddeiokbdaa.walk
open Go.Abs Go.Proofs.Ytamlnddeiokbdaa.code
theorem dueRef_ok {N b sz:Nat} {l:List Step} {x:Int} {s:St} (hN:1≤N) (ok:StepsOk l) (hx:0≤x∧x≤1000000000) (hb:s.h.get b=some (.cells (l.map Step.cells).flatten sz)) (hs:s.n+1000≤far) :
  call Try.prog X N (.fn 19) [.slice b 0 l.length l.length true,.int .i64 x] s=.val (.int .i64 (dueI l x)) s:=by
 obtain ⟨n,rfl⟩:∃ n,N=n+1:=⟨N - 1,by omega⟩
 have hf:far=1000000000:=rfl
 refine call_plain' Try.func19 (fun u uh un um=>?_) rfl
 rw [← uh] at hb
 rw [← un] at hs
 have n0:=ok.n0
 have n1:=ok.n1
 rw [enter19]
 simp (disch:=first|omega|(with_unfolding_all exact rfl)|(simp only[new_n,put_n,new_m];omega)|(refine put_m_le ?_;simp only[new_m];omega)) only [res19,K19r0,K19r1,K19r2,K19r3s12,K19r3s11,K19r3s10,K19r3s9,K19r3s8,K19r3s7,K19r3s6,K19r3,K19r4,K19r5,K19r6,K19r7,K19r8,K19r9,K19,Abs.W,reduceIte,Nat.reduceEqDiff,Nat.reduceAdd,decide_true,decide_false,kLoop_def,Nat.reduceSub,List.cons_append,List.nil_append,List.append_nil,List.length_cons,List.length_nil,Env.find_set]
 generalize hl1:loopN _ rounds _ _ _ _ _=q1
 obtain ⟨e,L1,s1,rfl,rfl,hq,hE⟩:=loop_of hl1
  (fun i L' t=>L'.find 0=.slice b 0 l.length l.length true∧L'.find 1=.int .i64 x∧L'.find 5=.int .i64 (shareTo l x i)∧L'.find 6=.int .i64 i∧t=u)
  (fun e L1 s1=>e=.exit 0∧L1.find 5=.int .i64 (shareTo l x l.length)∧s1=u)
  l.length (by unfold rounds;omega) ⟨by simp only [find_cons,Env.find_set,reduceIte,Nat.reduceEqDiff],by simp only [find_cons,Env.find_set,reduceIte,Nat.reduceEqDiff],by simp only [find_cons,Env.find_set,reduceIte,Nat.reduceEqDiff];rfl,by simp only [find_cons,Env.find_set,reduceIte,Nat.reduceEqDiff];rfl,rfl⟩
  (fun i L' t hi ⟨q0,q1,q5,q6,hE⟩=>by
   subst hE
   have u3s6:=fun cl L s=>congrFun (congrFun (congrFun K19r3s6.eq_1 cl) L) s
   have u3s7:=fun cl L s=>congrFun (congrFun (congrFun K19r3s7.eq_1 cl) L) s
   have u3s8:=fun cl L s=>congrFun (congrFun (congrFun K19r3s8.eq_1 cl) L) s
   have u3s9:=fun cl L s=>congrFun (congrFun (congrFun K19r3s9.eq_1 cl) L) s
   have u3s10:=fun cl L s=>congrFun (congrFun (congrFun K19r3s10.eq_1 cl) L) s
   have u3s11:=fun cl L s=>congrFun (congrFun (congrFun K19r3s11.eq_1 cl) L) s
   have u3s12:=fun cl L s=>congrFun (congrFun (congrFun K19r3s12.eq_1 cl) L) s
   by_cases hlt:i<l.length
   ·have e0:decide ((i:Int)<(l.length:Int))=true:=decide_eq_true (by omega)
    have ix:∀ s,ixsA 2 s (.slice b 0 l.length l.length true) (.int .i64 (i:Int))=.val (.ptr b (i * 2)) s:=fun s=>by rw [ixs_slice _ _ _ _ _ _ _ _ hlt,Nat.zero_add]
    have nt:=step_nth hlt
    have nt2:nth (l.map Step.cells).flatten (i * 2+1)=.int .i64 (stepAt l i).sh:=nth_cut (step_cut hlt) (j:=1) (by simp)
    have f1:=ok.f1 i hlt
    have s0:=ok.s0 i hlt
    have s1:=ok.s1 i hlt
    have ad:∀ s,aAdd s .i64 (i:Int) 1=.val (.int .i64 ((i+1:Nat):Int)) s:=fun s=>by rw [aAdd_i64 s _ _ (by omega)];rfl
    by_cases hst:(stepAt l i).fr<x
    ·have e1:decide ((stepAt l i).fr<x)=true:=decide_eq_true hst
     obtain ⟨r0,r1⟩:=share_range ok hx.1 i (by omega)
     obtain ⟨r2,r3⟩:=share_range ok hx.1 (i+1) (by omega)
     have hS:shareTo l x (i+1)=shareTo l x i+partI l x i:=rfl
     have up0:(stepAt l i).fr≤upTo l x i∧upTo l x i≤x:=by
      unfold upTo
      by_cases h:i+1<l.length
      ·have:=ok.up i h
       rw [if_pos h];omega
      ·rw [if_neg h];omega
     have sb:∀ s,aSub s .i64 (upTo l x i) (stepAt l i).fr=.val (.int .i64 (upTo l x i - (stepAt l i).fr)) s:=fun s=>aSub_i64 s _ _ (by omega)
     have hP:partI l x i=(upTo l x i - (stepAt l i).fr) * (stepAt l i).sh:=by unfold partI;rw [show max 0 (upTo l x i - (stepAt l i).fr)=upTo l x i - (stepAt l i).fr by omega]
     have mu:∀ s,aMul s .i64 (upTo l x i - (stepAt l i).fr) (stepAt l i).sh=.val (.int .i64 (partI l x i)) s:=fun s=>by
      have hP':partI l x i=Int.mul (upTo l x i - (stepAt l i).fr) (stepAt l i).sh:=hP
      rw [aMul_def,wrapA_eq,← hP']
      congr 2
      exact IntWalk.i64_in _ (by omega)
     have ad2:∀ s,aAdd s .i64 (shareTo l x i) (partI l x i)=.val (.int .i64 (shareTo l x (i+1))) s:=fun s=>aAdd_i64 s _ _ (by omega)
     by_cases h:i+1<l.length
     ·have e2:decide (((i+1:Nat):Int)<(l.length:Int))=true:=decide_eq_true (by omega)
      have hU:min x (stepAt l (i+1)).fr=upTo l x i:=by unfold upTo;rw [if_pos h]
      have ix1:∀ s,ixsA 2 s (.slice b 0 l.length l.length true) (.int .i64 ((i+1:Nat):Int))=.val (.ptr b ((i+1) * 2)) s:=fun s=>by rw [ixs_slice _ _ _ _ _ _ _ _ h,Nat.zero_add]
      have nt1:=step_nth (l:=l) (i:=i+1) h
      refine .inl ⟨hlt,_,_,by
       simp (config:={ maxSteps:=3000000 }) (disch:=first|omega|(with_unfolding_all exact rfl)|(simp only[new_n,put_n,new_m];omega)|(refine put_m_le ?_;simp only[new_m];omega)) only [K19l0,K19r3,K19r4,K19r5,K19r6,K19r7,K19r8,u3s6,u3s7,u3s8,u3s9,u3s10,u3s11,u3s12,Abs.W,reduceIte,Nat.reduceEqDiff,Nat.reduceAdd,decide_true,decide_false,kLoop_def,Nat.reduceSub,List.cons_append,List.nil_append,List.append_nil,List.length_cons,List.length_nil,Env.find_set,q0,q1,q5,q6,e0,e1,e2,ix,ix1,nt,nt1,nt2,hb,ad,kFold_def,foldA_nil,foldA_cons,minA_i64,hU,sb,mu,ad2,endO_nil,Nat.zero_add,Nat.add_zero]
       rfl,?_,?_,?_,?_,rfl⟩<;>simp only [Env.find_set,q0,q1,reduceIte,Nat.reduceEqDiff]
     ·have e2:decide (((i+1:Nat):Int)<(l.length:Int))=false:=decide_eq_false (by omega)
      have hU:x=upTo l x i:=by unfold upTo;rw [if_neg h]
      have sb:∀ s,aSub s .i64 x (stepAt l i).fr=.val (.int .i64 (upTo l x i - (stepAt l i).fr)) s:=fun s=>by have:=sb s;rw [← hU] at this ⊢;exact this
      refine .inl ⟨hlt,_,_,by
       simp (config:={ maxSteps:=3000000 }) (disch:=first|omega|(with_unfolding_all exact rfl)|(simp only[new_n,put_n,new_m];omega)|(refine put_m_le ?_;simp only[new_m];omega)) only [K19l0,K19r3,K19r4,K19r5,K19r6,K19r7,K19r8,u3s6,u3s7,u3s8,u3s9,u3s10,u3s11,u3s12,Abs.W,reduceIte,Nat.reduceEqDiff,Nat.reduceAdd,decide_true,decide_false,kLoop_def,Nat.reduceSub,List.cons_append,List.nil_append,List.append_nil,List.length_cons,List.length_nil,Env.find_set,q0,q1,q5,q6,e0,e1,e2,ix,nt,nt2,hb,ad,sb,mu,ad2,endO_nil,Nat.zero_add,Nat.add_zero]
       rfl,?_,?_,?_,?_,rfl⟩<;>simp only [Env.find_set,q0,q1,reduceIte,Nat.reduceEqDiff]
    ·have e1:decide ((stepAt l i).fr<x)=false:=decide_eq_false hst
     have hst':=share_stop ok hx.1 hlt (by omega) l.length (by omega) (Nat.le_refl _)
     refine .inr ⟨.exit 0,L'.set 20 (.bool false),_,by simp,?_,rfl,by simp only [Env.find_set,q5,hst',reduceIte,Nat.reduceEqDiff],rfl⟩
     simp (config:={ maxSteps:=3000000 }) (disch:=first|omega|(with_unfolding_all exact rfl)|(simp only[new_n,put_n,new_m];omega)|(refine put_m_le ?_;simp only[new_m];omega)) only [K19l0,K19r3,u3s6,u3s7,u3s8,u3s9,u3s10,u3s11,u3s12,Abs.W,reduceIte,Nat.reduceEqDiff,Nat.reduceAdd,decide_true,decide_false,kLoop_def,Nat.reduceSub,List.cons_append,List.nil_append,List.append_nil,List.length_cons,List.length_nil,Env.find_set,q0,q1,q5,q6,e0,e1,ix,nt,hb,Nat.zero_add,Nat.add_zero]
   ·obtain rfl:i=l.length:=by omega
    have e0:decide ((l.length:Int)<(l.length:Int))=false:=by simp
    refine .inr ⟨.exit 0,L'.set 20 (.bool false),_,by simp,?_,rfl,by simp only [Env.find_set,q5,reduceIte,Nat.reduceEqDiff],rfl⟩
    simp (config:={ maxSteps:=3000000 }) (disch:=first|omega|(with_unfolding_all exact rfl)|(simp only[new_n,put_n,new_m];omega)|(refine put_m_le ?_;simp only[new_m];omega)) only [K19l0,K19r3,u3s6,u3s7,u3s8,u3s9,u3s10,u3s11,u3s12,Abs.W,reduceIte,Nat.reduceEqDiff,Nat.reduceAdd,decide_true,decide_false,kLoop_def,Nat.reduceSub,List.cons_append,List.nil_append,List.append_nil,List.length_cons,List.length_nil,Env.find_set,q0,q1,q5,q6,e0,Nat.zero_add])
 subst hE
 obtain ⟨r0,r1⟩:=share_range ok hx.1 l.length (Nat.le_refl _)
 have qu:∀ s,aQuo s .i64 (shareTo l x l.length) 1000=.val (.int .i64 (dueI l x)) s:=fun s=>by
  rw [aQuo_ne _ _ _ _ (by decide),wrapA_eq,Int.tdiv_eq_ediv_of_nonneg r0]
  congr 2
  exact IntWalk.i64_in _ (by show -9223372036854775808≤shareTo l x l.length / 1000∧shareTo l x l.length / 1000≤9223372036854775807;omega)
 simp (disch:=first|omega|(with_unfolding_all exact rfl)|(simp only[new_n,put_n,new_m];omega)|(refine put_m_le ?_;simp only[new_m];omega)) only [res19,K19r0,K19r1,K19r2,K19r3s12,K19r3s11,K19r3s10,K19r3s9,K19r3s8,K19r3s7,K19r3s6,K19r3,K19r4,K19r5,K19r6,K19r7,K19r8,K19r9,K19,Abs.W,reduceIte,Nat.reduceEqDiff,Nat.reduceAdd,decide_true,decide_false,kLoop_def,Nat.reduceSub,List.cons_append,List.nil_append,List.append_nil,List.length_cons,List.length_nil,Env.find_set,hq,qu]
 refine ⟨_,rfl,?_⟩
 omega
def truthRows (Z:List Sold):List (List AV):=Z.map fun z=>[.int .i64 z.2.1,.int .i64 z.2.2]
theorem truthRows_len (Z:List Sold):(truthRows Z).length=Z.length:=List.length_map ..
theorem take_snocZ {Z:List Sold} {i:Nat} (h:i<Z.length):Z.take (i+1)=Z.take i++[Z[i]]:=List.take_succ_eq_append_getElem h
theorem sold_read {h:Heap} {n:Nat} {Z:List Sold} {v vt:AV} (RS:RowsAt h n 6 ((salesZ Z).map Sale.cells) v) (RT:RowsAt h n 2 (truthRows Z) vt) {i:Nat} (hi:i<Z.length) :
  ∃ x0 o0 cs sz y0 p0 ct st,(∀ s,ixsA 6 s v (.int .i64 (i:Int))=.val (.ptr x0 o0) s)∧h.get x0=some (.cells cs sz)∧nth cs o0=.int .i64 Z[i].1.st∧nth cs (o0+1)=.int .i64 Z[i].1.gd ∧
   (∀ s,ixsA 2 s vt (.int .i64 (i:Int))=.val (.ptr y0 p0) s)∧h.get y0=some (.cells ct st)∧nth ct p0=.int .i64 Z[i].2.1∧nth ct (p0+1)=.int .i64 Z[i].2.2:=by
 obtain ⟨x0,o0,cs,sz,r1,r2,r3,r4⟩:=RS.at_ i (by simpa using hi)
 obtain ⟨y0,p0,ct,st,t1,t2,t3,t4⟩:=RT.at_ i (by rw [truthRows_len];exact hi)
 have e1:((salesZ Z).map Sale.cells)[i]'(by simpa using hi)=Z[i].1.cells:=by simp [salesZ]
 have e2:(truthRows Z)[i]'(by rw [truthRows_len];exact hi)=[.int .i64 Z[i].2.1,.int .i64 Z[i].2.2]:=by simp [truthRows]
 rw [e1] at r4
 rw [e2] at t4
 exact ⟨x0,o0,cs,sz,y0,p0,ct,st,r2,r3,nth_cut r4 (j:=0) (by simp [Sale.cells]),nth_cut r4 (j:=1) (by simp [Sale.cells]),t2,t3,nth_cut t4 (j:=0) (by simp),nth_cut t4 (j:=1) (by simp)⟩
theorem take_range (k:Int):∀ Z:List Sold,AllOk Z→0≤takeZ k Z∧takeZ k Z≤10000 * Z.length
 | [],_=>by unfold takeZ;simp
 | z::r,h=>by
  obtain ⟨a,b⟩:=take_range k r h.tail
  obtain ⟨g0,g1,g2,g3,c0,c1,c2,c3⟩:=h z (List.mem_cons_self ..)
  have e0:0≤z.2.1 * z.2.2:=Int.mul_nonneg (by omega) (by omega)
  have e1:z.2.1 * z.2.2≤5000 * 2000:=Int.mul_le_mul (by omega) (by omega) (by omega) (by omega)
  unfold takeZ
  rw [List.length_cons]
  split<;>omega
theorem takings_ok {N:Nat} {Z:List Sold} {ks kg:AV} {v vt:AV} {k:Int} {s:St} (hN:1≤N) (ok:AllOk Z) (hl:Z.length≤40) (hsc:scalars [ks,kg,v]=true) (RS:RowsAt s.h s.n 6 ((salesZ Z).map Sale.cells) v) (RT:RowsAt s.h s.n 2 (truthRows Z) vt) (hs:s.n+1000≤far) :
  call Try.prog X N (.fn 18) [.agg [ks,kg,v],vt,.int .i64 k] s=.val (.int .i64 (takeZ k Z)) s:=by
 obtain ⟨n,rfl⟩:∃ n,N=n+1:=⟨N - 1,by omega⟩
 have hf:far=1000000000:=rfl
 refine call_plain' Try.func18 (fun u uh un um=>?_) rfl
 rw [← uh,← un] at RS RT
 rw [← un] at hs
 have kv:∀ t,okA (.val v t)=.val v t:=fun t=>okA_ne RS.ne
 have kt:∀ t,okA (.val vt t)=.val vt t:=fun t=>okA_ne RT.ne
 have lt:=RT.len
 rw [truthRows_len] at lt
 obtain ⟨w,hw⟩:∃ w:St,w=u.new (.cells [ks,kg,v] (tag 27)):=⟨_,rfl⟩
 have wn:w.n=u.n+1:=by rw [hw];rfl
 have wm:w.m=far:=by rw [hw];exact um
 have wg:∀ c,c<u.n→w.h.get c=u.h.get c:=fun c hc=>by rw [hw,get_new_ne _ _ _ (by omega)]
 have w0:w.h.get u.n=some (.cells [ks,kg,v] (tag 27)):=by rw [hw];exact get_new_eq _ _ _ rfl (by omega)
 have RS:=RS.grow wg (by omega:u.n≤w.n)
 have RT:=RT.grow wg (by omega:u.n≤w.n)
 rw [enter18]
 simp (disch:=first|omega|(with_unfolding_all exact rfl)|(simp only[new_n,put_n,new_m];omega)|(refine put_m_le ?_;simp only[new_m];omega)) only [K18,K18r0,Abs.W,reduceIte,Nat.reduceEqDiff,Nat.reduceAdd,decide_true,decide_false,kLoop_def,Nat.reduceSub,List.cons_append,List.nil_append,List.append_nil,List.length_cons,List.length_nil,Env.find_set,hsc,Nat.zero_add]
 rw [← hw]
 clear hw
 simp (disch:=first|omega|(with_unfolding_all exact rfl)|(simp only[new_n,put_n,new_m];omega)|(refine put_m_le ?_;simp only[new_m];omega)) only [K18r1,K18r2,Abs.W,reduceIte,Nat.reduceEqDiff,Nat.reduceAdd,decide_true,decide_false,kLoop_def,Nat.reduceSub,List.cons_append,List.nil_append,List.append_nil,List.length_cons,List.length_nil,Env.find_set]
 generalize hl1:loopN _ rounds _ _ _ _ _=q1
 obtain ⟨e,L1,s1,rfl,rfl,hq,hE⟩:=loop_of hl1
  (fun i L' t=>L'.find 1=vt∧L'.find 2=.int .i64 k∧L'.find 3=.ptr u.n 0∧L'.find 7=.int .i64 (takeZ k (Z.take i))∧L'.find 8=.int .i64 i∧t=w)
  (fun e L1 s1=>e=.exit 0∧L1.find 7=.int .i64 (takeZ k Z)∧s1=w)
  Z.length (by unfold rounds;omega) ⟨by simp only [find_cons,Env.find_set,reduceIte,Nat.reduceEqDiff],by simp only [find_cons,Env.find_set,reduceIte,Nat.reduceEqDiff],by simp only [find_cons,Env.find_set,reduceIte,Nat.reduceEqDiff],by simp only [find_cons,Env.find_set,reduceIte,Nat.reduceEqDiff];rfl,by simp only [find_cons,Env.find_set,reduceIte,Nat.reduceEqDiff];rfl,rfl⟩
  (fun i L' t hi ⟨q1,q2,q3,q7,q8,hE⟩=>by
   subst hE
   by_cases hlt:i<Z.length
   ·have e0:decide ((i:Int)<(Z.length:Int))=true:=decide_eq_true (by omega)
    obtain ⟨x0,o0,cs,sz,y0,p0,ct,st,r2,r3,r4,r5,t2,t3,t4,t5⟩:=sold_read RS RT hlt
    have hz:=ok _ (List.getElem_mem hlt)
    have hsn:=takeZ_snoc k Z[i] (Z.take i)
    rw [← take_snocZ hlt] at hsn
    obtain ⟨a0,a1⟩:=take_range k (Z.take i) (fun z hz=>ok z (List.mem_of_mem_take hz))
    have al:(Z.take i).length≤40:=by rw [List.length_take];omega
    have ad:∀ s,aAdd s .i64 (i:Int) 1=.val (.int .i64 ((i+1:Nat):Int)) s:=fun s=>by rw [aAdd_i64 s _ _ (by omega)];rfl
    generalize Z[i]=z at *
    obtain ⟨g0,g1,g2,g3,c0,c1,c2,c3⟩:=hz
    by_cases hst:z.1.st=k
    ·have e1:decide (z.1.st=k)=true:=decide_eq_true hst
     rw [if_pos hst] at hsn
     have m0:0≤z.2.1 * z.2.2:=Int.mul_nonneg (by omega) (by omega)
     have m1:z.2.1 * z.2.2≤5000 * 2000:=Int.mul_le_mul (by omega) (by omega) (by omega) (by omega)
     have mu:∀ s,aMul s .i64 z.2.1 z.2.2=.val (.int .i64 (z.2.1 * z.2.2)) s:=fun s=>by
      rw [aMul_def,wrapA_eq]
      congr 2
      exact IntWalk.i64_in _ (by show -9223372036854775808≤z.2.1 * z.2.2∧z.2.1 * z.2.2≤9223372036854775807;omega)
     have qu:∀ s,aQuo s .i64 (z.2.1 * z.2.2) 1000=.val (.int .i64 (z.2.1 * z.2.2 / 1000)) s:=fun s=>by
      rw [aQuo_ne _ _ _ _ (by decide),wrapA_eq,Int.tdiv_eq_ediv_of_nonneg m0]
      congr 2
      exact IntWalk.i64_in _ (by show -9223372036854775808≤z.2.1 * z.2.2 / 1000∧z.2.1 * z.2.2 / 1000≤9223372036854775807;omega)
     have ad2:∀ s,aAdd s .i64 (takeZ k (Z.take i)) (z.2.1 * z.2.2 / 1000)=.val (.int .i64 (takeZ k (Z.take (i+1)))) s:=fun s=>by rw [hsn];exact aAdd_i64 s _ _ (by omega)
     refine .inl ⟨hlt,_,_,by
      simp (config:={ maxSteps:=3000000 }) (disch:=first|omega|(with_unfolding_all exact rfl)|(simp only[new_n,put_n,new_m];omega)|(refine put_m_le ?_;simp only[new_m];omega)) only [K18l0,K18r3,K18r4,K18r5,K18r6,Abs.W,reduceIte,Nat.reduceEqDiff,Nat.reduceAdd,decide_true,decide_false,kLoop_def,Nat.reduceSub,List.cons_append,List.nil_append,List.append_nil,List.length_cons,List.length_nil,Env.find_set,q1,q2,q3,q7,q8,kv,kt,lt,e0,e1,w0,r2,r3,r4,r5,t2,t3,t4,t5,mu,qu,ad,ad2,endO_nil,Nat.zero_add,Nat.add_zero]
      rfl,?_,?_,?_,?_,?_,rfl⟩<;>simp only [Env.find_set,q1,q2,q3,reduceIte,Nat.reduceEqDiff]
    ·have e1:decide (z.1.st=k)=false:=decide_eq_false hst
     rw [if_neg hst,Int.add_zero] at hsn
     refine .inl ⟨hlt,_,_,by
      simp (config:={ maxSteps:=3000000 }) (disch:=first|omega|(with_unfolding_all exact rfl)|(simp only[new_n,put_n,new_m];omega)|(refine put_m_le ?_;simp only[new_m];omega)) only [K18l0,K18r3,K18r4,K18r6,Abs.W,reduceIte,Nat.reduceEqDiff,Nat.reduceAdd,decide_true,decide_false,kLoop_def,Nat.reduceSub,List.cons_append,List.nil_append,List.append_nil,List.length_cons,List.length_nil,Env.find_set,q1,q2,q3,q7,q8,kv,kt,lt,e0,e1,w0,r2,r3,r4,ad,Nat.zero_add,Nat.add_zero]
      rfl,?_,?_,?_,?_,?_,rfl⟩<;>simp only [Env.find_set,q1,q2,q3,q7,hsn,reduceIte,Nat.reduceEqDiff]
   ·obtain rfl:i=Z.length:=by omega
    have e0:decide ((Z.length:Int)<(Z.length:Int))=false:=by simp
    rw [List.take_length] at q7
    refine .inr ⟨.exit 0,L'.set 12 (.bool false),_,by simp,?_,rfl,by simp only [Env.find_set,q7,reduceIte,Nat.reduceEqDiff],rfl⟩
    simp (config:={ maxSteps:=3000000 }) (disch:=first|omega|(with_unfolding_all exact rfl)|(simp only[new_n,put_n,new_m];omega)|(refine put_m_le ?_;simp only[new_m];omega)) only [K18l0,K18r3,Abs.W,reduceIte,Nat.reduceEqDiff,Nat.reduceAdd,decide_true,decide_false,kLoop_def,Nat.reduceSub,List.cons_append,List.nil_append,List.append_nil,List.length_cons,List.length_nil,Env.find_set,q1,q8,kt,lt,e0,Nat.zero_add])
 subst hE
 simp (disch:=first|omega|(with_unfolding_all exact rfl)|(simp only[new_n,put_n,new_m];omega)|(refine put_m_le ?_;simp only[new_m];omega)) only [res18,K18r0,K18r1,K18r2,K18r3,K18r4,K18r5,K18r6,K18r7,K18,Abs.W,reduceIte,Nat.reduceEqDiff,Nat.reduceAdd,decide_true,decide_false,kLoop_def,Nat.reduceSub,List.cons_append,List.nil_append,List.append_nil,List.length_cons,List.length_nil,Env.find_set,hq]
 refine ⟨_,rfl,?_⟩
 omega
end Go.Proofs.Ytamlnddeiokbdaa.walk
set_option maxRecDepth 10000
namespace Go.Proofs.Ytamlnddeiokbdaa.walk
open Go.Abs Go.Proofs.Ytamlnddeiokbdaa.code
theorem leave_tt {P:Program} (a b:Nat) (L:Env) (s:St):leaveA P [.tmp a,.tmp b] L [] s=.val (.tup [L.find a,L.find b]) s:=rfl
theorem AllOk.take {Z:List Sold} (ok:AllOk Z) (i:Nat):AllOk (Z.take i):=fun z hz=>ok z (List.mem_of_mem_take hz)
theorem fair_inner (cl:CallF) (cx:Ctx) {Z:List Sold} {ks kg v vt:AV} {g all best cents:Int} {some_:Bool} {p3 i j:Nat} {w:St} {L':Env} (ok:AllOk Z) (hl:Z.length≤40) (w0:w.h.get p3=some (.cells [ks,kg,v] (tag 27))) (RS:RowsAt w.h w.n 6 ((salesZ Z).map Sale.cells) v) (RT:RowsAt w.h w.n 2 (truthRows Z) vt) (hj:j≤Z.length)
  (k1:L'.find 1=vt) (k2:L'.find 2=.int .i64 g) (k3:L'.find 3=.ptr p3 0) (k8:L'.find 8=.int .i64 all) (k9:L'.find 9=.int .i64 best) (k10:L'.find 10=.bool some_) (k12:L'.find 12=.int .i64 i) (k13:L'.find 13=.int .i64 cents) (k14:L'.find 14=.int .i64 (uptoZ g cents (Z.take j))) (k15:L'.find 15=.int .i64 j) :
  (j<Z.length∧∃ L1 s1,K15l1 cl cx L' [] w=.done .norm L1 [] s1∧L1.find 1=vt∧L1.find 2=.int .i64 g∧L1.find 3=.ptr p3 0∧L1.find 8=.int .i64 all∧L1.find 9=.int .i64 best∧L1.find 10=.bool some_∧L1.find 12=.int .i64 i∧L1.find 13=.int .i64 cents∧L1.find 14=.int .i64 (uptoZ g cents (Z.take (j+1)))∧L1.find 15=.int .i64 ((j+1:Nat):Int)∧s1=w) ∨
  (∃ e L1 s1,e≠.norm∧K15l1 cl cx L' [] w=.done e L1 [] s1∧e=.exit 4∧L1.find 1=vt∧L1.find 2=.int .i64 g∧L1.find 3=.ptr p3 0∧L1.find 8=.int .i64 all∧L1.find 9=.int .i64 best∧L1.find 10=.bool some_∧L1.find 12=.int .i64 i∧L1.find 13=.int .i64 cents∧L1.find 14=.int .i64 (uptoZ g cents Z)∧s1=w):=by
 have kv:∀ t,okA (.val v t)=.val v t:=fun t=>okA_ne RS.ne
 have kt:∀ t,okA (.val vt t)=.val vt t:=fun t=>okA_ne RT.ne
 have lt:=RT.len
 rw [truthRows_len] at lt
 have u16s10:=fun cl L s=>congrFun (congrFun (congrFun K15r16s10.eq_1 cl) L) s
 have u16s11:=fun cl L s=>congrFun (congrFun (congrFun K15r16s11.eq_1 cl) L) s
 have u16s12:=fun cl L s=>congrFun (congrFun (congrFun K15r16s12.eq_1 cl) L) s
 have u16s13:=fun cl L s=>congrFun (congrFun (congrFun K15r16s13.eq_1 cl) L) s
 have u16s14:=fun cl L s=>congrFun (congrFun (congrFun K15r16s14.eq_1 cl) L) s
 have u16s15:=fun cl L s=>congrFun (congrFun (congrFun K15r16s15.eq_1 cl) L) s
 have u16s16:=fun cl L s=>congrFun (congrFun (congrFun K15r16s16.eq_1 cl) L) s
 by_cases hlt:j<Z.length
 ·have e0:decide ((j:Int)<(Z.length:Int))=true:=decide_eq_true (by omega)
  obtain ⟨x0,o0,cs,sz,y0,p0,ct,st,r2,r3,r4,r5,t2,t3,t4,t5⟩:=sold_read RS RT hlt
  have hz:=ok _ (List.getElem_mem hlt)
  have hsn:=uptoZ_snoc g cents Z[j] (Z.take j)
  rw [← take_snocZ hlt] at hsn
  obtain ⟨a0,a1⟩:=upto_range g cents (Z.take j) (ok.take j)
  obtain ⟨b0,b1⟩:=all_range g (Z.take j) (ok.take j)
  have al:(Z.take j).length≤40:=by rw [List.length_take];omega
  have ad:∀ s,aAdd s .i64 (j:Int) 1=.val (.int .i64 ((j+1:Nat):Int)) s:=fun s=>by rw [aAdd_i64 s _ _ (by omega)];rfl
  generalize Z[j]=z at *
  obtain ⟨g0,g1,g2,g3,c0,c1,c2,c3⟩:=hz
  by_cases hgd:z.1.gd=g
  ·have e1:decide (z.1.gd=g)=true:=decide_eq_true hgd
   by_cases hc:z.2.2≤cents
   ·have e2:decide (z.2.2≤cents)=true:=decide_eq_true hc
    rw [if_pos ⟨hgd,hc⟩] at hsn
    have ad2:∀ s,aAdd s .i64 (uptoZ g cents (Z.take j)) z.2.1=.val (.int .i64 (uptoZ g cents (Z.take (j+1)))) s:=fun s=>by rw [hsn];exact aAdd_i64 s _ _ (by omega)
    refine .inl ⟨hlt,_,_,by
     simp (config:={ maxSteps:=3000000 }) (disch:=first|omega|(with_unfolding_all exact rfl)|(simp only[new_n,put_n,new_m];omega)|(refine put_m_le ?_;simp only[new_m];omega)) only [K15l1,K15r15,K15r16,K15r17,K15r18,u16s10,u16s11,u16s12,u16s13,u16s14,u16s15,u16s16,Abs.W,reduceIte,Nat.reduceEqDiff,Nat.reduceAdd,decide_true,decide_false,kLoop_def,Nat.reduceSub,List.cons_append,List.nil_append,List.append_nil,List.length_cons,List.length_nil,Env.find_set,k1,k2,k3,k13,k14,k15,kv,kt,lt,e0,e1,e2,w0,r2,r3,r5,t2,t3,t4,t5,ad,ad2,Nat.zero_add,Nat.add_zero]
     rfl,?_,?_,?_,?_,?_,?_,?_,?_,?_,?_,rfl⟩<;>simp only [Env.find_set,k1,k2,k3,k8,k9,k10,k12,k13,reduceIte,Nat.reduceEqDiff]
   ·have e2:decide (z.2.2≤cents)=false:=decide_eq_false hc
    rw [if_neg (fun h=>hc h.2),Int.add_zero] at hsn
    refine .inl ⟨hlt,_,_,by
     simp (config:={ maxSteps:=3000000 }) (disch:=first|omega|(with_unfolding_all exact rfl)|(simp only[new_n,put_n,new_m];omega)|(refine put_m_le ?_;simp only[new_m];omega)) only [K15l1,K15r15,K15r16,K15r18,u16s10,u16s11,u16s12,u16s13,u16s14,u16s15,u16s16,Abs.W,reduceIte,Nat.reduceEqDiff,Nat.reduceAdd,decide_true,decide_false,kLoop_def,Nat.reduceSub,List.cons_append,List.nil_append,List.append_nil,List.length_cons,List.length_nil,Env.find_set,k1,k2,k3,k13,k14,k15,kv,kt,lt,e0,e1,e2,w0,r2,r3,r5,t2,t3,t4,t5,ad,Nat.zero_add,Nat.add_zero]
     rfl,?_,?_,?_,?_,?_,?_,?_,?_,?_,?_,rfl⟩<;>simp only [Env.find_set,k1,k2,k3,k8,k9,k10,k12,k13,k14,hsn,reduceIte,Nat.reduceEqDiff]
  ·have e1:decide (z.1.gd=g)=false:=decide_eq_false hgd
   rw [if_neg (fun h=>hgd h.1),Int.add_zero] at hsn
   refine .inl ⟨hlt,_,_,by
    simp (config:={ maxSteps:=3000000 }) (disch:=first|omega|(with_unfolding_all exact rfl)|(simp only[new_n,put_n,new_m];omega)|(refine put_m_le ?_;simp only[new_m];omega)) only [K15l1,K15r15,K15r16,K15r18,u16s10,u16s11,u16s12,u16s13,u16s14,u16s15,u16s16,Abs.W,reduceIte,Nat.reduceEqDiff,Nat.reduceAdd,decide_true,decide_false,kLoop_def,Nat.reduceSub,List.cons_append,List.nil_append,List.append_nil,List.length_cons,List.length_nil,Env.find_set,k1,k2,k3,k13,k14,k15,kv,kt,lt,e0,e1,w0,r2,r3,r5,ad,Nat.zero_add,Nat.add_zero]
    rfl,?_,?_,?_,?_,?_,?_,?_,?_,?_,?_,rfl⟩<;>simp only [Env.find_set,k1,k2,k3,k8,k9,k10,k12,k13,k14,hsn,reduceIte,Nat.reduceEqDiff]
 ·obtain rfl:j=Z.length:=by omega
  have e0:decide ((Z.length:Int)<(Z.length:Int))=false:=by simp
  rw [List.take_length] at k14
  refine .inr ⟨.exit 4,L'.set 69 (.bool false),_,by simp,?_,rfl,?_,?_,?_,?_,?_,?_,?_,?_,?_,rfl⟩
  ·simp (config:={ maxSteps:=3000000 }) (disch:=first|omega|(with_unfolding_all exact rfl)|(simp only[new_n,put_n,new_m];omega)|(refine put_m_le ?_;simp only[new_m];omega)) only [K15l1,K15r15,Abs.W,reduceIte,Nat.reduceEqDiff,Nat.reduceAdd,decide_true,decide_false,kLoop_def,Nat.reduceSub,List.cons_append,List.nil_append,List.append_nil,List.length_cons,List.length_nil,Env.find_set,k1,k15,kt,lt,e0,Nat.zero_add]
  all_goals simp only [Env.find_set,k1,k2,k3,k8,k9,k10,k12,k13,k14,reduceIte,Nat.reduceEqDiff]
theorem fair_round (cl:CallF) (cx:Ctx) {Z:List Sold} {ks kg v vt:AV} {g best:Int} {some_:Bool} {p3 i:Nat} {w:St} {L:Env} (ok:AllOk Z) (hl:Z.length≤40) (w0:w.h.get p3=some (.cells [ks,kg,v] (tag 27))) (RS:RowsAt w.h w.n 6 ((salesZ Z).map Sale.cells) v) (RT:RowsAt w.h w.n 2 (truthRows Z) vt) (hi:i<Z.length)
  (q1:L.find 1=vt) (q2:L.find 2=.int .i64 g) (q3:L.find 3=.ptr p3 0) (q8:L.find 8=.int .i64 (allG g Z)) (q9:L.find 9=.int .i64 best) (q10:L.find 10=.bool some_) (q12:L.find 12=.int .i64 i) :
  ∃ L1,K15l2 cl cx L [] w=.done .norm L1 [] w∧L1.find 1=vt∧L1.find 2=.int .i64 g∧L1.find 3=.ptr p3 0∧L1.find 8=.int .i64 (allG g Z)∧L1.find 9=.int .i64 (fairStep g (allG g Z) Z (best,some_) Z[i]).1∧L1.find 10=.bool (fairStep g (allG g Z) Z (best,some_) Z[i]).2∧L1.find 12=.int .i64 ((i+1:Nat):Int):=by
 have kv:∀ t,okA (.val v t)=.val v t:=fun t=>okA_ne RS.ne
 have kt:∀ t,okA (.val vt t)=.val vt t:=fun t=>okA_ne RT.ne
 have lt:=RT.len
 rw [truthRows_len] at lt
 have u12s10:=fun cl L s=>congrFun (congrFun (congrFun K15r12s10.eq_1 cl) L) s
 have u12s11:=fun cl L s=>congrFun (congrFun (congrFun K15r12s11.eq_1 cl) L) s
 have u12s12:=fun cl L s=>congrFun (congrFun (congrFun K15r12s12.eq_1 cl) L) s
 have u12s13:=fun cl L s=>congrFun (congrFun (congrFun K15r12s13.eq_1 cl) L) s
 have u12s14:=fun cl L s=>congrFun (congrFun (congrFun K15r12s14.eq_1 cl) L) s
 have u12s15:=fun cl L s=>congrFun (congrFun (congrFun K15r12s15.eq_1 cl) L) s
 have e0:decide ((i:Int)<(Z.length:Int))=true:=decide_eq_true (by omega)
 obtain ⟨x0,o0,cs,sz,y0,p0,ct,st,r2,r3,r4,r5,t2,t3,t4,t5⟩:=sold_read RS RT hi
 have ad:∀ s,aAdd s .i64 (i:Int) 1=.val (.int .i64 ((i+1:Nat):Int)) s:=fun s=>by rw [aAdd_i64 s _ _ (by omega)];rfl
 obtain ⟨b0,b1⟩:=all_range g Z ok
 generalize Z[i]=z at *
 obtain ⟨a0,a1⟩:=upto_range g z.2.2 Z ok
 have mu:∀ s,aMul s .i64 2 (uptoZ g z.2.2 Z)=.val (.int .i64 (2 * uptoZ g z.2.2 Z)) s:=fun s=>by
  rw [aMul_def,wrapA_eq]
  congr 2
  exact IntWalk.i64_in _ (by show -9223372036854775808≤2 * uptoZ g z.2.2 Z∧2 * uptoZ g z.2.2 Z≤9223372036854775807;omega)
 by_cases hgd:z.1.gd=g
 ·have e1:decide (z.1.gd=g)=true:=decide_eq_true hgd
  have e1':decide (z.1.gd≠g)=false:=decide_eq_false (fun h=>h hgd)
  cases some_ with
  | true =>
   by_cases hb:best≤z.2.2
   ·have e2:decide (best≤z.2.2)=true:=decide_eq_true hb
    have hS:fairStep g (allG g Z) Z (best,true) z=(best,true):=by unfold fairStep;rw [if_pos (.inr ⟨rfl,hb⟩)]
    rw [hS]
    simp (config:={ maxSteps:=3000000 }) (disch:=first|omega|(with_unfolding_all exact rfl)|(simp only[new_n,put_n,new_m];omega)|(refine put_m_le ?_;simp only[new_m];omega)) only [K15l2,K15r10,K15r11,K15r12,K15r21,u12s10,u12s11,u12s12,u12s13,u12s14,u12s15,Abs.W,reduceIte,Nat.reduceEqDiff,Nat.reduceAdd,decide_true,decide_false,kLoop_def,Nat.reduceSub,List.cons_append,List.nil_append,List.append_nil,List.length_cons,List.length_nil,Env.find_set,q1,q2,q3,q8,q9,q10,q12,kv,kt,lt,e0,e1,e2,w0,r2,r3,r5,t2,t3,t5,ad,Nat.zero_add,Nat.add_zero]
    refine ⟨_,rfl,?_,?_,?_,?_,?_,?_,?_⟩<;>simp only [Env.find_set,q1,q2,q3,q8,q9,q10,reduceIte,Nat.reduceEqDiff]
   ·have e2:decide (best≤z.2.2)=false:=decide_eq_false hb
    have hS:fairStep g (allG g Z) Z (best,true) z=if allG g Z≤2 * uptoZ g z.2.2 Z then (z.2.2,true) else (best,true):=by unfold fairStep;rw [if_neg (fun h=>by rcases h with h | h;exact h hgd;exact hb h.2)]
    ·simp (config:={ maxSteps:=3000000 }) (disch:=first|omega|(with_unfolding_all exact rfl)|(simp only[new_n,put_n,new_m];omega)|(refine put_m_le ?_;simp only[new_m];omega)) only [K15l2,K15r10,K15r11,K15r12,u12s10,u12s11,u12s12,u12s13,u12s14,u12s15,Abs.W,reduceIte,Nat.reduceEqDiff,Nat.reduceAdd,decide_true,decide_false,kLoop_def,Nat.reduceSub,List.cons_append,List.nil_append,List.append_nil,List.length_cons,List.length_nil,Env.find_set,q1,q2,q3,q8,q9,q10,q12,kv,kt,lt,e0,e1,e2,w0,r2,r3,r5,t2,t3,t5,Nat.zero_add,Nat.add_zero]
     simp (config:={ maxSteps:=3000000 }) (disch:=first|omega|(with_unfolding_all exact rfl)|(simp only[new_n,put_n,new_m];omega)|(refine put_m_le ?_;simp only[new_m];omega)) only [K15r13,K15r14,Abs.W,reduceIte,Nat.reduceEqDiff,Nat.reduceAdd,decide_true,decide_false,kLoop_def,Nat.reduceSub,List.cons_append,List.nil_append,List.append_nil,List.length_cons,List.length_nil,Env.find_set]
     generalize hl2:loopN _ rounds _ _ _ _ _=qq
     obtain ⟨e2,M1,m1,rfl,rfl,f1,f2,f3,f8,f9,f10,f12,f13,f14,rfl⟩:=loop_of hl2
      (fun j L' t=>L'.find 1=vt∧L'.find 2=.int .i64 g∧L'.find 3=.ptr p3 0∧L'.find 8=.int .i64 (allG g Z)∧L'.find 9=.int .i64 best∧L'.find 10=.bool true∧L'.find 12=.int .i64 i∧L'.find 13=.int .i64 z.2.2∧L'.find 14=.int .i64 (uptoZ g z.2.2 (Z.take j))∧L'.find 15=.int .i64 j∧t=w)
      (fun e L' t=>e=.exit 4∧L'.find 1=vt∧L'.find 2=.int .i64 g∧L'.find 3=.ptr p3 0∧L'.find 8=.int .i64 (allG g Z)∧L'.find 9=.int .i64 best∧L'.find 10=.bool true∧L'.find 12=.int .i64 i∧L'.find 13=.int .i64 z.2.2∧L'.find 14=.int .i64 (uptoZ g z.2.2 Z)∧t=w)
      Z.length (by unfold rounds;omega) ⟨by simp only [Env.find_set,q1,reduceIte,Nat.reduceEqDiff],by simp only [Env.find_set,q2,reduceIte,Nat.reduceEqDiff],by simp only [Env.find_set,q3,reduceIte,Nat.reduceEqDiff],by simp only [Env.find_set,q8,reduceIte,Nat.reduceEqDiff],by simp only [Env.find_set,q9,reduceIte,Nat.reduceEqDiff],by simp only [Env.find_set,q10,reduceIte,Nat.reduceEqDiff],by simp only [Env.find_set,q12,reduceIte,Nat.reduceEqDiff],by simp only [Env.find_set,reduceIte,Nat.reduceEqDiff],by simp only [Env.find_set,reduceIte,Nat.reduceEqDiff];rfl,by simp only [Env.find_set,reduceIte,Nat.reduceEqDiff];rfl,rfl⟩
      (fun j L' t hj ⟨k1,k2,k3,k8,k9,k10,k12,k13,k14,k15,hE⟩=>by subst hE;exact fair_inner cl cx ok hl w0 RS RT hj k1 k2 k3 k8 k9 k10 k12 k13 k14 k15)
     by_cases hh:allG g Z≤2 * uptoZ g z.2.2 Z
     ·have e4:decide (allG g Z≤2 * uptoZ g z.2.2 Z)=true:=decide_eq_true hh
      rw [hS,if_pos hh]
      simp (config:={ maxSteps:=3000000 }) (disch:=first|omega|(with_unfolding_all exact rfl)|(simp only[new_n,put_n,new_m];omega)|(refine put_m_le ?_;simp only[new_m];omega)) only [K15r19,K15r20,K15r21,Abs.W,reduceIte,Nat.reduceEqDiff,Nat.reduceAdd,decide_true,decide_false,kLoop_def,Nat.reduceSub,List.cons_append,List.nil_append,List.append_nil,List.length_cons,List.length_nil,Env.find_set,f1,f2,f3,f8,f9,f10,f12,f13,f14,mu,e4,ad]
      refine ⟨_,rfl,?_,?_,?_,?_,?_,?_,?_⟩<;>simp only [Env.find_set,f1,f2,f3,f8,reduceIte,Nat.reduceEqDiff]
     ·have e4:decide (allG g Z≤2 * uptoZ g z.2.2 Z)=false:=decide_eq_false hh
      rw [hS,if_neg hh]
      simp (config:={ maxSteps:=3000000 }) (disch:=first|omega|(with_unfolding_all exact rfl)|(simp only[new_n,put_n,new_m];omega)|(refine put_m_le ?_;simp only[new_m];omega)) only [K15r19,K15r21,Abs.W,reduceIte,Nat.reduceEqDiff,Nat.reduceAdd,decide_true,decide_false,kLoop_def,Nat.reduceSub,List.cons_append,List.nil_append,List.append_nil,List.length_cons,List.length_nil,Env.find_set,f1,f2,f3,f8,f9,f10,f12,f13,f14,mu,e4,ad]
      refine ⟨_,rfl,?_,?_,?_,?_,?_,?_,?_⟩<;>simp only [Env.find_set,f1,f2,f3,f8,f9,f10,reduceIte,Nat.reduceEqDiff]
  | false =>
   ·have hS:fairStep g (allG g Z) Z (best,false) z=if allG g Z≤2 * uptoZ g z.2.2 Z then (z.2.2,true) else (best,false):=by unfold fairStep;rw [if_neg (fun h=>by rcases h with h | h;exact h hgd;cases h.1)]
    ·simp (config:={ maxSteps:=3000000 }) (disch:=first|omega|(with_unfolding_all exact rfl)|(simp only[new_n,put_n,new_m];omega)|(refine put_m_le ?_;simp only[new_m];omega)) only [K15l2,K15r10,K15r11,K15r12,u12s10,u12s11,u12s12,u12s13,u12s14,u12s15,Abs.W,reduceIte,Nat.reduceEqDiff,Nat.reduceAdd,decide_true,decide_false,kLoop_def,Nat.reduceSub,List.cons_append,List.nil_append,List.append_nil,List.length_cons,List.length_nil,Env.find_set,q1,q2,q3,q8,q9,q10,q12,kv,kt,lt,e0,e1,w0,r2,r3,r5,t2,t3,t5,Nat.zero_add,Nat.add_zero]
     simp (config:={ maxSteps:=3000000 }) (disch:=first|omega|(with_unfolding_all exact rfl)|(simp only[new_n,put_n,new_m];omega)|(refine put_m_le ?_;simp only[new_m];omega)) only [K15r13,K15r14,Abs.W,reduceIte,Nat.reduceEqDiff,Nat.reduceAdd,decide_true,decide_false,kLoop_def,Nat.reduceSub,List.cons_append,List.nil_append,List.append_nil,List.length_cons,List.length_nil,Env.find_set]
     generalize hl2:loopN _ rounds _ _ _ _ _=qq
     obtain ⟨e2,M1,m1,rfl,rfl,f1,f2,f3,f8,f9,f10,f12,f13,f14,rfl⟩:=loop_of hl2
      (fun j L' t=>L'.find 1=vt∧L'.find 2=.int .i64 g∧L'.find 3=.ptr p3 0∧L'.find 8=.int .i64 (allG g Z)∧L'.find 9=.int .i64 best∧L'.find 10=.bool false∧L'.find 12=.int .i64 i∧L'.find 13=.int .i64 z.2.2∧L'.find 14=.int .i64 (uptoZ g z.2.2 (Z.take j))∧L'.find 15=.int .i64 j∧t=w)
      (fun e L' t=>e=.exit 4∧L'.find 1=vt∧L'.find 2=.int .i64 g∧L'.find 3=.ptr p3 0∧L'.find 8=.int .i64 (allG g Z)∧L'.find 9=.int .i64 best∧L'.find 10=.bool false∧L'.find 12=.int .i64 i∧L'.find 13=.int .i64 z.2.2∧L'.find 14=.int .i64 (uptoZ g z.2.2 Z)∧t=w)
      Z.length (by unfold rounds;omega) ⟨by simp only [Env.find_set,q1,reduceIte,Nat.reduceEqDiff],by simp only [Env.find_set,q2,reduceIte,Nat.reduceEqDiff],by simp only [Env.find_set,q3,reduceIte,Nat.reduceEqDiff],by simp only [Env.find_set,q8,reduceIte,Nat.reduceEqDiff],by simp only [Env.find_set,q9,reduceIte,Nat.reduceEqDiff],by simp only [Env.find_set,q10,reduceIte,Nat.reduceEqDiff],by simp only [Env.find_set,q12,reduceIte,Nat.reduceEqDiff],by simp only [Env.find_set,reduceIte,Nat.reduceEqDiff],by simp only [Env.find_set,reduceIte,Nat.reduceEqDiff];rfl,by simp only [Env.find_set,reduceIte,Nat.reduceEqDiff];rfl,rfl⟩
      (fun j L' t hj ⟨k1,k2,k3,k8,k9,k10,k12,k13,k14,k15,hE⟩=>by subst hE;exact fair_inner cl cx ok hl w0 RS RT hj k1 k2 k3 k8 k9 k10 k12 k13 k14 k15)
     by_cases hh:allG g Z≤2 * uptoZ g z.2.2 Z
     ·have e4:decide (allG g Z≤2 * uptoZ g z.2.2 Z)=true:=decide_eq_true hh
      rw [hS,if_pos hh]
      simp (config:={ maxSteps:=3000000 }) (disch:=first|omega|(with_unfolding_all exact rfl)|(simp only[new_n,put_n,new_m];omega)|(refine put_m_le ?_;simp only[new_m];omega)) only [K15r19,K15r20,K15r21,Abs.W,reduceIte,Nat.reduceEqDiff,Nat.reduceAdd,decide_true,decide_false,kLoop_def,Nat.reduceSub,List.cons_append,List.nil_append,List.append_nil,List.length_cons,List.length_nil,Env.find_set,f1,f2,f3,f8,f9,f10,f12,f13,f14,mu,e4,ad]
      refine ⟨_,rfl,?_,?_,?_,?_,?_,?_,?_⟩<;>simp only [Env.find_set,f1,f2,f3,f8,reduceIte,Nat.reduceEqDiff]
     ·have e4:decide (allG g Z≤2 * uptoZ g z.2.2 Z)=false:=decide_eq_false hh
      rw [hS,if_neg hh]
      simp (config:={ maxSteps:=3000000 }) (disch:=first|omega|(with_unfolding_all exact rfl)|(simp only[new_n,put_n,new_m];omega)|(refine put_m_le ?_;simp only[new_m];omega)) only [K15r19,K15r21,Abs.W,reduceIte,Nat.reduceEqDiff,Nat.reduceAdd,decide_true,decide_false,kLoop_def,Nat.reduceSub,List.cons_append,List.nil_append,List.append_nil,List.length_cons,List.length_nil,Env.find_set,f1,f2,f3,f8,f9,f10,f12,f13,f14,mu,e4,ad]
      refine ⟨_,rfl,?_,?_,?_,?_,?_,?_,?_⟩<;>simp only [Env.find_set,f1,f2,f3,f8,f9,f10,reduceIte,Nat.reduceEqDiff]
 ·have e1:decide (z.1.gd=g)=false:=decide_eq_false hgd
  have hS:fairStep g (allG g Z) Z (best,some_) z=(best,some_):=by unfold fairStep;rw [if_pos (.inl hgd)]
  rw [hS]
  simp (config:={ maxSteps:=3000000 }) (disch:=first|omega|(with_unfolding_all exact rfl)|(simp only[new_n,put_n,new_m];omega)|(refine put_m_le ?_;simp only[new_m];omega)) only [K15l2,K15r10,K15r11,K15r12,K15r21,u12s10,u12s11,u12s12,u12s13,u12s14,u12s15,Abs.W,reduceIte,Nat.reduceEqDiff,Nat.reduceAdd,decide_true,decide_false,kLoop_def,Nat.reduceSub,List.cons_append,List.nil_append,List.append_nil,List.length_cons,List.length_nil,Env.find_set,q1,q2,q3,q8,q9,q10,q12,kv,kt,lt,e0,e1,w0,r2,r3,r5,t2,t3,t5,ad,Nat.zero_add,Nat.add_zero]
  refine ⟨_,rfl,?_,?_,?_,?_,?_,?_,?_⟩<;>simp only [Env.find_set,q1,q2,q3,q8,q9,q10,reduceIte,Nat.reduceEqDiff]
theorem Fair_ok {N:Nat} {Z:List Sold} {ks kg v vt:AV} {g:Int} {s:St} (hN:1≤N) (ok:AllOk Z) (hl:Z.length≤40) (hsc:scalars [ks,kg,v]=true) (RS:RowsAt s.h s.n 6 ((salesZ Z).map Sale.cells) v) (RT:RowsAt s.h s.n 2 (truthRows Z) vt) (hs:s.n+1000≤far) :
  call Try.prog X N (.fn 15) [.agg [ks,kg,v],vt,.int .i64 g] s=.val (.tup [.int .i64 (fairI g Z).1,.bool (fairI g Z).2]) s:=by
 obtain ⟨n,rfl⟩:∃ n,N=n+1:=⟨N - 1,by omega⟩
 have hf:far=1000000000:=rfl
 refine call_plain' Try.func15 (fun u uh un um=>?_) rfl
 rw [← uh,← un] at RS RT
 rw [← un] at hs
 have kv:∀ t,okA (.val v t)=.val v t:=fun t=>okA_ne RS.ne
 have kt:∀ t,okA (.val vt t)=.val vt t:=fun t=>okA_ne RT.ne
 have lt:=RT.len
 rw [truthRows_len] at lt
 obtain ⟨w,hw⟩:∃ w:St,w=u.new (.cells [ks,kg,v] (tag 27)):=⟨_,rfl⟩
 have wn:w.n=u.n+1:=by rw [hw];rfl
 have wm:w.m=far:=by rw [hw];exact um
 have wg:∀ c,c<u.n→w.h.get c=u.h.get c:=fun c hc=>by rw [hw,get_new_ne _ _ _ (by omega)]
 have w0:w.h.get u.n=some (.cells [ks,kg,v] (tag 27)):=by rw [hw];exact get_new_eq _ _ _ rfl (by omega)
 have RS:=RS.grow wg (by omega:u.n≤w.n)
 have RT:=RT.grow wg (by omega:u.n≤w.n)
 rw [enter15]
 simp (disch:=first|omega|(with_unfolding_all exact rfl)|(simp only[new_n,put_n,new_m];omega)|(refine put_m_le ?_;simp only[new_m];omega)) only [K15,K15r0,Abs.W,reduceIte,Nat.reduceEqDiff,Nat.reduceAdd,decide_true,decide_false,kLoop_def,Nat.reduceSub,List.cons_append,List.nil_append,List.append_nil,List.length_cons,List.length_nil,Env.find_set,hsc,Nat.zero_add]
 rw [← hw]
 clear hw
 simp (disch:=first|omega|(with_unfolding_all exact rfl)|(simp only[new_n,put_n,new_m];omega)|(refine put_m_le ?_;simp only[new_m];omega)) only [K15r1,K15r2,Abs.W,reduceIte,Nat.reduceEqDiff,Nat.reduceAdd,decide_true,decide_false,kLoop_def,Nat.reduceSub,List.cons_append,List.nil_append,List.append_nil,List.length_cons,List.length_nil,Env.find_set]
 generalize hl1:loopN _ rounds _ _ _ _ _=q1
 obtain ⟨e,L1,s1,rfl,rfl,f1,f2,f3,f8,f9,f10,rfl⟩:=loop_of hl1
  (fun i L' t=>L'.find 1=vt∧L'.find 2=.int .i64 g∧L'.find 3=.ptr u.n 0∧L'.find 8=.int .i64 (allG g (Z.take i))∧L'.find 9=.int .i64 0∧L'.find 10=.bool false∧L'.find 11=.int .i64 i∧t=w)
  (fun e L1 s1=>e=.exit 0∧L1.find 1=vt∧L1.find 2=.int .i64 g∧L1.find 3=.ptr u.n 0∧L1.find 8=.int .i64 (allG g Z)∧L1.find 9=.int .i64 0∧L1.find 10=.bool false∧s1=w)
  Z.length (by unfold rounds;omega) ⟨by simp only [find_cons,Env.find_set,reduceIte,Nat.reduceEqDiff],by simp only [find_cons,Env.find_set,reduceIte,Nat.reduceEqDiff],by simp only [find_cons,Env.find_set,reduceIte,Nat.reduceEqDiff],by simp only [find_cons,Env.find_set,reduceIte,Nat.reduceEqDiff];rfl,by simp only [find_cons,Env.find_set,reduceIte,Nat.reduceEqDiff],by simp only [find_cons,Env.find_set,reduceIte,Nat.reduceEqDiff],by simp only [find_cons,Env.find_set,reduceIte,Nat.reduceEqDiff];rfl,rfl⟩
  (fun i L' t hi ⟨q1,q2,q3,q8,q9,q10,q11,hE⟩=>by
   subst hE
   by_cases hlt:i<Z.length
   ·have e0:decide ((i:Int)<(Z.length:Int))=true:=decide_eq_true (by omega)
    obtain ⟨x0,o0,cs,sz,y0,p0,ct,st,r2,r3,r4,r5,t2,t3,t4,t5⟩:=sold_read RS RT hlt
    have hz:=ok _ (List.getElem_mem hlt)
    have hsn:=allG_snoc g Z[i] (Z.take i)
    rw [← take_snocZ hlt] at hsn
    obtain ⟨a0,a1⟩:=all_range g (Z.take i) (ok.take i)
    have al:(Z.take i).length≤40:=by rw [List.length_take];omega
    have ad:∀ s,aAdd s .i64 (i:Int) 1=.val (.int .i64 ((i+1:Nat):Int)) s:=fun s=>by rw [aAdd_i64 s _ _ (by omega)];rfl
    generalize Z[i]=z at *
    obtain ⟨g0,g1,g2,g3,c0,c1,c2,c3⟩:=hz
    by_cases hgd:z.1.gd=g
    ·have e1:decide (z.1.gd=g)=true:=decide_eq_true hgd
     rw [if_pos hgd] at hsn
     have ad2:∀ s,aAdd s .i64 (allG g (Z.take i)) z.2.1=.val (.int .i64 (allG g (Z.take (i+1)))) s:=fun s=>by rw [hsn];exact aAdd_i64 s _ _ (by omega)
     refine .inl ⟨hlt,_,_,by
      simp (config:={ maxSteps:=3000000 }) (disch:=first|omega|(with_unfolding_all exact rfl)|(simp only[new_n,put_n,new_m];omega)|(refine put_m_le ?_;simp only[new_m];omega)) only [K15l0,K15r3,K15r4,K15r5,K15r6,Abs.W,reduceIte,Nat.reduceEqDiff,Nat.reduceAdd,decide_true,decide_false,kLoop_def,Nat.reduceSub,List.cons_append,List.nil_append,List.append_nil,List.length_cons,List.length_nil,Env.find_set,q1,q2,q3,q8,q11,kv,kt,lt,e0,e1,w0,r2,r3,r5,t2,t3,t4,ad,ad2,Nat.zero_add,Nat.add_zero]
      rfl,?_,?_,?_,?_,?_,?_,?_,rfl⟩<;>simp only [Env.find_set,q1,q2,q3,q9,q10,reduceIte,Nat.reduceEqDiff]
    ·have e1:decide (z.1.gd=g)=false:=decide_eq_false hgd
     rw [if_neg hgd,Int.add_zero] at hsn
     refine .inl ⟨hlt,_,_,by
      simp (config:={ maxSteps:=3000000 }) (disch:=first|omega|(with_unfolding_all exact rfl)|(simp only[new_n,put_n,new_m];omega)|(refine put_m_le ?_;simp only[new_m];omega)) only [K15l0,K15r3,K15r4,K15r6,Abs.W,reduceIte,Nat.reduceEqDiff,Nat.reduceAdd,decide_true,decide_false,kLoop_def,Nat.reduceSub,List.cons_append,List.nil_append,List.append_nil,List.length_cons,List.length_nil,Env.find_set,q1,q2,q3,q8,q11,kv,kt,lt,e0,e1,w0,r2,r3,r5,ad,Nat.zero_add,Nat.add_zero]
      rfl,?_,?_,?_,?_,?_,?_,?_,rfl⟩<;>simp only [Env.find_set,q1,q2,q3,q8,q9,q10,hsn,reduceIte,Nat.reduceEqDiff]
   ·obtain rfl:i=Z.length:=by omega
    have e0:decide ((Z.length:Int)<(Z.length:Int))=false:=by simp
    rw [List.take_length] at q8
    refine .inr ⟨.exit 0,L'.set 19 (.bool false),_,by simp,?_,rfl,?_,?_,?_,?_,?_,?_,rfl⟩
    ·simp (config:={ maxSteps:=3000000 }) (disch:=first|omega|(with_unfolding_all exact rfl)|(simp only[new_n,put_n,new_m];omega)|(refine put_m_le ?_;simp only[new_m];omega)) only [K15l0,K15r3,Abs.W,reduceIte,Nat.reduceEqDiff,Nat.reduceAdd,decide_true,decide_false,kLoop_def,Nat.reduceSub,List.cons_append,List.nil_append,List.append_nil,List.length_cons,List.length_nil,Env.find_set,q1,q11,kt,lt,e0,Nat.zero_add]
    all_goals simp only [Env.find_set,q1,q2,q3,q8,q9,q10,reduceIte,Nat.reduceEqDiff])
 by_cases hA:allG g Z=0
 ·have e1:decide (allG g Z=0)=true:=decide_eq_true hA
  have hI:fairI g Z=(0,false):=by unfold fairI;rw [if_pos hA]
  rw [hI]
  simp (disch:=first|omega|(with_unfolding_all exact rfl)|(simp only[new_n,put_n,new_m];omega)|(refine put_m_le ?_;simp only[new_m];omega)) only [K15r7,K15r8,res15,Abs.W,reduceIte,Nat.reduceEqDiff,Nat.reduceAdd,decide_true,decide_false,kLoop_def,Nat.reduceSub,List.cons_append,List.nil_append,List.append_nil,List.length_cons,List.length_nil,Env.find_set,f8,e1]
  refine ⟨s1,by rw [leave_tt];simp only [Env.find_set,reduceIte,Nat.reduceEqDiff],by omega⟩
 ·have e1:decide (allG g Z=0)=false:=decide_eq_false hA
  have hI:fairI g Z=fairTo g Z Z:=by unfold fairI;rw [if_neg hA]
  rw [hI]
  simp (disch:=first|omega|(with_unfolding_all exact rfl)|(simp only[new_n,put_n,new_m];omega)|(refine put_m_le ?_;simp only[new_m];omega)) only [K15r7,K15r9,Abs.W,reduceIte,Nat.reduceEqDiff,Nat.reduceAdd,decide_true,decide_false,kLoop_def,Nat.reduceSub,List.cons_append,List.nil_append,List.append_nil,List.length_cons,List.length_nil,Env.find_set,f8,e1]
  generalize hl2:loopN _ rounds _ _ _ _ _=qq
  obtain ⟨e,L2,s2,rfl,rfl,g9,g10,rfl⟩:=loop_of hl2
   (fun i L' t=>L'.find 1=vt∧L'.find 2=.int .i64 g∧L'.find 3=.ptr u.n 0∧L'.find 8=.int .i64 (allG g Z)∧L'.find 9=.int .i64 (fairTo g Z (Z.take i)).1∧L'.find 10=.bool (fairTo g Z (Z.take i)).2∧L'.find 12=.int .i64 i∧t=s1)
   (fun e L1 t=>e=.exit 2∧L1.find 9=.int .i64 (fairTo g Z Z).1∧L1.find 10=.bool (fairTo g Z Z).2∧t=s1)
   Z.length (by unfold rounds;omega) ⟨by simp only [Env.find_set,f1,reduceIte,Nat.reduceEqDiff],by simp only [Env.find_set,f2,reduceIte,Nat.reduceEqDiff],by simp only [Env.find_set,f3,reduceIte,Nat.reduceEqDiff],by simp only [Env.find_set,f8,reduceIte,Nat.reduceEqDiff],by simp only [Env.find_set,f9,reduceIte,Nat.reduceEqDiff];rfl,by simp only [Env.find_set,f10,reduceIte,Nat.reduceEqDiff];rfl,by simp only [Env.find_set,reduceIte,Nat.reduceEqDiff];rfl,rfl⟩
   (fun i L' t hi ⟨q1,q2,q3,q8,q9,q10,q12,hE⟩=>by
    subst hE
    by_cases hlt:i<Z.length
    ·obtain ⟨L3,y0,y1,y2,y3,y8,y9,y10,y12⟩:=fair_round (call Try.prog X n) ⟨15,none,Try.f15.ntmps,X 15⟩ ok hl w0 RS RT hlt q1 q2 q3 q8 q9 q10 q12
     have hT:=fairTo_snoc g Z (Z.take i) Z[i]
     rw [← take_snocZ hlt] at hT
     rw [show ((fairTo g Z (Z.take i)).1,(fairTo g Z (Z.take i)).2)=fairTo g Z (Z.take i) from rfl,← hT] at y9 y10
     exact .inl ⟨hlt,L3,_,y0,y1,y2,y3,y8,y9,y10,y12,rfl⟩
    ·obtain rfl:i=Z.length:=by omega
     have e0:decide ((Z.length:Int)<(Z.length:Int))=false:=by simp
     rw [List.take_length] at q9 q10
     refine .inr ⟨.exit 2,L'.set 42 (.bool false),_,by simp,?_,rfl,by simp only [Env.find_set,q9,reduceIte,Nat.reduceEqDiff],by simp only [Env.find_set,q10,reduceIte,Nat.reduceEqDiff],rfl⟩
     simp (config:={ maxSteps:=3000000 }) (disch:=first|omega|(with_unfolding_all exact rfl)|(simp only[new_n,put_n,new_m];omega)|(refine put_m_le ?_;simp only[new_m];omega)) only [K15l2,K15r10,Abs.W,reduceIte,Nat.reduceEqDiff,Nat.reduceAdd,decide_true,decide_false,kLoop_def,Nat.reduceSub,List.cons_append,List.nil_append,List.append_nil,List.length_cons,List.length_nil,Env.find_set,q1,q12,kt,lt,e0,Nat.zero_add])
  simp (disch:=first|omega|(with_unfolding_all exact rfl)|(simp only[new_n,put_n,new_m];omega)|(refine put_m_le ?_;simp only[new_m];omega)) only [K15r22,res15,Abs.W,reduceIte,Nat.reduceEqDiff,Nat.reduceAdd,decide_true,decide_false,kLoop_def,Nat.reduceSub,List.cons_append,List.nil_append,List.append_nil,List.length_cons,List.length_nil,Env.find_set,g9,g10]
  refine ⟨s2,by rw [leave_tt];simp only [Env.find_set,reduceIte,Nat.reduceEqDiff],by omega⟩
end Go.Proofs.Ytamlnddeiokbdaa.walk
set_option maxRecDepth 10000
namespace Go.Proofs.Ytamlnddeiokbdaa.walk
open Go.Abs Go.Proofs.Ytamlnddeiokbdaa.code
def Die (d:Nat) (h:Heap):Prop:=∃ f,h.get d=some (.cells [.int .u64 f] (tag 69))
theorem roll_ex {N d:Nat} {s:St} {r:ARes} (hr:call Try.prog X N (.fn 30) [.ptr d 0] s=r) (hN:1≤N) (hd:Die d s.h) (hlt:d<s.n) (hs:s.n+10≤far) :
  ∃ x t,r=.val (.int .u64 x) t∧Stir d s t 0∧Die d t.h∧0≤x∧x≤18446744073709551615:=by
 obtain ⟨n,rfl⟩:∃ n,N=n+1:=⟨N - 1,by omega⟩
 have hf:far=1000000000:=rfl
 obtain ⟨f,hg⟩:=hd
 obtain ⟨v,t,e,st,⟨x,rfl,x0,x1⟩,hd'⟩:=call_stir_plain (n:=n) (args:=[.ptr d 0]) (d:=d) (k:=0) (Q:=fun v=>∃ x,v=.int .u64 x∧0≤x∧x≤18446744073709551615) (R:=Die d) Try.func30 ⟨f,hg⟩ (fun u uh un um=>by
  rw [← uh] at hg
  rw [enter30]
  simp (disch:=first|omega|(with_unfolding_all exact rfl)|(simp only[new_n,put_n,new_m];omega)|(refine put_m_le ?_;simp only[new_m];omega)) only [res30,K30r0,K30r1,K30r2,K30r3,K30r4,K30r5,K30,Abs.W,reduceIte,Nat.reduceEqDiff,Nat.reduceAdd,decide_true,decide_false,kLoop_def,Nat.reduceSub,List.cons_append,List.nil_append,List.append_nil,List.length_cons,List.length_nil,hg,Nat.zero_add,ints_u64,kShr_def,shrA_u64,aAdd_def,aMul_def,aXor_def]
  refine ⟨_,_,rfl,(Stir.refl d u).put (by omega) _ (.inl rfl),rfl,⟨_,rfl,?_⟩,⟨_,get_put_eq _ _ _ _ rfl (by omega)⟩⟩
  exact xorI_range _ _) (by omega)
 exact ⟨x,t,hr.symm.trans e,st,hd',x0,x1⟩
theorem cast_ex {N d:Nat} {n:Int} {s:St} {r:ARes} (hr:call Try.prog X N (.fn 33) [.ptr d 0,.int .i64 n] s=r) (hN:2≤N) (hd:Die d s.h) (hlt:d<s.n) (hs:s.n+100≤far) (hn:n≤1000000000) :
  ∃ x t,r=.val (.int .i64 x) t∧Stir d s t 0∧Die d t.h∧0≤x∧(x<n∨x=0):=by
 obtain ⟨m,rfl⟩:∃ m,N=m+1:=⟨N - 1,by omega⟩
 have hf:far=1000000000:=rfl
 obtain ⟨v,t,e,st,⟨x,rfl,x0,x1⟩,hd'⟩:=call_stir_plain (n:=m) (args:=[.ptr d 0,.int .i64 n]) (d:=d) (k:=0) (Q:=fun v=>∃ x,v=.int .i64 x∧0≤x∧(x<n∨x=0)) (R:=Die d) Try.func33 hd (fun u uh un um=>by
  rw [← uh] at hd
  rw [enter33]
  by_cases hlow:n<2
  ·have e0:decide (n<2)=true:=by simpa using hlow
   simp (disch:=first|omega|(with_unfolding_all exact rfl)|(simp only[new_n,put_n,new_m];omega)|(refine put_m_le ?_;simp only[new_m];omega)) only [res33,K33r0,K33r1,K33r2,K33r3,K33,Abs.W,reduceIte,Nat.reduceEqDiff,Nat.reduceAdd,decide_true,decide_false,kLoop_def,Nat.reduceSub,List.cons_append,List.nil_append,List.append_nil,List.length_cons,List.length_nil,e0]
   exact ⟨_,_,rfl,Stir.refl d u,rfl,⟨0,rfl,by omega,.inr rfl⟩,hd⟩
  ·have e0:decide (n<2)=false:=by simpa using hlow
   simp (disch:=first|omega|(with_unfolding_all exact rfl)|(simp only[new_n,put_n,new_m];omega)|(refine put_m_le ?_;simp only[new_m];omega)) only [res33,K33r0,K33r1,K33r2,K33r3,K33,Abs.W,reduceIte,Nat.reduceEqDiff,Nat.reduceAdd,decide_true,decide_false,kLoop_def,Nat.reduceSub,List.cons_append,List.nil_append,List.append_nil,List.length_cons,List.length_nil,e0]
   generalize hc:call _ _ _ (.fn 30) _ _=r1
   obtain ⟨y,w,rfl,sw,dw,y0,y1⟩:=roll_ex hc (by omega) hd (by omega) (by omega)
   have q0:0≤shrI y 2:=shrI_nonneg _ _ y0
   have q2:0≤(shrI y 2).tmod n:=Int.tmod_nonneg _ q0
   have q3:(shrI y 2).tmod n<n:=Int.tmod_lt_of_pos _ (by omega)
   have w1:wrapA .u64 n=n:=wrap_u64 n (by omega)
   have w2:wrapA .i64 ((shrI y 2).tmod n)=(shrI y 2).tmod n:=wrap_in _ (by omega)
   have w3:∀ s,aRem s .u64 (shrI y 2) n=.val (.int .u64 ((shrI y 2).tmod n)) s:=fun s=>aRem_ne s _ _ _ (by omega)
   simp (disch:=first|omega|(with_unfolding_all exact rfl)|(simp only[new_n,put_n,new_m];omega)|(refine put_m_le ?_;simp only[new_m];omega)) only [res33,K33r0,K33r1,K33r2,K33r3,K33,Abs.W,reduceIte,Nat.reduceEqDiff,Nat.reduceAdd,decide_true,decide_false,kLoop_def,Nat.reduceSub,List.cons_append,List.nil_append,List.append_nil,List.length_cons,List.length_nil,ints_u64,kShr_def,shrA_u64,cviA_int,w1,w2,w3]
   exact ⟨_,_,rfl,sw,rfl,⟨_,rfl,q2,.inl q3⟩,dw⟩) (by omega)
 exact ⟨x,t,hr.symm.trans e,st,hd',x0,x1⟩
theorem from_ex {N d:Nat} {lo hi:Int} {s:St} {r:ARes} (hr:call Try.prog X N (.fn 31) [.ptr d 0,.int .i64 lo,.int .i64 hi] s=r) (hN:3≤N) (hd:Die d s.h) (hlt:d<s.n) (hs:s.n+200≤far)
  (h0 : -100000000≤lo) (h1:lo≤100000000) (h2 : -100000000≤hi) (h3:hi≤100000000) :
  ∃ x t,r=.val (.int .i64 x) t∧Stir d s t 0∧Die d t.h∧lo≤x∧(x≤hi∨x=lo):=by
 obtain ⟨m,rfl⟩:∃ m,N=m+1:=⟨N - 1,by omega⟩
 have hf:far=1000000000:=rfl
 obtain ⟨v,t,e,st,⟨x,rfl,x0,x1⟩,hd'⟩:=call_stir_plain (n:=m) (args:=[.ptr d 0,.int .i64 lo,.int .i64 hi]) (d:=d) (k:=0) (Q:=fun v=>∃ x,v=.int .i64 x∧lo≤x∧(x≤hi∨x=lo)) (R:=Die d) Try.func31 hd (fun u uh un um=>by
  rw [← uh] at hd
  have a1:∀ s,aSub s .i64 hi lo=.val (.int .i64 (hi - lo)) s:=fun s=>aSub_i64 s _ _ (by omega)
  have a2:∀ s,aAdd s .i64 (hi - lo) 1=.val (.int .i64 (hi - lo+1)) s:=fun s=>aAdd_i64 s _ _ (by omega)
  rw [enter31]
  simp (disch:=first|omega|(with_unfolding_all exact rfl)|(simp only[new_n,put_n,new_m];omega)|(refine put_m_le ?_;simp only[new_m];omega)) only [res31,K31r0,K31r1,K31,Abs.W,reduceIte,Nat.reduceEqDiff,Nat.reduceAdd,decide_true,decide_false,kLoop_def,Nat.reduceSub,List.cons_append,List.nil_append,List.append_nil,List.length_cons,List.length_nil,a1,a2]
  generalize hc:call _ _ _ (.fn 33) _ _=r1
  obtain ⟨y,w,rfl,sw,dw,y0,y1⟩:=cast_ex hc (by omega) hd (by omega) (by omega) (by omega)
  have a3:∀ s,aAdd s .i64 lo y=.val (.int .i64 (lo+y)) s:=fun s=>aAdd_i64 s _ _ (by omega)
  simp (disch:=first|omega|(with_unfolding_all exact rfl)|(simp only[new_n,put_n,new_m];omega)|(refine put_m_le ?_;simp only[new_m];omega)) only [res31,K31r0,K31r1,K31,Abs.W,reduceIte,Nat.reduceEqDiff,Nat.reduceAdd,decide_true,decide_false,kLoop_def,Nat.reduceSub,List.cons_append,List.nil_append,List.append_nil,List.length_cons,List.length_nil,a3]
  exact ⟨_,_,rfl,sw,rfl,⟨_,rfl,by omega,by omega⟩,dw⟩) (by omega)
 exact ⟨x,t,hr.symm.trans e,st,hd',x0,x1⟩
theorem nth_ints:∀ {l:List Int} {i:Nat},i<l.length→∃ x ∈ l,nth (l.map fun x=>AV.int .i64 x) i=.int .i64 x
 | [],i,h=>by simp at h
 | a::l,0,_=>⟨a,List.mem_cons_self ..,rfl⟩
 | a::l,i+1,h=>by
  obtain ⟨x,hx,e⟩:=nth_ints (l:=l) (i:=i) (by simpa using h)
  exact ⟨x,List.mem_cons_of_mem _ hx,e⟩
theorem one_ex {N d b:Nat} {k sz:Nat} (l:List Int) {s:St} {r:ARes} (hr:call Try.prog X N (.fn 32) [.ptr d 0,.slice b 0 k k false] s=r) (hN:3≤N) (hd:Die d s.h) (hlt:d<s.n) (hs:s.n+200≤far)
  (hb:s.h.get b=some (.cells (l.map fun x=>AV.int .i64 x) sz)) (hbn:b<s.n) (hbd:b≠d) (hl:l.length=k) (h0:0<k) (hk:k≤1000) :
  ∃ x t,r=.val (.int .i64 x) t∧Stir d s t 0∧Die d t.h∧x ∈ l:=by
 obtain ⟨m,rfl⟩:∃ m,N=m+1:=⟨N - 1,by omega⟩
 have hf:far=1000000000:=rfl
 obtain ⟨v,t,e,st,⟨x,rfl,hx⟩,hd'⟩:=call_stir_plain (n:=m) (args:=[.ptr d 0,.slice b 0 k k false]) (d:=d) (k:=0) (Q:=fun v=>∃ x,v=.int .i64 x∧x ∈ l) (R:=Die d) Try.func32 hd (fun u uh un um=>by
  rw [← uh] at hd hb
  have e0:decide ((k:Int)=0)=false:=by simp;omega
  rw [enter32]
  simp (disch:=first|omega|(with_unfolding_all exact rfl)|(simp only[new_n,put_n,new_m];omega)|(refine put_m_le ?_;simp only[new_m];omega)) only [res32,K32r0,K32r1,K32r2,K32r3,K32,Abs.W,reduceIte,Nat.reduceEqDiff,Nat.reduceAdd,decide_true,decide_false,kLoop_def,Nat.reduceSub,List.cons_append,List.nil_append,List.append_nil,List.length_cons,List.length_nil,e0]
  generalize hc:call _ _ _ (.fn 33) _ _=r1
  obtain ⟨y,w,rfl,sw,dw,y0,y1⟩:=cast_ex hc (by omega) hd (by omega) (by omega) (by omega)
  obtain ⟨i,rfl⟩:∃ i:Nat,y=i:=⟨y.toNat,by omega⟩
  have hi:i<k:=by omega
  obtain ⟨x,hx,hn⟩:=nth_ints (l:=l) (i:=i) (by omega)
  have hg:w.h.get b=some (.cells (l.map fun x=>AV.int .i64 x) sz):=by rw [sw.same b (by omega) hbd];exact hb
  simp (disch:=first|omega|(with_unfolding_all exact rfl)|(simp only[new_n,put_n,new_m];omega)|(refine put_m_le ?_;simp only[new_m];omega)) only [res32,K32r0,K32r1,K32r2,K32r3,K32,Abs.W,reduceIte,Nat.reduceEqDiff,Nat.reduceAdd,decide_true,decide_false,kLoop_def,Nat.reduceSub,List.cons_append,List.nil_append,List.append_nil,List.length_cons,List.length_nil,ixs_slice _ _ _ _ _ _ _ _ hi,Nat.mul_one,Nat.zero_add,hg,hn]
  exact ⟨_,_,rfl,sw,rfl,⟨x,rfl,hx⟩,dw⟩) (by omega)
 exact ⟨x,t,hr.symm.trans e,st,hd',hx⟩
theorem span_ex {N d:Nat} {lo hi:Int} {s:St} {r:ARes} (hr:call Try.prog X N (.fn 34) [.ptr d 0,.int .i64 lo,.int .i64 hi] s=r) (hN:4≤N) (hd:Die d s.h) (hlt:d<s.n) (hs:s.n+300≤far)
  (h0 : -1000000≤lo) (h1:lo≤hi) (h2:hi≤1000000) :
  ∃ a b t,r=.val (.agg [.int .i64 a,.int .i64 b]) t∧Stir d s t 2∧Die d t.h∧lo≤a∧a≤b∧b≤hi:=by
 obtain ⟨m,rfl⟩:∃ m,N=m+1:=⟨N - 1,by omega⟩
 have hf:far=1000000000:=rfl
 obtain ⟨v,t,e,st,⟨a,b,rfl,x0,x1,x2⟩,hd'⟩:=call_stir_plain (n:=m) (args:=[.ptr d 0,.int .i64 lo,.int .i64 hi]) (d:=d) (k:=2) (Q:=fun v=>∃ a b,v=.agg [.int .i64 a,.int .i64 b]∧lo≤a∧a≤b∧b≤hi) (R:=Die d) Try.func34 hd (fun u uh un um=>by
  rw [← uh] at hd
  have sh:shapeT Try.prog 38=some (some 2):=by kernel_rfl
  rw [enter34]
  simp (disch:=first|omega|(with_unfolding_all exact rfl)|(simp only[new_n,put_n,new_m];omega)|(refine put_m_le ?_;simp only[new_m];omega)) only [res34,K34r0,K34r1,K34r2,K34r3,K34,Abs.W,reduceIte,Nat.reduceEqDiff,Nat.reduceAdd,decide_true,decide_false,kLoop_def,Nat.reduceSub,List.cons_append,List.nil_append,List.append_nil,List.length_cons,List.length_nil]
  generalize hc:call _ _ _ (.fn 31) _ _=r1
  obtain ⟨x,w,rfl,sw,dw,y0,y1⟩:=from_ex hc (by omega) (by obtain ⟨f,hg⟩:=hd;exact ⟨f,by rw [get_new_ne _ _ _ (by omega)];exact hg⟩) (by simp only [new_n];omega) (by simp only [new_n];omega) (by omega) (by omega) (by omega) (by omega)
  have wn:=sw.n
  have wl:=sw.le
  simp only [new_n] at wn wl
  have a1:∀ s,aAdd s .i64 x 4=.val (.int .i64 (x+4)) s:=fun s=>aAdd_i64 s _ _ (by omega)
  simp (disch:=first|omega|(with_unfolding_all exact rfl)|(simp only[new_n,put_n,new_m];omega)|(refine put_m_le ?_;simp only[new_m];omega)) only [res34,K34r0,K34r1,K34r2,K34r3,K34,Abs.W,reduceIte,Nat.reduceEqDiff,Nat.reduceAdd,decide_true,decide_false,kLoop_def,Nat.reduceSub,List.cons_append,List.nil_append,List.append_nil,List.length_cons,List.length_nil,a1,kFold_def,foldA_nil,foldA_cons,minA_i64]
  generalize hc2:call _ _ _ (.fn 32) _ _=r2
  obtain ⟨y,w2,rfl,sw2,dw2,ym⟩:=one_ex [x,min hi (x+4),hi] hc2 (by omega) (by obtain ⟨f,hg⟩:=dw;exact ⟨f,by rw [get_new_ne _ _ _ (by omega)];exact hg⟩) (by simp only [new_n];omega) (by simp only [new_n];omega) (get_new_eq _ _ _ rfl (by omega)) (by simp only [new_n];omega) (by omega) rfl (by omega) (by omega)
  have wn2:=sw2.n
  have wl2:=sw2.le
  simp only [new_n] at wn2 wl2
  have ym':x≤y∧y≤hi:=by
   simp only [List.mem_cons,List.not_mem_nil,or_false] at ym
   omega
  simp (disch:=first|omega|(with_unfolding_all exact rfl)|(simp only[new_n,put_n,new_m];omega)|(refine put_m_le ?_;simp only[new_m];omega)) only [res34,K34r0,K34r1,K34r2,K34r3,K34,Abs.W,reduceIte,Nat.reduceEqDiff,Nat.reduceAdd,decide_true,decide_false,kLoop_def,Nat.reduceSub,List.cons_append,List.nil_append,List.append_nil,List.length_cons,List.length_nil]
  generalize hc3:call _ _ _ (.fn 31) _ _=r3
  obtain ⟨z,w3,rfl,sw3,dw3,z0,z1⟩:=from_ex hc3 (by omega) dw2 (by omega) (by omega) (by omega) (by omega) (by omega) (by omega)
  have wn3:=sw3.n
  have wl3:=sw3.le
  have g:w3.h.get u.n=some (.cells [.int .i64 0,.int .i64 0] (tag 38)):=by
   rw [sw3.same _ (by omega) (by omega),sw2.same _ (by simp only [new_n];omega) (by omega),get_new_ne _ _ _ (by omega),sw.same _ (by simp only [new_n];omega) (by omega)]
   exact get_new_eq _ _ _ rfl (by omega)
  simp (disch:=first|omega|(with_unfolding_all exact rfl)|(simp only[new_n,put_n,new_m];omega)|(refine put_m_le ?_;simp only[new_m];omega)) only [res34,K34r0,K34r1,K34r2,K34r3,K34,Abs.W,reduceIte,Nat.reduceEqDiff,Nat.reduceAdd,decide_true,decide_false,kLoop_def,Nat.reduceSub,List.cons_append,List.nil_append,List.append_nil,List.length_cons,List.length_nil,g]
  have S1:Stir d u w3 2:=((((((Stir.refl d u).new _).trans sw).new _).trans sw2).trans sw3)
  refine ⟨_,_,leave_cell _ _ _ _ sh ?_,S1.put (by omega) _ (.inr (Nat.le_refl _)),rfl,⟨x,z,rfl,by omega,by omega,by omega⟩,?_⟩
  ·simp (disch:=first|omega|(with_unfolding_all exact rfl)|(simp only[new_n,put_n,new_m];omega)|(refine put_m_le ?_;simp only[new_m];omega)) only [Abs.W,reduceIte,Nat.reduceEqDiff,Nat.reduceAdd,decide_true,decide_false,kLoop_def,Nat.reduceSub,List.cons_append,List.nil_append,List.append_nil,List.length_cons,List.length_nil]
  ·obtain ⟨f,hg⟩:=dw3
   exact ⟨f,by rw [get_put_ne' _ _ _ _ (by omega)];exact hg⟩) (by omega)
 exact ⟨a,b,t,hr.symm.trans e,st,hd',x0,x1,x2⟩
end Go.Proofs.Ytamlnddeiokbdaa.walk
