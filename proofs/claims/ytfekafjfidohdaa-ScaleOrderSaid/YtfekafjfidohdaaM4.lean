/- What is known without any result, whole. -/
import Derived.Test.YtfekafjfidohdaaM3
import Derived.Test.YtfekafjfidohdaaCodes
import Derived.Test.YtfekafjfidohdaaWalkAll
set_option linter.unusedSimpArgs false
set_option maxHeartbeats 16000000
set_option linter.unusedVariables false
set_option maxRecDepth 10000
namespace Go.Proofs.Ytfekafjfidohdaa.walk
open Go.Abs Go.Proofs.Ytfekafjfidohdaa.code
def tabOf (n:Nat) (E:Nat→Nat→Gap):List (List Gap):=(List.range n).map fun i=>rowOf n E i
theorem tabOf_square (n:Nat) (E:Nat→Nat→Gap):Square n (tabOf n E):=⟨by unfold tabOf;rw [List.length_map,List.length_range],fun r hr=>by
 unfold tabOf at hr
 obtain ⟨i,_,rfl⟩:=List.mem_map.mp hr
 exact rowOf_len n E i⟩
theorem tabOf_ent {n:Nat} (E:Nat→Nat→Gap) {i j:Nat} (hi:i<n) (hj:j<n):ent (tabOf n E) i j=E i j:=by
 simp [ent,tabOf,rowOf,List.getD,hi,hj]
theorem withT_tabOf (n:Nat) (T:List (List Gap)) (c:Claim):withT n T c=tabOf n (withE (ent T) c):=rfl
theorem GTab.of_blk {h:Heap} {n m ob tg tg':Nat} {E:Nat→Nat→Gap} {bf:Nat→Nat} {vf:Nat→AV} {v:AV} (o:Blk h n ob 1 tg ((List.range m).map fun x=>[vf x]) v) (r:∀ x,x<m→Blk h n (bf x) 2 tg' (gapRow (rowOf m E x)) (vf x)):GTab h n (tabOf m E) v:=by
 have q1:=(tabOf_square m E).1
 refine ⟨o.okA,o.scal,fun s=>by rw [o.len s,List.length_map,List.length_range,q1],fun i hi=>?_⟩
 rw [q1] at hi
 have hli:i<((List.range m).map fun x=>[vf x]).length:=by rw [List.length_map,List.length_range];exact hi
 obtain ⟨sz,hg⟩:=o.get
 have e:(tabOf m E)[i]'(by rw [q1];exact hi)=rowOf m E i:=by simp [tabOf]
 rw [e]
 exact ⟨ob,i * 1,_,sz,vf i,o.lt,fun s=>o.ixs hli s,hg,cut1_nth ((o.cut hli).trans (by rw [List.getElem_map,List.getElem_range])),(r i hi).okA,(r i hi).at_⟩
theorem kFunc_def' (f:FuncId) (a b:List Arg) (L:Env) (s:St):kFunc f a b L s=.val (.func f (evs a L) (evs b L)) s:=Eq.trans (Eq.refl _) (Eq.refl _)
theorem givens_ok (N:Nat) (hN:1≤N) (l:List AV) (s:St) (hs:s.n+100≤far):call Try.prog X N (.fn 62) [.agg l] s=.val (.func 75 [] [.ptr s.n 0]) (s.new (.cells l (tag 30))):=by
 obtain ⟨n,rfl⟩:∃ n,N=n+1:=⟨N - 1,by omega⟩
 have hf:far=1000000000:=rfl
 obtain ⟨v,t,e,st,hv,hh⟩:=call_new (n:=n) (args:=[.agg l]) (s:=s) (k:=1) (Q:=fun v h n=>v=.func 75 [] [.ptr s.n 0]∧h=(s.new (.cells l (tag 30))).h∧n=s.n+1) Try.func62 rfl (fun u uh un um=>by
  rw [enter62]
  simp (disch:=first|omega|(with_unfolding_all exact rfl)|(simp only[new_n,put_n,new_m];omega)|(refine put_m_le ?_;simp only[new_m];omega)) only [res62,K62r0,K62r1,K62,Abs.W,reduceIte,Nat.reduceEqDiff,Nat.reduceAdd,decide_true,decide_false,kLoop_def,Nat.reduceSub,List.cons_append,List.nil_append,List.append_nil,List.length_cons,List.length_nil,kFunc_def',okA_func]
  refine ⟨_,_,rfl,(Beside.refl u (by omega) um).new _,rfl,by rw [un],?_,?_⟩
  ·show (u.new _).h=(s.new _).h
   unfold St.new
   simp only [uh,un]
  ·show u.n+1=_
   omega)
 rw [e,hv]
 congr 1
 obtain ⟨th,tn,tm⟩:=t
 have m1:tm=s.m:=st.m
 obtain ⟨h1,h2⟩:=hh
 simp only at h1 h2
 subst h1 h2 m1
 rfl
theorem results_ok (N:Nat) (hN:1≤N) (l:List AV) (s:St) (hs:s.n+100≤far):call Try.prog X N (.fn 51) [.agg l] s=.val (.func 65 [] [.ptr s.n 0]) (s.new (.cells l (tag 30))):=by
 obtain ⟨n,rfl⟩:∃ n,N=n+1:=⟨N - 1,by omega⟩
 have hf:far=1000000000:=rfl
 obtain ⟨v,t,e,st,hv,hh⟩:=call_new (n:=n) (args:=[.agg l]) (s:=s) (k:=1) (Q:=fun v h n=>v=.func 65 [] [.ptr s.n 0]∧h=(s.new (.cells l (tag 30))).h∧n=s.n+1) Try.func51 rfl (fun u uh un um=>by
  rw [enter51]
  simp (disch:=first|omega|(with_unfolding_all exact rfl)|(simp only[new_n,put_n,new_m];omega)|(refine put_m_le ?_;simp only[new_m];omega)) only [res51,K51r0,K51r1,K51,Abs.W,reduceIte,Nat.reduceEqDiff,Nat.reduceAdd,decide_true,decide_false,kLoop_def,Nat.reduceSub,List.cons_append,List.nil_append,List.append_nil,List.length_cons,List.length_nil,kFunc_def',okA_func]
  refine ⟨_,_,rfl,(Beside.refl u (by omega) um).new _,rfl,by rw [un],?_,?_⟩
  ·show (u.new _).h=(s.new _).h
   unfold St.new
   simp only [uh,un]
  ·show u.n+1=_
   omega)
 rw [e,hv]
 congr 1
 obtain ⟨th,tn,tm⟩:=t
 have m1:tm=s.m:=st.m
 obtain ⟨h1,h2⟩:=hh
 simp only at h1 h2
 subst h1 h2 m1
 rfl
theorem givAt_ok {b:Bench} (ok:b.Ok) {i:Nat} (hi:i<givMany b):(givAt b i).a=i+1∧(givAt b i).b<i+1 ∧ -10000≤(givAt b i).gap.1∧(givAt b i).gap.1≤(givAt b i).gap.2∧(givAt b i).gap.2≤10000:=by
 unfold givMany at hi
 unfold givAt
 by_cases h1:i<b.ms.length
 ·rw [if_pos h1]
  have:mAt b i=b.ms[i]:=by unfold mAt;simp [List.getD,h1]
  obtain ⟨_,_,o0,o1,o2⟩:=ok.mok _ (List.getElem_mem h1)
  rw [this]
  exact ⟨rfl,Nat.succ_pos i,o0,o1,o2⟩
 ·rw [if_neg h1]
  have h2:(i - b.ms.length) / (b.days+1)<b.ss.length:=Nat.div_lt_of_lt_mul (by rw [Nat.mul_comm];omega)
  have:sAt b ((i - b.ms.length) / (b.days+1))=b.ss[(i - b.ms.length) / (b.days+1)]:=by unfold sAt;simp [List.getD,h2]
  obtain ⟨f0,f1,f2,d0,d1,d2⟩:=ok.sok _ (List.getElem_mem h2)
  rw [this]
  by_cases h3:(i - b.ms.length) % (b.days+1)=0
  ·rw [if_pos h3];exact ⟨rfl,Nat.succ_pos i,by simp only;omega,by simp only;omega,by simp only;omega⟩
  ·rw [if_neg h3];exact ⟨rfl,Nat.lt_succ_self i,by simp only;omega,by simp only;omega,by simp only;omega⟩
theorem givMany_le {b:Bench} (ok:b.Ok):1≤givMany b∧givMany b≤32:=by
 have h0:=ok.m0
 have h1:=ok.m1
 have h2:b.ss.length * (b.days+1)≤3 * 9:=Nat.mul_le_mul ok.s1 (by have:=ok.d1;omega)
 unfold givMany
 omega
theorem givE_closed {b:Bench} (ok:b.Ok):∀ i,i≤givMany b→Closed (i+1) (givE b i)∧Bnd (i+1) (10000 * (i:Int)) (givE b i)
 | 0,_=>⟨⟨fun i hi=>rfl,fun i j _ _=>rfl,fun _ _ _ _ _ _=>by show (0:Int)≤0+0;omega⟩,fun _ _ _ _=>by show -(10000 * ((0:Nat):Int))≤0∧0≤10000 * ((0:Nat):Int);omega⟩
 | i+1,hi=>by
  obtain ⟨c,d⟩:=givE_closed ok i (by omega)
  obtain ⟨_,g1,g2,g3,g4⟩:=givAt_ok ok (i:=i) (by omega)
  rw [givE_succ]
  refine ⟨moreE_closed c g1 g3,?_⟩
  have:=moreE_bnd (g:=(givAt b i).gap) (k:=10000) d g1 ⟨by omega,g4⟩ ⟨by omega,by omega⟩
  rw [show 10000 * (((i+1:Nat)):Int)=10000 * (i:Int)+10000 by omega]
  exact this
theorem givE_small {b:Bench} (ok:b.Ok) {i:Nat} (hi:i≤givMany b) {x y:Nat} (hx:x<i+1) (hy:y<i+1) : -320000≤(givE b i x y).1∧(givE b i x y).1≤320000 ∧ -320000≤(givE b i x y).2∧(givE b i x y).2≤320000:=by
 obtain ⟨c,d⟩:=givE_closed ok i hi
 have h1:=d x y hx hy
 have h2:=c.some_ hx hy
 have h3:=(givMany_le ok).2
 omega
theorem given_ex {N:Nat} {b:Bench} {v1 v2 v3 v4:AV} {s:St} {r:ARes} (hr:call Try.prog X N (.fn 50) [.agg (benchV v1 v2 v3 v4 b.days)] s=r) (hN:6≤N) (ok:b.Ok) (hB:BenchAt s.h s.n b v1 v2 v3 v4) (hs:s.n+400000≤far) :
  ∃ v t,r=.val v t∧New s t 10000∧GTabF t.h (s.n+1) t.n (tabOf (givMany b+1) (givE b (givMany b))) v:=by
 obtain ⟨n,rfl⟩:∃ n,N=n+1:=⟨N - 1,by omega⟩
 have hf:far=1000000000:=rfl
 obtain ⟨v',t,e,st,hq⟩:=call_new (n:=n) (args:=[.agg (benchV v1 v2 v3 v4 b.days)]) (s:=s) (k:=10000) (Q:=fun v' h n=>GTabF h (s.n+1) n (tabOf (givMany b+1) (givE b (givMany b))) v') Try.func50 rfl (fun u uh un um=>by
  rw [← uh,← un] at hB
  unfold benchV
  rw [enter50]
  simp (disch:=first|omega|(with_unfolding_all exact rfl)|(simp only[new_n,put_n,new_m];omega)|(refine put_m_le ?_;simp only[new_m];omega)) only [res50,K50r0,K50r1,K50r2,K50r3,K50,K50a0r0,K50a0,K50b0r0,K50b0r1,K50b0r2,K50b0r3,K50b0r4,K50b0r5,K50b0r6,K50b0l0,K50b0r7,K50b0,Abs.W,reduceIte,Nat.reduceEqDiff,Nat.reduceAdd,decide_true,decide_false,kLoop_def,Nat.reduceSub,List.cons_append,List.nil_append,List.append_nil,List.length_cons,List.length_nil,Env.find_set,Nat.zero_add,givens_ok]
  simp only [put_n,new_n]
  generalize hL:Env.cons 0 _ _=L0
  have f3:L0.find 3=.ptr (u.n+3) 0:=by rw [← hL];simp only [find_cons,reduceIte,Nat.reduceEqDiff]
  have f12:L0.find 12=.func 75 [] [.ptr (u.n+4) 0]:=by rw [← hL];simp only [find_cons,reduceIte,Nat.reduceEqDiff]
  generalize hw:St.new (St.put _ _ _) _=w
  have wn:w.n=u.n+5:=by rw [← hw];rfl
  have wm:w.m=min far (u.n+3):=by rw [← hw];simp only [St.put,minN_eq,new_m,um]
  have wg:∀ c,c<u.n→w.h.get c=u.h.get c:=fun c hc=>by rw [← hw];simp (disch:=first|omega|(with_unfolding_all exact rfl)|(simp only[new_n,put_n,new_m];omega)|(refine put_m_le ?_;simp only[new_m];omega)) only [get_new_ne,get_put_ne']
  have w1:w.h.get (u.n+1)=some (.cells [.int .i64 0,.int .i64 0] 0):=by rw [← hw];simp (disch:=first|omega|(with_unfolding_all exact rfl)|(simp only[new_n,put_n,new_m];omega)|(refine put_m_le ?_;simp only[new_m];omega)) only [get_new_ne,get_put_ne'];exact get_new_eq _ _ _ rfl (by simp only [new_n];omega)
  have w2:w.h.get (u.n+2)=some (.cells [.slice (u.n+1) 0 1 1 false] 0):=by rw [← hw];simp (disch:=first|omega|(with_unfolding_all exact rfl)|(simp only[new_n,put_n,new_m];omega)|(refine put_m_le ?_;simp only[new_m];omega)) only [get_new_ne,get_put_ne'];exact get_new_eq _ _ _ rfl (by simp only [new_n];omega)
  have w3:w.h.get (u.n+3)=some (.cells [.slice (u.n+2) 0 1 1 false] (tag 77)):=by rw [← hw];simp (disch:=first|omega|(with_unfolding_all exact rfl)|(simp only[new_n,put_n,new_m];omega)|(refine put_m_le ?_;simp only[new_m];omega)) only [get_new_ne,get_put_ne',get_put_eq,get_new_eq]
  have w4:w.h.get (u.n+4)=some (.cells [v1,v2,v3,v4,.int .i64 b.days] (tag 30)):=by rw [← hw];exact get_new_eq _ _ _ rfl (by simp only [put_n,new_n];omega)
  obtain ⟨n2,rfl⟩:∃ n2,n=n2+2:=⟨n - 2,by omega⟩
  obtain ⟨R,hRdef⟩:∃ R:ALoop,R=⟨.ready,none,50,L0,[13],(rangeAt Try.f50 0).1,(rangeAt Try.f50 0).2,u.n+6 - 1,Try.f50.ntmps,X 50⟩:=⟨_,rfl⟩
  have hKl:=givMany_le ok
  have hG:Gives (n2+1) (u.n+6) 200 (u.n+1) (givMany b) (givAt b) (GivJ b R (u.n+3) (u.n+6) (u.n+1)):=⟨by omega,fun _ _ _ _ _ j hx=>j.below hx,fun _ _ _ _ _ _ hh hn j=>j.keep hh hn,fun i O s hi hJ hs hws hms=>by
   obtain ⟨g0,g1,g2,g3,g4⟩:=givAt_ok ok hi
   refine given_take n2 (by omega) hRdef f3 (by omega) g0 g1 ⟨by unfold Small;omega,by unfold Small;omega⟩ (fun x y hx hy=>?_) (fun x hx=>?_) (by omega) (by omega) hws hms hJ
   ·have:=givE_small ok (i:=i) (by omega) hx hy
    unfold Small;omega
   ·have:=givE_small ok (i:=i) (by omega) g1 hx
    rw [plus1,plus2]
    unfold Small;omega⟩
  obtain ⟨w6,hw6⟩:∃ w6:St,w6=(w.new .dfr).new (.loop R):=⟨_,rfl⟩
  have w6n:w6.n=u.n+7:=by rw [hw6];show w.n+1+1=_;omega
  have w6m:w6.m=min far (u.n+3):=by rw [hw6];exact wm
  have w6g:∀ c,c<u.n+5→w6.h.get c=w.h.get c:=fun c hc=>by rw [hw6,get_new_ne _ _ _ (by simp only [new_n];omega),get_new_ne _ _ _ (by omega)]
  have w6d:w6.h.get (u.n+5)=some .dfr:=by rw [hw6,get_new_ne _ _ _ (by simp only [new_n];omega)];exact get_new_eq _ _ _ wn.symm (by omega)
  have w6l:w6.h.get (u.n+6)=some (.loop R):=by rw [hw6];exact get_new_eq _ _ _ (by simp only [new_n];omega) (by simp only [new_n];omega)
  have w6u:∀ c,c<u.n→w6.h.get c=u.h.get c:=fun c hc=>(w6g c (by omega)).trans (wg c hc)
  have G0:GivJ b R (u.n+3) (u.n+6) (u.n+1) 0 (fun x=>x=u.n+3∨x=u.n+6∨x=u.n+2∨∃ y,y<0+1∧x=u.n+1) w6.h w6.n:=by
   refine ⟨w6l,w6d,by omega,by omega,u.n+2,fun _=>u.n+1,fun _=>.slice (u.n+1) 0 1 1 false,.slice (u.n+2) 0 1 1 false,(w6g _ (by omega)).trans w3,⟨?_,false,0,rfl,by omega,(w6g _ (by omega)).trans w2,fun h=>by cases h⟩,fun x hx=>⟨gapRow_wide _,false,0,rfl,by show u.n+1<w6.n;omega,(w6g (u.n+1) (by omega)).trans w1,fun h=>by cases h⟩,fun x y hx hy hxy=>by omega,fun x hx=>⟨by show u.n+1≠u.n+2;omega,by show u.n+1≠u.n+3;omega,by show u.n+1≠u.n+6;omega,by show u.n+1≠u.n+6 - 1;omega,by show u.n+1≤u.n+1;omega⟩,⟨by omega,by omega,by omega,by omega⟩,fun x=>Iff.rfl⟩
   intro r hr
   obtain ⟨x,_,rfl⟩:=List.mem_map.mp hr
   rfl
  generalize hc:call Try.prog X (n2+2) (.fn 75) [.yield (u.n+6),.ptr (u.n+4) 0] w6=r94
  obtain ⟨s2,O1,rfl,G,same,own,sn,sk,sm,smm⟩:=givens1_ex hc (by omega) hG ok u.n (hB.grow w6u (Nat.le_refl _)) (fun x hx=>⟨by omega,by rintro (h | h | h | ⟨_,_,h⟩)<;>omega⟩) ((w6g _ (by omega)).trans w4) ⟨by omega,by rintro (h | h | h | ⟨_,_,h⟩)<;>omega⟩ (by omega) (by omega) (by omega) G0
  have hk32:(200+1) * givMany b≤201 * 32:=Nat.mul_le_mul_left _ hKl.2
  obtain ⟨j1,j2,j3,j4,ob,bf,vf,v,j5,j6,j7,j8,j9,ja,jb⟩:=G
  have hcall:callV (call Try.prog X (n2+2)) [.yield (w.n+1)] ((w.new .dfr).new (.loop ⟨.ready,none,50,L0,[13],(rangeAt Try.f50 0).1,(rangeAt Try.f50 0).2,w.n,Try.f50.ntmps,X 50⟩)) ((Arg.tmp 12).ev L0)=.val (.tup []) s2:=by
   rw [ev_tmp,f12,callV_func,wn,show (⟨.ready,none,50,L0,[13],(rangeAt Try.f50 0).1,(rangeAt Try.f50 0).2,u.n+5,Try.f50.ntmps,X 50⟩:ALoop)=R from hRdef.symm,← hw6]
   exact hc
  have hrange:=range_to_end (ps:=[13]) (c:=⟨50,none,Try.f50.ntmps,X 50⟩) rfl hcall (by rw [wn];exact j1) (by rw [hRdef]) (by rw [hRdef])
  rw [wn] at hrange
  have g5':∀ o,((s2.put (u.n+6) o).h.get (u.n+3))=some (.cells [v] (tag 77)):=fun o=>by rw [get_put_ne' _ _ _ _ (by omega)];exact j5
  have gd':∀ o,(s2.put (u.n+6) o).h.get (u.n+5)=some .dfr:=fun o=>by rw [get_put_ne' _ _ _ _ (by omega)];exact j2
  have k6:=j6.okA
  have hE:∀ o,Beside u ((s2.put (u.n+6) o).kill (u.n+5)) 10000:=fun o=>⟨fun c hc=>by
    rw [get_kill_ne _ _ _ (by omega),get_put_ne' _ _ _ _ (by omega)]
    exact (same c (by omega) (by rintro (h | h | h | ⟨_,_,h⟩)<;>omega)).trans (w6u c hc),by show u.n≤s2.n;omega,by show s2.n≤u.n+10000;omega,by
    have:=sm (by omega)
    simp only [St.kill,St.put,minN_eq];omega,by
    simp only [St.kill,St.put,minN_eq];omega⟩
  simp (disch:=first|omega|(with_unfolding_all exact rfl)|(simp only[new_n,put_n,new_m];omega)|(refine put_m_le ?_;simp only[new_m];omega)) only [res50,K50r0,K50r1,K50r2,K50r3,K50,K50a0r0,K50a0,K50b0r0,K50b0r1,K50b0r2,K50b0r3,K50b0r4,K50b0r5,K50b0r6,K50b0l0,K50b0r7,K50b0,Abs.W,reduceIte,Nat.reduceEqDiff,Nat.reduceAdd,decide_true,decide_false,kLoop_def,Nat.reduceSub,List.cons_append,List.nil_append,List.append_nil,List.length_cons,List.length_nil,hrange,Env.find_set,f3,g5',k6]
  rw [leave_dfr _ _ _ _ _ (gd' _)]
  simp (disch:=first|omega|(with_unfolding_all exact rfl)|(simp only[new_n,put_n,new_m];omega)|(refine put_m_le ?_;simp only[new_m];omega)) only [res50,K50r0,K50r1,K50r2,K50r3,K50,K50a0r0,K50a0,K50b0r0,K50b0r1,K50b0r2,K50b0r3,K50b0r4,K50b0r5,K50b0r6,K50b0l0,K50b0r7,K50b0,Abs.W,reduceIte,Nat.reduceEqDiff,Nat.reduceAdd,decide_true,decide_false,kLoop_def,Nat.reduceSub,List.cons_append,List.nil_append,List.append_nil,List.length_cons,List.length_nil,Env.find_set]
  refine ⟨_,_,rfl,hE _,?_,?_⟩
  ·obtain ⟨e,sz,z,_⟩:=j6.is
   rw [z];rfl
  ·have gk:∀ o c,c≠u.n+5→c≠u.n+6→((s2.put (u.n+6) o).kill (u.n+5)).h.get c=s2.h.get c:=fun o c h1 h2=>by rw [get_kill_ne _ _ _ h1,get_put_ne' _ _ _ _ h2]
   have j6n:=j6.lt
   exact fun k hk=>GTab.of_blk (j6.mono ((hk _ (by omega) j6n).trans (gk _ _ (by omega) (by omega))) (Nat.le_refl _)) (fun x hx=>(j7 x hx).mono ((hk _ (by have:=j9 x hx;omega) (j7 x hx).lt).trans (gk _ _ (by have:=j9 x hx;omega) (by have:=j9 x hx;omega))) (Nat.le_refl _)))
 exact ⟨v',t,hr.symm.trans e,st,hq⟩
end Go.Proofs.Ytfekafjfidohdaa.walk
set_option maxRecDepth 10000
namespace Go.Abs
theorem range_to_ret {f:Arg} {ps:List Tmp} {a b:Code} {cl:CallF} {c:Ctx} {L:Env} {s s2:St} {v:AV} {r:ALoop} (hc:c.rnd=none)
  (h:callV cl [.yield (s.n+1)] ((s.new .dfr).new (.loop ⟨.ready,none,c.fn,L,ps,a,b,s.n,c.nt,c.xs⟩)) (f.ev L)=.val v s2) (hr:s2.h.get (s.n+1)=some (.loop r)) (hb:r.state=.done) (hp:r.pending=some .ret) :
  kRange f ps a b cl c L [] s=.done .ret L [s.n] (s2.put (s.n+1) (.loop { r with state:=.exhausted })):=by
 rw [range_eq hc h hr (by rw [hb];simp),hp]
 rfl
theorem leave_cell_cell {P:Program} (a:Nat) (t:TypeId) (b:Nat) (t':TypeId) (L:Env) (s:St) {sh sh':Option Nat} (hs:shapeT P t=some sh) (hs':shapeT P t'=some sh') {v v':AV} (h:okA (loadA sh s (L.find a))=.val v s) (h':okA (loadA sh' s (L.find b))=.val v' s) :
  leaveA P [.cell a t,.cell b t'] L [] s=.val (.tup [v,v']) s:=by
 unfold leaveA
 simp only [takeDfs,resultsA,hs,hs',h,h']
 rfl
theorem cellsOf_one (v:AV) (h:v.scalar=true):cellsOf 1 v=some [v]:=by cases v<;>first | rfl | cases h
theorem cellsOf_bool (q:Bool):cellsOf 1 (.bool q)=some [.bool q]:=Eq.trans (Eq.refl _) (Eq.refl _)
end Go.Abs
namespace Go.Proofs.Ytfekafjfidohdaa.walk
open Go.Abs Go.Proofs.Ytfekafjfidohdaa.code
abbrev big (b:Bench):Nat:=givMany b+1
def refB (T:List (List Gap)) (c:Claim):Bool:=decide (((ent T c.a c.b).meet c.gap).2<((ent T c.a c.b).meet c.gap).1)
def knT (b:Bench):Nat→Option (List (List Gap))
 | 0=>some (tabOf (big b) (givE b (givMany b)))
 | k+1=>match knT b k with
  | none=>none
  | some T=>if refB T (resAt b k)=true then none else some (withT (big b) T (resAt b k))
theorem knT_none {b:Bench} {k:Nat} (h:knT b k=none):∀ m,knT b (k+m)=none
 | 0=>h
 | m+1=>by
  have:=knT_none h m
  show (match knT b (k+m) with | none=>none | some T=>if refB T (resAt b (k+m))=true then none else some (withT (big b) T (resAt b (k+m))))=none
  rw [this]
theorem Closed.congr {n:Nat} {E F:Nat→Nat→Gap} (c:Closed n E) (h:∀ i j,i<n→j<n→F i j=E i j):Closed n F :=
 ⟨fun i hi=>by rw [h i i hi hi];exact c.zero i hi,fun i j hi hj=>by rw [h j i hj hi,h i j hi hj];exact c.anti i j hi hj,fun i j k hi hj hk=>by rw [h i j hi hj,h i k hi hk,h k j hk hj];exact c.tri i j k hi hj hk⟩
theorem refB_iff {T:List (List Gap)} {c:Claim}:refB T c=false↔¬ refutesE (ent T) c:=by
 unfold refB refutesE
 rw [decide_eq_false_iff_not]
theorem resAt_ok {b:Bench} (ok:b.Ok) {k:Nat} (hk:k<resMany b):(resAt b k).a<big b∧(resAt b k).b<big b ∧ -3000000≤(resAt b k).gap.1∧(resAt b k).gap.1≤(resAt b k).gap.2∧(resAt b k).gap.2≤3000000:=by
 unfold resMany at hk
 unfold resAt
 have hg:big b=b.ms.length+b.ss.length * (b.days+1)+1:=rfl
 by_cases h:k<b.ws.length
 ·rw [if_pos h]
  have:wAt b k=b.ws[k]:=by unfold wAt;simp [List.getD,h]
  obtain ⟨a0,a1,b0,b1,_,d0,d1,d2⟩:=ok.wok _ (List.getElem_mem h)
  rw [this]
  unfold Weigh.claim
  simp only
  omega
 ·rw [if_neg h]
  have h2:k - b.ws.length<b.ts.length:=by omega
  have:tAt b (k - b.ws.length)=b.ts[k - b.ws.length]:=by unfold tAt;simp [List.getD,h2]
  obtain ⟨s0,s1,m0,m1,d0,d1,x0,x1⟩:=ok.tok _ (List.getElem_mem h2)
  rw [this]
  generalize b.ts[k - b.ws.length]=t at *
  unfold Trial.claim errAt
  simp only
  have hm:t.mass.toNat<b.ms.length:=by omega
  have hn:nomAt b t.mass.toNat=(b.ms[t.mass.toNat]).nom:=by unfold nomAt;simp [List.getD,hm]
  obtain ⟨n0,n1,_,_,_⟩:=ok.mok _ (List.getElem_mem hm)
  have:(t.scale.toNat+1) * (b.days+1)≤b.ss.length * (b.days+1):=Nat.mul_le_mul_right _ (by omega)
  rw [Nat.succ_mul] at this
  rw [hn]
  omega
structure KnOk (b:Bench) (T:List (List Gap)):Prop where
 sq:Square (big b) T
 cl:Closed (big b) (ent T)
 bd:Bnd (big b) 320000 (ent T)
theorem knT_ok {b:Bench} (ok:b.Ok):∀ k T,k≤resMany b→knT b k=some T→KnOk b T
 | 0,T,_,h=>by
  obtain ⟨c,d⟩:=givE_closed ok (givMany b) (Nat.le_refl _)
  injection h with h
  subst h
  have hk:=givMany_le ok
  refine ⟨tabOf_square _ _,c.congr fun i j hi hj=>tabOf_ent _ hi hj,fun i j hi hj=>?_⟩
  rw [tabOf_ent _ hi hj]
  have:=d i j hi hj
  omega
 | k+1,T,hk,h=>by
  have hu:knT b (k+1)=(match knT b k with | none=>none | some T=>if refB T (resAt b k)=true then none else some (withT (big b) T (resAt b k))):=rfl
  rw [hu] at h
  cases h0:knT b k with
  | none=>rw [h0] at h;cases h
  | some T0 =>
   rw [h0] at h
   simp only at h
   obtain ⟨q,c,d⟩:=knT_ok ok k T0 (by omega) h0
   obtain ⟨r1,r2,_,_,_⟩:=resAt_ok ok (k:=k) (by omega)
   cases hr:refB T0 (resAt b k) with
   | true=>rw [hr] at h;simp at h
   | false =>
    rw [hr] at h
    simp at h
    subst h
    have c2:=withE_closed c r1 r2 (refB_iff.mp hr)
    refine ⟨withT_square _ _ _,c2.congr fun i j hi hj=>withT_ent _ _ hi hj,fun i j hi hj=>?_⟩
    rw [withT_ent _ _ hi hj]
    exact (d.le (withE_le _ _ _)) i j hi hj
theorem KnOk.small {b:Bench} {T:List (List Gap)} (k:KnOk b T):SmallT (big b) T:=fun i j hi hj=>by
 have h1:=k.bd i j hi hj
 have h2:=k.cl.some_ hi hj
 omega
theorem KnOk.meet {b:Bench} {T:List (List Gap)} (k:KnOk b T) {c:Claim} (ha:c.a<big b) (hb:c.b<big b) (hr:refB T c=false):∀ x,x=((ent T c.a c.b).meet c.gap).1∨x=((ent T c.a c.b).meet c.gap).2 → -100000000≤x∧x≤100000000:=by
 have h1:=k.bd _ _ ha hb
 have h2:=refB_iff.mp hr
 unfold refutesE at h2
 rw [meet1,meet2] at *
 intro x hx
 rcases hx with rfl | rfl<;>omega
structure KnJ (b:Bench) (R:ALoop) (u1 q l k:Nat) (h:Heap) (n:Nat):Prop where
 loop:h.get l=some (.loop R)
 dfr:h.get (l - 1)=some .dfr
 ql:q+1<l
 uq:u1+3≤q
 ln:l<n
 c2:h.get (u1+1)=some (.cells [.nilslice] (tag 77))
 c3:h.get (u1+2)=some (.cells [.bool false] (tag 4))
 tab:∃ T v lo m,knT b k=some T∧h.get q=some (.cells [v] (tag 77))∧GTabF h lo m T v∧m≤n∧u1+3≤lo∧(m≤q∨l<lo)
structure KnS (b:Bench) (R:ALoop) (u1 l:Nat) (h:Heap) (n:Nat):Prop where
 loop:h.get l=some (.loop { R with state:=.done,pending:=some .ret })
 dfr:h.get (l - 1)=some .dfr
 ln:l<n
 c2:h.get (u1+1)=some (.cells [.nilslice] (tag 77))
 c3:h.get (u1+2)=some (.cells [.bool false] (tag 4))
 no:knT b (resMany b)=none
theorem KnJ.keep {b:Bench} {R:ALoop} {u1 q l k:Nat} {h h':Heap} {n n':Nat} (hh:∀ x,x<n→h'.get x=h.get x) (hn:n≤n') (j:KnJ b R u1 q l k h n):KnJ b R u1 q l k h' n':=by
 obtain ⟨j1,j2,j3,j4,j5,j6,j7,T,v,lo,m,t1,t2,t3,t4,t5,t6⟩:=j
 exact ⟨by rw [hh _ j5];exact j1,by rw [hh _ (by omega)];exact j2,j3,j4,by omega,by rw [hh _ (by omega)];exact j6,by rw [hh _ (by omega)];exact j7,T,v,lo,m,t1,by rw [hh _ (by omega)];exact t2,t3.mono (fun x h1 h2=>hh x (by omega)) (Nat.le_refl _),by omega,t5,t6⟩
theorem known_take (N:Nat) (hN:3≤N) {b:Bench} (ok:b.Ok) {R:ALoop} {u1 q l k:Nat} {L0:Env} {s:St} (hR:R=⟨.ready,none,28,L0,[10],(rangeAt Try.f28 0).1,(rangeAt Try.f28 0).2,l - 1,Try.f28.ntmps,X 28⟩)
  (h2:L0.find 2=.ptr (u1+1) 0) (h3:L0.find 3=.ptr (u1+2) 0) (h4:L0.find 4=.ptr q 0) (hk:k<resMany b) (hs:s.n+10000≤far) (hJ:KnJ b R u1 q l k s.h s.n) :
  ∃ s' p,call Try.prog X (N+1) (.yield l) [claimV (resAt b k)] s=.val (.bool p) s'∧(p=true→KnJ b R u1 q l (k+1) s'.h s'.n)∧(p=false→KnS b R u1 l s'.h s'.n)∧(∀ x,x<s.n→¬ (x=u1+1∨x=u1+2∨x=q∨x=l)→s'.h.get x=s.h.get x)∧s.n≤s'.n∧s'.n≤s.n+6000∧(u1+1≤s.m→u1+1≤s'.m)∧s'.m≤s.m∧s'.m≤l:=by
 have hf:far=1000000000:=rfl
 obtain ⟨jl,jd,jq,ju,jn,jc2,jc3,T,v,lo,m,t1,t2,t3,t4,t5,t6⟩:=hJ
 have kok:=knT_ok ok k T (by omega) t1
 obtain ⟨r1,r2,r3,r4,r5⟩:=resAt_ok ok hk
 have hnext:knT b (k+1)=if refB T (resAt b k)=true then none else some (withT (big b) T (resAt b k)):=by
  show (match knT b k with | none=>none | some T=>if refB T (resAt b k)=true then none else some (withT (big b) T (resAt b k)))=_
  rw [t1]
 have hbig:=givMany_le ok
 have hbg:big b=givMany b+1:=rfl
 generalize hc:resAt b k=c at *
 obtain ⟨s1,hs1⟩:∃ s1:St,s1=(s.new (.cells [.int .i64 0,.int .i64 0,.int .i64 0,.int .i64 0] (tag 109))).put s.n (.cells [.int .i64 c.a,.int .i64 c.b,.int .i64 c.gap.1,.int .i64 c.gap.2] (tag 109)):=⟨_,rfl⟩
 have s1n:s1.n=s.n+1:=by rw [hs1];rfl
 have s1g:∀ c,c≠s.n→s1.h.get c=s.h.get c:=fun c hc=>by rw [hs1,get_put_ne' _ _ _ _ hc,get_new_ne _ _ _ hc]
 have s1m:s1.m=min s.m s.n:=by rw [hs1];simp only [St.put,minN_eq,new_m]
 have s1w:s1.h.get s.n=some (.cells [.int .i64 c.a,.int .i64 c.b,.int .i64 c.gap.1,.int .i64 c.gap.2] (tag 109)):=by rw [hs1];exact get_put_eq _ _ _ _ rfl (by omega)
 have h1:K28a0 (call Try.prog X N) ⟨28,some l,Try.f28.ntmps,X 28⟩ (setParams L0 [10] [claimV c]) [] s=.done .norm ((L0.set 10 (claimV c)).set 5 (.ptr s.n 0)) [] s1:=by
  rw [hs1]
  simp (disch:=first|omega|(with_unfolding_all exact rfl)|(simp only[new_n,put_n,new_m];omega)|(refine put_m_le ?_;simp only[new_m];omega)) only [K28a0,K28a0r0,Abs.W,reduceIte,Nat.reduceEqDiff,Nat.reduceAdd,decide_true,decide_false,kLoop_def,Nat.reduceSub,List.cons_append,List.nil_append,List.append_nil,List.length_cons,List.length_nil,setParams1,Env.find_set,Nat.reduceEqDiff]
 obtain ⟨s2,hs2⟩:∃ s2:St,s2=s1.put l (.loop { R with state:=.busy }):=⟨_,rfl⟩
 have s2n:s2.n=s.n+1:=by rw [hs2];exact s1n
 have s2g:∀ c,c≠s.n→c≠l→s2.h.get c=s.h.get c:=fun c hc hc3=>by rw [hs2,get_put_ne' _ _ _ _ hc3];exact s1g c hc
 have s2l:s2.h.get l=some (.loop { R with state:=.busy }):=by rw [hs2];exact get_put_eq _ _ _ _ rfl (by omega)
 have s2w:s2.h.get s.n=some (.cells [.int .i64 c.a,.int .i64 c.b,.int .i64 c.gap.1,.int .i64 c.gap.2] (tag 109)):=by rw [hs2,get_put_ne' _ _ _ _ (by omega)];exact s1w
 have s2m:s2.m=min (min s.m s.n) l:=by rw [hs2];simp only [St.put,minN_eq,s1m]
 have jv2:=(s2g q (by omega) (by omega)).trans t2
 have g2':=(s2g (u1+1) (by omega) (by omega)).trans jc2
 have g3':=(s2g (u1+2) (by omega) (by omega)).trans jc3
 have hT2:GTabF s2.h lo s2.n T v:=t3.mono (fun x h1 h2=>s2g x (by omega) (by omega)) (by omega)
 have vok:=hT2.tab.ok
 have href:=refutes_ok N (by omega) T (big b) v c s2 hT2.tab kok.sq r1 r2 (by omega)
 have hrb:decide (((ent T c.a c.b).meet c.gap).2<((ent T c.a c.b).meet c.gap).1)=refB T c:=rfl
 rw [hrb] at href
 cases hr:refB T c with
 | true =>
  rw [hr] at href hnext
  have h4':K28b0 (call Try.prog X N) ⟨28,some l,Try.f28.ntmps,X 28⟩ ((L0.set 10 (claimV c)).set 5 (.ptr s.n 0)) [] s2=.done .ret (((L0.set 10 (claimV c)).set 5 (.ptr s.n 0)).set 13 (.bool true)) [] ((s2.put (u1+1) (.cells [.nilslice] (tag 77))).put (u1+2) (.cells [.bool false] (tag 4))):=by
   simp (disch:=first|omega|(with_unfolding_all exact rfl)|(simp only[new_n,put_n,new_m];omega)|(refine put_m_le ?_;simp only[new_m];omega)) only [K28b0,K28b0r0,K28b0r1,K28b0r2,Abs.W,reduceIte,Nat.reduceEqDiff,Nat.reduceAdd,decide_true,decide_false,kLoop_def,Nat.reduceSub,List.cons_append,List.nil_append,List.append_nil,List.length_cons,List.length_nil,Env.find_set,Nat.zero_add,h2,h3,h4,s2w,jv2,vok,href,g2',g3',cellsOf_bool]
  generalize hs3:(s2.put (u1+1) _).put (u1+2) _=s3 at h4'
  have s3n:s3.n=s.n+1:=by rw [← hs3];exact s2n
  have s3g:∀ x,x≠u1+1→x≠u1+2→s3.h.get x=s2.h.get x:=fun x h1 h2=>by rw [← hs3,get_put_ne' _ _ _ _ h2,get_put_ne' _ _ _ _ h1]
  have s32:s3.h.get (u1+1)=some (.cells [.nilslice] (tag 77)):=by rw [← hs3,get_put_ne' _ _ _ _ (by omega)];exact get_put_eq _ _ _ _ rfl (by omega)
  have s33:s3.h.get (u1+2)=some (.cells [.bool false] (tag 4)):=by rw [← hs3];exact get_put_eq _ _ _ _ rfl (by omega)
  have s3m:s3.m=min (min s2.m (u1+1)) (u1+2):=by rw [← hs3];simp only [St.put,minN_eq]
  have s3l:=(s3g l (by omega) (by omega)).trans s2l
  rw [hs2] at h4'
  have hfin:=call_round (P:=Try.prog) (X:=X) (n:=N) (l:=l) (args:=[claimV c]) (r:=R) (r1:=R) (r2:={ R with state:=.busy }) (s:=s) (s1:=s1) (s2:=s3) (e:=.ret) jl (by rw [hR];rfl) (by rw [hR];exact code28a0) (by rw [hR];exact code28b0) (by rw [hR];exact h1) (by rw [s1g _ (by omega)];exact jl) (by rw [hR]) (by rw [hR];rw [hR] at h4';exact h4') s3l
  refine ⟨_,false,hfin,(fun h=>(by cases h)),fun _=>⟨?_,?_,by simp only [put_n];omega,?_,?_,?_⟩,fun x hx ho=>?_,?_,?_,?_,?_,?_⟩
  ·rw [get_put_eq _ _ _ _ rfl (by omega)];rfl
  ·rw [get_put_ne' _ _ _ _ (by omega),s3g _ (by omega) (by omega),s2g _ (by omega) (by omega)];exact jd
  ·rw [get_put_ne' _ _ _ _ (by omega)];exact s32
  ·rw [get_put_ne' _ _ _ _ (by omega)];exact s33
  ·have:=knT_none (b:=b) (k:=k+1) (by rw [hnext];rfl) (resMany b - (k+1))
   rw [show k+1+(resMany b - (k+1))=resMany b by omega] at this
   exact this
  ·rw [get_put_ne' _ _ _ _ (by omega),s3g _ (by omega) (by omega),s2g _ (by omega) (by omega)]
  ·simp only [put_n];omega
  ·simp only [put_n];omega
  ·simp only [St.put,minN_eq];omega
  ·simp only [St.put,minN_eq];omega
  ·simp only [St.put,minN_eq];omega
 | false =>
  rw [hr] at href hnext
  generalize hcw:call Try.prog X N (.fn 53) [v,claimV c] s2=rw'
  obtain ⟨v',s3,rfl,st3,hT3⟩:=with_ex hcw (by omega) hT2.tab kok.sq (by omega) (by omega) r1 r2 kok.small (kok.meet r1 r2 hr) (by omega)
  have st3g:=st3.same
  have st3n:=st3.n
  have st3l:=st3.le
  have st3m:=st3.m
  have g3q:=(st3g q (by omega)).trans jv2
  have v'ok:=hT3.tab.ok
  have v'sc:=hT3.tab.sc
  have sc1:scalars [v']=true:=by
   show (match v'.scalar with | true=>scalars [] | false=>false)=true
   rw [v'sc];rfl
  have ce1:cellsOf 1 v'=some [v']:=cellsOf_one v' v'sc
  have h4':K28b0 (call Try.prog X N) ⟨28,some l,Try.f28.ntmps,X 28⟩ ((L0.set 10 (claimV c)).set 5 (.ptr s.n 0)) [] s2=.done .norm (((L0.set 10 (claimV c)).set 5 (.ptr s.n 0)).set 13 (.bool false)) [] (s3.put q (.cells [v'] (tag 77))):=by
   simp (disch:=first|omega|(with_unfolding_all exact rfl)|(simp only[new_n,put_n,new_m];omega)|(refine put_m_le ?_;simp only[new_m];omega)) only [K28b0,K28b0r0,K28b0r1,K28b0r2,Abs.W,reduceIte,Nat.reduceEqDiff,Nat.reduceAdd,decide_true,decide_false,kLoop_def,Nat.reduceSub,List.cons_append,List.nil_append,List.append_nil,List.length_cons,List.length_nil,Env.find_set,Nat.zero_add,h2,h3,h4,s2w,jv2,vok,href,hcw,g3q,ce1,sc1]
  rw [hs2] at h4'
  have s3l:(s3.put q (.cells [v'] (tag 77))).h.get l=some (.loop { R with state:=.busy }):=by rw [get_put_ne' _ _ _ _ (by omega)];exact (st3g l (by omega)).trans s2l
  have hfin:=call_round (P:=Try.prog) (X:=X) (n:=N) (l:=l) (args:=[claimV c]) (r:=R) (r1:=R) (r2:={ R with state:=.busy }) (s:=s) (s1:=s1) (s2:=s3.put q (.cells [v'] (tag 77))) (e:=.norm) jl (by rw [hR];rfl) (by rw [hR];exact code28a0) (by rw [hR];exact code28b0) (by rw [hR];exact h1) (by rw [s1g _ (by omega)];exact jl) (by rw [hR]) (by rw [hR];rw [hR] at h4';exact h4') s3l
  have hRR:({ ({ R with state:=.busy }:ALoop) with state:=if goesOn .norm then .ready else .done,pending:=jumpOf .norm }:ALoop)=R:=by rw [hR];rfl
  rw [hRR] at hfin
  refine ⟨_,true,hfin,fun _=>⟨get_put_eq _ _ _ _ rfl (by omega),?_,jq,ju,by simp only [put_n];omega,?_,?_,_,v',s2.n,s3.n,hnext,?_,hT3.mono (fun x h1 h2=>by rw [get_put_ne' _ _ _ _ (by omega),get_put_ne' _ _ _ _ (by omega)]) (Nat.le_refl _),by simp only [put_n];omega,by omega,.inr (by omega)⟩,(fun h=>(by cases h)),fun x hx ho=>?_,?_,?_,?_,?_,?_⟩
  ·rw [get_put_ne' _ _ _ _ (by omega),get_put_ne' _ _ _ _ (by omega),st3g _ (by omega),s2g _ (by omega) (by omega)];exact jd
  ·rw [get_put_ne' _ _ _ _ (by omega),get_put_ne' _ _ _ _ (by omega),st3g _ (by omega)];exact g2'
  ·rw [get_put_ne' _ _ _ _ (by omega),get_put_ne' _ _ _ _ (by omega),st3g _ (by omega)];exact g3'
  ·rw [get_put_ne' _ _ _ _ (by omega)];exact get_put_eq _ _ _ _ rfl (by omega)
  ·rw [get_put_ne' _ _ _ _ (by omega),get_put_ne' _ _ _ _ (by omega),st3g _ (by omega),s2g _ (by omega) (by omega)]
  ·simp only [put_n];omega
  ·simp only [put_n];omega
  ·simp only [St.put,minN_eq];omega
  ·simp only [St.put,minN_eq];omega
  ·simp only [St.put,minN_eq];omega
theorem known_ex {N:Nat} {b:Bench} {v1 v2 v3 v4:AV} {s:St} {r:ARes} (hr:call Try.prog X N (.fn 28) [.agg (benchV v1 v2 v3 v4 b.days)] s=r) (hN:7≤N) (ok:b.Ok) (hB:BenchAt s.h s.n b v1 v2 v3 v4) (hs:s.n+800000≤far) :
  ∃ v p t,r=.val (.tup [v,.bool p]) t∧New s t 100000∧((p=false∧v=.nilslice∧knT b (resMany b)=none)∨(p=true∧∃ T,knT b (resMany b)=some T∧GTabF t.h (s.n+3) t.n T v)):=by
 obtain ⟨n,rfl⟩:∃ n,N=n+1:=⟨N - 1,by omega⟩
 have hf:far=1000000000:=rfl
 obtain ⟨v',t,e,st,v,p,rfl,hq⟩:=call_new' (n:=n) (args:=[.agg (benchV v1 v2 v3 v4 b.days)]) (s:=s) (k:=100000) (Q:=fun v' h n=>∃ v p,v'=.tup [v,.bool p]∧((p=false∧v=.nilslice∧knT b (resMany b)=none)∨(p=true∧∃ T,knT b (resMany b)=some T∧GTabF h (s.n+3) n T v))) Try.func28 rfl (fun u uh un um=>by
  rw [← uh,← un] at hB
  unfold benchV
  rw [enter28]
  simp (disch:=first|omega|(with_unfolding_all exact rfl)|(simp only[new_n,put_n,new_m];omega)|(refine put_m_le ?_;simp only[new_m];omega)) only [res28,K28r0,K28r1,K28r2,K28r3,K28,K28a0r0,K28a0,K28b0r0,K28b0r1,K28b0r2,K28b0,Abs.W,reduceIte,Nat.reduceEqDiff,Nat.reduceAdd,decide_true,decide_false,kLoop_def,Nat.reduceSub,List.cons_append,List.nil_append,List.append_nil,List.length_cons,List.length_nil,Env.find_set,Nat.zero_add]
  obtain ⟨w0,hw0⟩:∃ w0:St,w0=((u.new (.cells [v1,v2,v3,v4,.int .i64 b.days] (tag 30))).new (.cells [.nilslice] (tag 77))).new (.cells [.bool false] (tag 4)):=⟨_,rfl⟩
  rw [← hw0]
  have w0n:w0.n=u.n+3:=by rw [hw0];rfl
  have w0m:w0.m=far:=by rw [hw0];exact um
  have w0g:∀ c,c<u.n→w0.h.get c=u.h.get c:=fun c hc=>by rw [hw0];simp (disch:=first|omega|(with_unfolding_all exact rfl)|(simp only[new_n,put_n,new_m];omega)|(refine put_m_le ?_;simp only[new_m];omega)) only [get_new_ne]
  have w00:w0.h.get u.n=some (.cells [v1,v2,v3,v4,.int .i64 b.days] (tag 30)):=by rw [hw0];simp (disch:=first|omega|(with_unfolding_all exact rfl)|(simp only[new_n,put_n,new_m];omega)|(refine put_m_le ?_;simp only[new_m];omega)) only [get_new_ne];exact get_new_eq _ _ _ rfl (by omega)
  have w01:w0.h.get (u.n+1)=some (.cells [.nilslice] (tag 77)):=by rw [hw0];simp (disch:=first|omega|(with_unfolding_all exact rfl)|(simp only[new_n,put_n,new_m];omega)|(refine put_m_le ?_;simp only[new_m];omega)) only [get_new_ne];exact get_new_eq _ _ _ rfl (by simp only [new_n];omega)
  have w02:w0.h.get (u.n+2)=some (.cells [.bool false] (tag 4)):=by rw [hw0];exact get_new_eq _ _ _ rfl (by simp only [new_n];omega)
  generalize hcg:call Try.prog X n (.fn 50) _ _=rg
  obtain ⟨vg,t0,rfl,stg,hTg⟩:=given_ex hcg (by omega) ok (hB.grow w0g (by omega)) (by omega)
  have stgg:=stg.same
  have stgn:=stg.n
  have stgl:=stg.le
  have stgm:=stg.m
  have vok:=hTg.tab.ok
  have vsc:=hTg.tab.sc
  have sc1:scalars [vg]=true:=by
   show (match vg.scalar with | true=>scalars [] | false=>false)=true
   rw [vsc];rfl
  have ce1:cellsOf 1 vg=some [vg]:=cellsOf_one vg vsc
  have t00:=(stgg u.n (by omega)).trans w00
  simp (disch:=first|omega|(with_unfolding_all exact rfl)|(simp only[new_n,put_n,new_m];omega)|(refine put_m_le ?_;simp only[new_m];omega)) only [Abs.W,reduceIte,Nat.reduceEqDiff,Nat.reduceAdd,decide_true,decide_false,kLoop_def,Nat.reduceSub,List.cons_append,List.nil_append,List.append_nil,List.length_cons,List.length_nil,Env.find_set,t00,ce1,sc1,vok,results_ok]
  simp only [put_n,new_n]
  generalize hL:Env.cons 0 _ _=L0
  have f2:L0.find 2=.ptr (u.n+1) 0:=by rw [← hL];simp only [find_cons,reduceIte,Nat.reduceEqDiff]
  have f3:L0.find 3=.ptr (u.n+2) 0:=by rw [← hL];simp only [find_cons,reduceIte,Nat.reduceEqDiff]
  have f4:L0.find 4=.ptr t0.n 0:=by rw [← hL];simp only [find_cons,reduceIte,Nat.reduceEqDiff]
  have f9:L0.find 9=.func 65 [] [.ptr (t0.n+1) 0]:=by rw [← hL];simp only [find_cons,reduceIte,Nat.reduceEqDiff]
  generalize hw:St.new (St.put _ _ _) _=w
  have wn:w.n=t0.n+2:=by rw [← hw];rfl
  have wm:w.m=min far t0.n:=by rw [← hw];simp only [St.put,minN_eq,new_m,stgm,w0m]
  have wg:∀ c,c<t0.n→w.h.get c=t0.h.get c:=fun c hc=>by rw [← hw];simp (disch:=first|omega|(with_unfolding_all exact rfl)|(simp only[new_n,put_n,new_m];omega)|(refine put_m_le ?_;simp only[new_m];omega)) only [get_new_ne,get_put_ne']
  have wq:w.h.get t0.n=some (.cells [vg] (tag 77)):=by rw [← hw];simp (disch:=first|omega|(with_unfolding_all exact rfl)|(simp only[new_n,put_n,new_m];omega)|(refine put_m_le ?_;simp only[new_m];omega)) only [get_new_ne];exact get_put_eq _ _ _ _ rfl (by omega)
  have wb:w.h.get (t0.n+1)=some (.cells [v1,v2,v3,v4,.int .i64 b.days] (tag 30)):=by rw [← hw];exact get_new_eq _ _ _ rfl (by simp only [put_n,new_n];omega)
  obtain ⟨n2,rfl⟩:∃ n2,n=n2+2:=⟨n - 2,by omega⟩
  obtain ⟨R,hRdef⟩:∃ R:ALoop,R=⟨.ready,none,28,L0,[10],(rangeAt Try.f28 0).1,(rangeAt Try.f28 0).2,t0.n+3 - 1,Try.f28.ntmps,X 28⟩:=⟨_,rfl⟩
  have hKl:resMany b≤12:=by unfold resMany;have:=ok.w1;have:=ok.t1;omega
  obtain ⟨w6,hw6⟩:∃ w6:St,w6=(w.new .dfr).new (.loop R):=⟨_,rfl⟩
  have w6n:w6.n=t0.n+4:=by rw [hw6];show w.n+1+1=_;omega
  have w6m:w6.m=min far t0.n:=by rw [hw6];exact wm
  have w6g:∀ c,c<t0.n+2→w6.h.get c=w.h.get c:=fun c hc=>by rw [hw6,get_new_ne _ _ _ (by simp only [new_n];omega),get_new_ne _ _ _ (by omega)]
  have w6d:w6.h.get (t0.n+2)=some .dfr:=by rw [hw6,get_new_ne _ _ _ (by simp only [new_n];omega)];exact get_new_eq _ _ _ wn.symm (by omega)
  have w6l:w6.h.get (t0.n+3)=some (.loop R):=by rw [hw6];exact get_new_eq _ _ _ (by simp only [new_n];omega) (by simp only [new_n];omega)
  have w6u:∀ c,c<u.n→w6.h.get c=u.h.get c:=fun c hc=>(w6g c (by omega)).trans ((wg c (by omega)).trans ((stgg c (by omega)).trans (w0g c hc)))
  have G0:KnJ b R u.n t0.n (t0.n+3) 0 w6.h w6.n:=⟨w6l,w6d,by omega,by omega,by omega,(w6g _ (by omega)).trans ((wg _ (by omega)).trans ((stgg _ (by omega)).trans w01)),(w6g _ (by omega)).trans ((wg _ (by omega)).trans ((stgg _ (by omega)).trans w02)),_,vg,w0.n+1,t0.n,rfl,(w6g _ (by omega)).trans wq,hTg.mono (fun x h1 h2=>(w6g x (by omega)).trans (wg x h2)) (Nat.le_refl _),by omega,by omega,.inl (Nat.le_refl _)⟩
  have hG:Yields (n2+1) (t0.n+3) (t0.n+4) 6000 (u.n+1) (fun x=>x=u.n+1∨x=u.n+2∨x=t0.n∨x=t0.n+3) (resMany b) (resAt b) (KnJ b R u.n t0.n (t0.n+3)) (KnS b R u.n (t0.n+3)):=⟨by omega,fun _ _ _ _ _ hh hn j=>j.keep hh hn,fun i s hi hJ h0 hs=>by
   obtain ⟨s',q,p1,p2,p3,p4,p5,p6,p7,p8,p9⟩:=known_take n2 (by omega) ok hRdef f2 f3 f4 hi (by omega) hJ
   exact ⟨s',q,p1,p2,p3,fun x hx ho=>p4 x (by omega) ho,p5,p6,p7,p8,p9⟩⟩
  generalize hc:call Try.prog X (n2+2) (.fn 65) [.yield (t0.n+3),.ptr (t0.n+1) 0] w6=r94
  obtain ⟨s2,rfl,G,same,sn,sk,sm,smm⟩:=results1_ex hc (by omega) hG ok u.n (hB.grow w6u (Nat.le_refl _)) (fun x hx=>⟨by omega,by omega⟩) ((w6g _ (by omega)).trans wb) ⟨by omega,by omega⟩ (by omega) (by omega) (by omega) (by omega) G0
  have hk32:(6000+1) * resMany b≤6001 * 12:=Nat.mul_le_mul_left _ hKl
  have hcall:callV (call Try.prog X (n2+2)) [.yield (w.n+1)] ((w.new .dfr).new (.loop ⟨.ready,none,28,L0,[10],(rangeAt Try.f28 0).1,(rangeAt Try.f28 0).2,w.n,Try.f28.ntmps,X 28⟩)) ((Arg.tmp 9).ev L0)=.val (.tup []) s2:=by
   rw [ev_tmp,f9,callV_func,wn,show (⟨.ready,none,28,L0,[10],(rangeAt Try.f28 0).1,(rangeAt Try.f28 0).2,t0.n+2,Try.f28.ntmps,X 28⟩:ALoop)=R from hRdef.symm,← hw6]
   exact hc
  have hE:∀ o,Beside u ((s2.put (t0.n+3) o).kill (t0.n+2)) 100000:=fun o=>⟨fun c hc=>by
    rw [get_kill_ne _ _ _ (by omega),get_put_ne' _ _ _ _ (by omega)]
    exact (same c (by omega) (by omega)).trans (w6u c hc),by show u.n≤s2.n;omega,by show s2.n≤u.n+100000;omega,by
    have:=sm (by omega)
    simp only [St.kill,St.put,minN_eq];omega,by
    simp only [St.kill,St.put,minN_eq];omega⟩
  have gk:∀ o c,c≠t0.n+2→c≠t0.n+3→((s2.put (t0.n+3) o).kill (t0.n+2)).h.get c=s2.h.get c:=fun o c h1 h2=>by rw [get_kill_ne _ _ _ h1,get_put_ne' _ _ _ _ h2]
  have sht:shapeT Try.prog 77=some none:=by kernel_rfl
  have shb:shapeT Try.prog 4=some none:=by kernel_rfl
  rcases G with G | G
  ·obtain ⟨g1,g2,g3,g4,g5,g6,g7,T,vT,lo,mm,k1,k2,k3,k4,k5,k6⟩:=G
   have hrange:=range_to_end (ps:=[10]) (c:=⟨28,none,Try.f28.ntmps,X 28⟩) rfl hcall (by rw [wn];exact g1) (by rw [hRdef]) (by rw [hRdef])
   rw [wn] at hrange
   have gq':∀ o,(s2.put (t0.n+2+1) o).h.get t0.n=some (.cells [vT] (tag 77)):=fun o=>by rw [get_put_ne' _ _ _ _ (by omega)];exact k2
   have g6':∀ o,(s2.put (t0.n+2+1) o).h.get (u.n+1)=some (.cells [.nilslice] (tag 77)):=fun o=>by rw [get_put_ne' _ _ _ _ (by omega)];exact g6
   have g7':∀ o,(s2.put (t0.n+2+1) o).h.get (u.n+2)=some (.cells [.bool false] (tag 4)):=fun o=>by rw [get_put_ne' _ _ _ _ (by omega)];exact g7
   have kok:=k3.tab.ok
   have ksc:=k3.tab.sc
   have sc2:scalars [vT]=true:=by
    show (match vT.scalar with | true=>scalars [] | false=>false)=true
    rw [ksc];rfl
   have ce2:cellsOf 1 vT=some [vT]:=cellsOf_one vT ksc
   simp (disch:=first|omega|(with_unfolding_all exact rfl)|(simp only[new_n,put_n,new_m];omega)|(refine put_m_le ?_;simp only[new_m];omega)) only [res28,K28r0,K28r1,K28r2,K28r3,K28,K28a0r0,K28a0,K28b0r0,K28b0r1,K28b0r2,K28b0,Abs.W,reduceIte,Nat.reduceEqDiff,Nat.reduceAdd,decide_true,decide_false,kLoop_def,Nat.reduceSub,List.cons_append,List.nil_append,List.append_nil,List.length_cons,List.length_nil,hrange,Env.find_set,f2,f3,f4,gq',g6',g7',kok,sc2,ce2,cellsOf_bool]
   generalize hs3:St.put (St.put (St.put s2 _ _) _ _) _ _=s3
   have s3n:s3.n=s2.n:=by rw [← hs3];rfl
   have s3g:∀ x,x≠u.n+1→x≠u.n+2→x≠t0.n+3→s3.h.get x=s2.h.get x:=fun x h1 h2 h3=>by rw [← hs3,get_put_ne' _ _ _ _ h2,get_put_ne' _ _ _ _ h1,get_put_ne' _ _ _ _ h3]
   have s31:s3.h.get (u.n+1)=some (.cells [vT] (tag 77)):=by rw [← hs3,get_put_ne' _ _ _ _ (by omega)];exact get_put_eq _ _ _ _ rfl (by omega)
   have s32:s3.h.get (u.n+2)=some (.cells [.bool true] (tag 4)):=by rw [← hs3];exact get_put_eq _ _ _ _ rfl (by omega)
   have s3m:s3.m=min (min (min s2.m (t0.n+3)) (u.n+1)) (u.n+2):=by rw [← hs3];simp only [St.put,minN_eq]
   have sm':=sm (by omega)
   rw [leave_dfr _ _ _ _ _ (show s3.h.get (t0.n+2)=some .dfr from (s3g _ (by omega) (by omega) (by omega)).trans g2)]
   have gk3:∀ x,x≠t0.n+2→(s3.kill (t0.n+2)).h.get x=s3.h.get x:=fun x h=>get_kill_ne _ _ _ h
   rw [leave_cell_cell (v:=vT) (v':=.bool true) 2 77 3 4 L0 _ sht shb (by rw [f2,load_ptr,gk3 _ (by omega),s31,loadO_cells,partS_one];exact kok _) (by rw [f3,load_ptr,gk3 _ (by omega),s32,loadO_cells,partS_one];rfl)]
   refine ⟨_,_,rfl,⟨fun c hc=>?_,by show u.n≤s3.n;omega,by show s3.n≤u.n+100000;omega,?_,?_⟩,⟨vT,true,rfl,.inr ⟨rfl,T,k1,k3.mono' (fun x h1 h2=>?_) (by omega) (by show mm≤s3.n;omega)⟩⟩,fun hp=>?_⟩
   ·rw [gk3 _ (by omega),s3g _ (by omega) (by omega) (by omega)]
    exact (same c (by omega) (by omega)).trans (w6u c hc)
   ·simp only [St.kill,minN_eq];omega
   ·simp only [St.kill,minN_eq];omega
   ·rw [gk3 _ (by omega),s3g _ (by omega) (by omega) (by omega)]
   ·exact absurd hp (by
     have hl:=k3.tab.len u
     rw [(knT_ok ok _ T (Nat.le_refl _) k1).sq.1] at hl
     have:plain vT=false:=by
      cases vT<;>first | rfl | (simp [lenSlA] at hl<;>omega)
     show ¬ ((match plain vT with | true=>plains [.bool true] | false=>false)=true)
     rw [this];simp)
  ·obtain ⟨g1,g2,g3,g4,g5,g6⟩:=G
   have hrange:=range_to_ret (ps:=[10]) (c:=⟨28,none,Try.f28.ntmps,X 28⟩) rfl hcall (by rw [wn];exact g1) rfl rfl
   rw [wn] at hrange
   simp (disch:=first|omega|(with_unfolding_all exact rfl)|(simp only[new_n,put_n,new_m];omega)|(refine put_m_le ?_;simp only[new_m];omega)) only [res28,K28r0,K28r1,K28r2,K28r3,K28,K28a0r0,K28a0,K28b0r0,K28b0r1,K28b0r2,K28b0,Abs.W,reduceIte,Nat.reduceEqDiff,Nat.reduceAdd,decide_true,decide_false,kLoop_def,Nat.reduceSub,List.cons_append,List.nil_append,List.append_nil,List.length_cons,List.length_nil,hrange,Env.find_set]
   rw [leave_dfr _ _ _ _ _ (by rw [get_put_ne' _ _ _ _ (by omega)];exact g2)]
   rw [leave_cell_cell (v:=.nilslice) (v':=.bool false) 2 77 3 4 L0 _ sht shb (by rw [f2,load_ptr,gk _ _ (by omega) (by omega),g4,loadO_cells,partS_one];rfl) (by rw [f3,load_ptr,gk _ _ (by omega) (by omega),g5,loadO_cells,partS_one];rfl)]
   exact ⟨_,_,rfl,hE _,⟨.nilslice,false,rfl,.inl ⟨rfl,rfl,g6⟩⟩,fun _=>⟨.nilslice,false,rfl,.inl ⟨rfl,rfl,g6⟩⟩⟩)
 exact ⟨v,p,t,hr.symm.trans e,st,hq⟩
end Go.Proofs.Ytfekafjfidohdaa.walk
set_option maxRecDepth 10000
namespace Go.Abs
theorem ext0 (a b:AV) (s:St):extA 0 s (.tup [a,b])=.val a s:=Eq.trans (Eq.refl _) (Eq.refl _)
theorem ext1 (a b:AV) (s:St):extA 1 s (.tup [a,b])=.val b s:=Eq.trans (Eq.refl _) (Eq.refl _)
theorem okA_tup (l:List AV) (s:St):okA (.val (.tup l) s)=.val (.tup l) s:=Eq.trans (Eq.refl _) (Eq.refl _)
theorem leave_tt {P:Program} (a b:Nat) (L:Env) (s:St):leaveA P [.tmp a,.tmp b] L [] s=.val (.tup [L.find a,L.find b]) s:=rfl
end Go.Abs
namespace Go.Proofs.Ytfekafjfidohdaa.walk
open Go.Abs Go.Proofs.Ytfekafjfidohdaa.code
def offsOf (b:Bench) (T:List (List Gap)):List Gap:=(List.range b.ms.length).map fun i=>ent T (1+i) 0
def errsOf (b:Bench) (T:List (List Gap)) (k:Nat):List Gap:=(List.range (b.days+1)).map fun d=>ent T 0 (errAt b k d)
structure Fills (w t:St) (R n i:Nat) (f:Nat→Gap):Prop where
 same:∀ x,x≠R→t.h.get x=w.h.get x
 tn:t.n=w.n
 m:R≤w.m→R≤t.m
 mle:t.m≤w.m
 row:t.h.get R=some (.cells (fillRows n zgap (gapRow ((List.range i).map f))).flatten 0)
theorem Fills.step {w t:St} {R n i:Nat} {f:Nat→Gap} (h:Fills w t R n i f) (hi:i<n) (hR:R<549755813888):over (i * 2) [.int .i64 (f i).1,.int .i64 (f i).2] (fillRows n zgap (gapRow ((List.range i).map f))).flatten=some (fillRows n zgap (gapRow ((List.range (i+1)).map f))).flatten∧Fills w (t.put R (.cells (fillRows n zgap (gapRow ((List.range (i+1)).map f))).flatten 0)) R n (i+1) f:=by
 have hlen:(gapRow ((List.range i).map f)).length=i:=by rw [gapRow_len,List.length_map,List.length_range]
 have hov:=fillRows_over (n:=n) (z:=zgap) (row:=[.int .i64 (f i).1,.int .i64 (f i).2]) (l:=gapRow ((List.range i).map f)) (w:=2) rfl (gapRow_wide _) rfl (by omega)
 rw [hlen,← gapRow_snoc,← range_snoc (f:=f)] at hov
 refine ⟨hov,fun x hx=>(get_put_ne' _ _ _ _ hx).trans (h.same x hx),h.tn,fun hm=>?_,?_,get_put_eq _ _ _ _ rfl hR⟩
 ·have:=h.m hm
  simp only [St.put,minN_eq];omega
 ·have:=h.mle
  simp only [St.put,minN_eq];omega
theorem Fills.done {w t:St} {R n:Nat} {f:Nat→Gap} (h:Fills w t R n n f) (hR:R<t.n):RowsAt t.h t.n 2 (gapRow ((List.range n).map f)) (.slice R 0 n n false):=by
 have hl:(gapRow ((List.range n).map f)).length=n:=by rw [gapRow_len,List.length_map,List.length_range]
 have hr:=h.row
 rw [fillRows_full hl] at hr
 exact ⟨fun s=>by rw [lenSl_slice,hl],fun j hj=>⟨R,j * 2,_,_,hR,fun s=>by rw [ixs_slice _ _ _ _ _ _ _ _ (by omega),Nat.zero_add],hr,flatten_cut (gapRow_wide _) hj⟩⟩
theorem Offs_ex {N:Nat} {b:Bench} {v1 v2 v3 v4:AV} {s:St} {r:ARes} (hr:call Try.prog X N (.fn 9) [.agg (benchV v1 v2 v3 v4 b.days)] s=r) (hN:8≤N) (ok:b.Ok) (hB:BenchAt s.h s.n b v1 v2 v3 v4) (hs:s.n+900000≤far) :
  ∃ v e t,r=.val (.tup [v,.int .i64 e]) t∧New s t 110000∧((knT b (resMany b)=none∧v=.nilslice∧e=9)∨(e=0∧∃ T,knT b (resMany b)=some T∧RowsAt t.h t.n 2 (gapRow (offsOf b T)) v)):=by
 obtain ⟨n,rfl⟩:∃ n,N=n+1:=⟨N - 1,by omega⟩
 have hf:far=1000000000:=rfl
 obtain ⟨v',t,e,st,v,ee,rfl,hq⟩:=call_new' (n:=n) (args:=[.agg (benchV v1 v2 v3 v4 b.days)]) (s:=s) (k:=110000) (Q:=fun v' h n=>∃ v e,v'=.tup [v,.int .i64 e]∧((knT b (resMany b)=none∧v=.nilslice∧e=9)∨(e=0∧∃ T,knT b (resMany b)=some T∧RowsAt h n 2 (gapRow (offsOf b T)) v))) Try.func9 rfl (fun u uh un um=>by
  rw [← uh,← un] at hB
  have hlm:=hB.m.len
  rw [List.length_map] at hlm
  have hmk:∀ t,okA (.val v1 t)=.val v1 t:=fun t=>okA_ne hB.m.ne
  rw [enter9]
  obtain ⟨w0,hw0⟩:∃ w0:St,w0=u.new (.cells (benchV v1 v2 v3 v4 b.days) (tag 30)):=⟨_,rfl⟩
  have w0n:w0.n=u.n+1:=by rw [hw0];rfl
  have w0g:∀ c,c<u.n→w0.h.get c=u.h.get c:=fun c hc=>by rw [hw0,get_new_ne _ _ _ (by omega)]
  have w00:w0.h.get u.n=some (.cells (benchV v1 v2 v3 v4 b.days) (tag 30)):=by rw [hw0];exact get_new_eq _ _ _ rfl (by omega)
  have w0E:Beside u w0 1:=by rw [hw0];exact (Beside.refl u (by omega) um).new _
  have hB0:=hB.grow w0g (by omega:u.n≤w0.n)
  have hck:=ckBench_ok n (by omega) b ok v1 v2 v3 v4 w0 hB0 (by omega)
  have z0:(!decide ((0:Int)=0))=false:=rfl
  unfold benchV at hw0 w00 hck ⊢
  simp (disch:=first|omega|(with_unfolding_all exact rfl)|(simp only[new_n,put_n,new_m];omega)|(refine put_m_le ?_;simp only[new_m];omega)) only [res9,K9r0,K9r1,K9r2,K9r3,K9r4,K9r5,K9r6,K9r7,K9r8,K9r9,K9r10,K9r11,K9r12,K9r13,K9,Abs.W,reduceIte,Nat.reduceEqDiff,Nat.reduceAdd,decide_true,decide_false,kLoop_def,Nat.reduceSub,List.cons_append,List.nil_append,List.append_nil,List.length_cons,List.length_nil,Env.find_set,Nat.zero_add]
  rw [← hw0]
  simp (disch:=first|omega|(with_unfolding_all exact rfl)|(simp only[new_n,put_n,new_m];omega)|(refine put_m_le ?_;simp only[new_m];omega)) only [Abs.W,reduceIte,Nat.reduceEqDiff,Nat.reduceAdd,decide_true,decide_false,kLoop_def,Nat.reduceSub,List.cons_append,List.nil_append,List.append_nil,List.length_cons,List.length_nil,w00,hck,Env.find_set,z0]
  generalize hc:call Try.prog X n (.fn 28) _ _=rk
  obtain ⟨vk,p,s1,rfl,st1,hk⟩:=known_ex hc (by omega) ok hB0 (by omega)
  have s1g:=st1.same
  have s1n:=st1.n
  have s1l:=st1.le
  have s10:=(s1g u.n (by omega)).trans w00
  rcases hk with ⟨rfl,rfl,hno⟩ | ⟨rfl,T,hT,hG⟩
  ·simp (disch:=first|omega|(with_unfolding_all exact rfl)|(simp only[new_n,put_n,new_m];omega)|(refine put_m_le ?_;simp only[new_m];omega)) only [res9,K9r0,K9r1,K9r2,K9r3,K9r4,K9r5,K9r6,K9r7,K9r8,K9r9,K9r10,K9r11,K9r12,K9r13,K9,Abs.W,reduceIte,Nat.reduceEqDiff,Nat.reduceAdd,decide_true,decide_false,kLoop_def,Nat.reduceSub,List.cons_append,List.nil_append,List.append_nil,List.length_cons,List.length_nil,Env.find_set,ext0,ext1,leave_tt]
   exact ⟨_,_,rfl,(w0E.after st1).mono (by omega),⟨.nilslice,9,rfl,.inl ⟨hno,rfl,rfl⟩⟩,fun _=>⟨.nilslice,9,rfl,.inl ⟨hno,rfl,rfl⟩⟩⟩
  ·have kOk:=knT_ok ok _ T (Nat.le_refl _) hT
   have gt:=hG.tab
   have vok:=gt.ok
   have m1:=ok.m1
   have m0:=ok.m0
   have hgm:b.ms.length≤givMany b:=by unfold givMany;omega
   have mk:∀ s:St,makeA [.int .i64 0,.int .i64 0] 16 s (.int .i64 (b.ms.length:Int)) (.int .i64 (b.ms.length:Int))=.val (.slice s.n 0 b.ms.length b.ms.length false) (s.new (.cells (List.replicate b.ms.length zgap).flatten 0)):=fun s=>make_rows zgap 16 b.ms.length s (by omega) (by omega)
   have okR:∀ x t,okA (.val (.slice x 0 b.ms.length b.ms.length false) t)=.val (.slice x 0 b.ms.length b.ms.length false) t:=fun _ _=>rfl
   simp (disch:=first|omega|(with_unfolding_all exact rfl)|(simp only[new_n,put_n,new_m];omega)|(refine put_m_le ?_;simp only[new_m];omega)) only [res9,K9r0,K9r1,K9r2,K9r3,K9r4,K9r5,K9r6,K9r7,K9r8,K9r9,K9r10,K9r11,K9r12,K9r13,K9,Abs.W,reduceIte,Nat.reduceEqDiff,Nat.reduceAdd,decide_true,decide_false,kLoop_def,Nat.reduceSub,List.cons_append,List.nil_append,List.append_nil,List.length_cons,List.length_nil,Env.find_set,ext0,ext1,okA_tup,vok,s10,hmk,hlm,kMake_def,mk,okR]
   generalize hl:loopN _ rounds _ _ _ _ _=r1
   obtain ⟨w,L0,hw,hL0,hl'⟩:=loop_state hl
   have wn:w.n=s1.n+1:=by rw [hw];rfl
   have wE:Beside u w 100002:=by rw [hw];exact ((w0E.after st1).new _).mono (by omega)
   have wg:∀ c,c<s1.n→w.h.get c=s1.h.get c:=fun c hc=>by rw [hw,get_new_ne _ _ _ (by omega)]
   have wR:w.h.get s1.n=some (.cells (List.replicate b.ms.length zgap).flatten 0):=by rw [hw];exact get_new_eq _ _ _ rfl (by omega)
   have wm:=wE.m
   have wf:=wE.far
   have wmf:w.m=far:=by rw [hw,new_m,st1.m,hw0,new_m,um]
   obtain ⟨e,L1,s2,rfl,rfl,f5,f7,hF⟩:=loop_of hl' (fun i L' t'=>L'.find 5=vk∧L'.find 7=.slice s1.n 0 b.ms.length b.ms.length false∧L'.find 26=.int .i64 b.ms.length∧L'.find 27=.int .i64 i∧Fills w t' s1.n b.ms.length i (fun i=>ent T (1+i) 0))
    (fun e L' t'=>e=.exit 0∧L'.find 5=vk∧L'.find 7=.slice s1.n 0 b.ms.length b.ms.length false∧Fills w t' s1.n b.ms.length b.ms.length (fun i=>ent T (1+i) 0)) b.ms.length (by unfold rounds;omega)
    ⟨by rw [hL0];simp only [Env.find_set,find_cons,reduceIte,Nat.reduceEqDiff],by rw [hL0];simp only [Env.find_set,find_cons,reduceIte,Nat.reduceEqDiff],by rw [hL0];simp only [Env.find_set,find_cons,reduceIte,Nat.reduceEqDiff],by rw [hL0];simp only [Env.find_set,find_cons,reduceIte,Nat.reduceEqDiff];rfl,fun _ _=>rfl,rfl,fun h=>h,Nat.le_refl _,by rw [wR,List.range_zero,List.map_nil];exact congrArg (fun x=>some (AObj.cells (List.flatten x) 0)) (fillRows_nil b.ms.length zgap).symm⟩
    (fun i L' t' hi ⟨q5,q7,q26,q27,hF⟩=>by
     by_cases hlt:i<b.ms.length
     ·have e0:decide ((i:Int)<(b.ms.length:Int))=true:=decide_eq_true (by omega)
      obtain ⟨b0,p0,c0,z0',vr,d1,d2,d3,d4,d5,dne,d6,d7⟩:=gt.row kOk.sq (i:=1+i) (by show 1+i<givMany b+1;omega)
      obtain ⟨x1,y1,k1,o1,f1,f2,f3,f4⟩:=d7 0 (Nat.succ_pos _)
      have g0:=(hF.same b0 (by omega)).trans ((wg b0 d1).trans d3)
      have g1:=(hF.same x1 (by omega)).trans ((wg x1 f1).trans f3)
      have f2':∀ s,ixsA 2 s vr (.int .i64 0)=.val (.ptr x1 y1) s:=f2
      have tn:=hF.tn
      have i2:∀ s,ixsA 2 s (.slice s1.n 0 b.ms.length b.ms.length false) (.int .i64 (i:Int))=.val (.ptr s1.n (i * 2)) s:=fun s=>by rw [ixs_slice _ _ _ _ _ _ _ _ hlt,Nat.zero_add]
      obtain ⟨hov,hF'⟩:=hF.step hlt (by omega)
      have hrow:=hF.row
      have ad:∀ s,aAdd s .i64 (i:Int) 1=.val (.int .i64 ((i:Int)+1)) s:=fun s=>aAdd_i64 s _ _ (by omega)
      refine .inl ⟨hlt,_,_,by
       simp (disch:=first|omega|(with_unfolding_all exact rfl)|(simp only[new_n,put_n,new_m];omega)|(refine put_m_le ?_;simp only[new_m];omega)) only [res9,K9r0,K9r1,K9r2,K9r3,K9r4,K9r5,K9r6,K9r7,K9r8,K9r9,K9r10,K9r11,K9r12,K9r13,K9,K9l0,Abs.W,reduceIte,Nat.reduceEqDiff,Nat.reduceAdd,decide_true,decide_false,kLoop_def,Nat.reduceSub,List.cons_append,List.nil_append,List.append_nil,List.length_cons,List.length_nil,Env.find_set,q5,q7,q26,q27,e0,massN_ok,d2,d4,d5,g0,f2',g1,f4,gapSpan_ok,i2,hrow,hov,ad,vok,okR]
       rfl,?_,?_,?_,?_,hF'⟩
      ·simp only [Env.find_set,q5,reduceIte,Nat.reduceEqDiff]
      ·simp only [Env.find_set,q7,reduceIte,Nat.reduceEqDiff]
      ·simp only [Env.find_set,q26,reduceIte,Nat.reduceEqDiff]
      ·simp only [Env.find_set,reduceIte,Nat.reduceEqDiff];rfl
     ·obtain rfl:i=b.ms.length:=by omega
      have e1:decide ((b.ms.length:Int)<(b.ms.length:Int))=false:=by simp
      refine .inr ⟨.exit 0,L'.set 28 (.bool false),t',by simp,?_,rfl,?_,?_,hF⟩
      ·simp (disch:=first|omega|(with_unfolding_all exact rfl)|(simp only[new_n,put_n,new_m];omega)|(refine put_m_le ?_;simp only[new_m];omega)) only [res9,K9r0,K9r1,K9r2,K9r3,K9r4,K9r5,K9r6,K9r7,K9r8,K9r9,K9r10,K9r11,K9r12,K9r13,K9,K9l0,Abs.W,reduceIte,Nat.reduceEqDiff,Nat.reduceAdd,decide_true,decide_false,kLoop_def,Nat.reduceSub,List.cons_append,List.nil_append,List.append_nil,List.length_cons,List.length_nil,Env.find_set,q26,q27,e1]
      ·simp only [Env.find_set,q5,reduceIte,Nat.reduceEqDiff]
      ·simp only [Env.find_set,q7,reduceIte,Nat.reduceEqDiff])
   simp (disch:=first|omega|(with_unfolding_all exact rfl)|(simp only[new_n,put_n,new_m];omega)|(refine put_m_le ?_;simp only[new_m];omega)) only [res9,K9r0,K9r1,K9r2,K9r3,K9r4,K9r5,K9r6,K9r7,K9r8,K9r9,K9r10,K9r11,K9r12,K9r13,K9,Abs.W,reduceIte,Nat.reduceEqDiff,Nat.reduceAdd,decide_true,decide_false,kLoop_def,Nat.reduceSub,List.cons_append,List.nil_append,List.append_nil,List.length_cons,List.length_nil,Env.find_set,f7,leave_tt,okR]
   have tn:=hF.tn
   have tmm:=hF.m
   have tml:=hF.mle
   refine ⟨_,_,rfl,⟨fun c hc=>(hF.same c (by omega)).trans (wE.same c hc),by have:=wE.n;omega,by have:=wE.le;omega,?_,by omega⟩,⟨_,0,rfl,.inr ⟨rfl,T,hT,hF.done (by omega)⟩⟩,fun hp=>?_⟩
   ·have:=tmm (by omega);omega
   ·exact absurd hp (by simp [plain,plains]))
 exact ⟨v,ee,t,hr.symm.trans e,st,hq⟩
theorem Errors_ex {N k:Nat} {b:Bench} {v1 v2 v3 v4:AV} {s:St} {r:ARes} (hr:call Try.prog X N (.fn 10) [.agg (benchV v1 v2 v3 v4 b.days),.int .i64 (k:Int)] s=r) (hN:8≤N) (ok:b.Ok) (hk:k<b.ss.length) (hB:BenchAt s.h s.n b v1 v2 v3 v4) (hs:s.n+900000≤far) :
  ∃ v e t,r=.val (.tup [v,.int .i64 e]) t∧New s t 110000∧((knT b (resMany b)=none∧v=.nilslice∧e=9)∨(e=0∧∃ T,knT b (resMany b)=some T∧RowsAt t.h t.n 2 (gapRow (errsOf b T k)) v)):=by
 obtain ⟨n,rfl⟩:∃ n,N=n+1:=⟨N - 1,by omega⟩
 have hf:far=1000000000:=rfl
 obtain ⟨v',t,e,st,v,ee,rfl,hq⟩:=call_new' (n:=n) (args:=[.agg (benchV v1 v2 v3 v4 b.days),.int .i64 (k:Int)]) (s:=s) (k:=110000) (Q:=fun v' h n=>∃ v e,v'=.tup [v,.int .i64 e]∧((knT b (resMany b)=none∧v=.nilslice∧e=9)∨(e=0∧∃ T,knT b (resMany b)=some T∧RowsAt h n 2 (gapRow (errsOf b T k)) v))) Try.func10 rfl (fun u uh un um=>by
  rw [← uh,← un] at hB
  have hlm:=hB.m.len
  rw [List.length_map] at hlm
  have hls:=hB.s.len
  rw [List.length_map] at hls
  have hsk:∀ t,okA (.val v3 t)=.val v3 t:=fun t=>okA_ne hB.s.ne
  rw [enter10]
  obtain ⟨w0,hw0⟩:∃ w0:St,w0=u.new (.cells (benchV v1 v2 v3 v4 b.days) (tag 30)):=⟨_,rfl⟩
  have w0n:w0.n=u.n+1:=by rw [hw0];rfl
  have w0g:∀ c,c<u.n→w0.h.get c=u.h.get c:=fun c hc=>by rw [hw0,get_new_ne _ _ _ (by omega)]
  have w00:w0.h.get u.n=some (.cells (benchV v1 v2 v3 v4 b.days) (tag 30)):=by rw [hw0];exact get_new_eq _ _ _ rfl (by omega)
  have w0E:Beside u w0 1:=by rw [hw0];exact (Beside.refl u (by omega) um).new _
  have hB0:=hB.grow w0g (by omega:u.n≤w0.n)
  have hck:=fun m=>ckBench_ok n (by omega) b ok v1 v2 v3 v4 ⟨w0.h,w0.n,m⟩ (show BenchAt (⟨w0.h,w0.n,m⟩:St).h (⟨w0.h,w0.n,m⟩:St).n b v1 v2 v3 v4 from hB0) (by show w0.n+4000≤far;omega)
  have hwn:w0.n≤far:=by omega
  have hwm:w0.m≤far:=w0E.far
  have z0:(!decide ((0:Int)=0))=false:=rfl
  unfold benchV at hw0 w00 hck ⊢
  simp (disch:=first|omega|(with_unfolding_all exact rfl)|(simp only[new_n,put_n,new_m];omega)|(refine put_m_le ?_;simp only[new_m];omega)) only [res10,K10r0,K10r1,K10r2,K10r3,K10r4,K10r5,K10r6,K10r7,K10r8,K10r9,K10r10,K10r11,K10r12,K10r13,K10,Abs.W,reduceIte,Nat.reduceEqDiff,Nat.reduceAdd,decide_true,decide_false,kLoop_def,Nat.reduceSub,List.cons_append,List.nil_append,List.append_nil,List.length_cons,List.length_nil,Env.find_set,Nat.zero_add]
  rw [← hw0]
  simp (disch:=first|omega|(with_unfolding_all exact rfl)|(simp only[new_n,put_n,new_m];omega)|(refine put_m_le ?_;simp only[new_m];omega)) only [Abs.W,reduceIte,Nat.reduceEqDiff,Nat.reduceAdd,decide_true,decide_false,kLoop_def,Nat.reduceSub,List.cons_append,List.nil_append,List.append_nil,List.length_cons,List.length_nil,w00,hck,thenT_same _ _ _ _ _ _ _ hwn hwm,hsk,hls,named_ok,or_new2,Env.find_set,z0,Nat.zero_add]
  obtain ⟨w1,hw1⟩:∃ w1:St,w1=w0.new (.cells [.int .i64 0,.int .i64 0] 0):=⟨_,rfl⟩
  rw [← hw1]
  have w1n:w1.n=u.n+2:=by rw [hw1];show w0.n+1=_;omega
  have w1g:∀ c,c<w0.n→w1.h.get c=w0.h.get c:=fun c hc=>by rw [hw1,get_new_ne _ _ _ (by omega)]
  have w1E:Beside u w1 2:=by rw [hw1];exact w0E.new _
  have hB1:=hB0.grow w1g (by omega:w0.n≤w1.n)
  generalize hc:call Try.prog X n (.fn 28) _ _=rk
  obtain ⟨vk,p,s1,rfl,st1,hk⟩:=known_ex hc (by omega) ok hB1 (by omega)
  have s1g:=st1.same
  have s1n:=st1.n
  have s1l:=st1.le
  have s10:=(s1g u.n (by omega)).trans ((w1g u.n (by omega)).trans w00)
  rcases hk with ⟨rfl,rfl,hno⟩ | ⟨rfl,T,hT,hG⟩
  ·simp (disch:=first|omega|(with_unfolding_all exact rfl)|(simp only[new_n,put_n,new_m];omega)|(refine put_m_le ?_;simp only[new_m];omega)) only [res10,K10r0,K10r1,K10r2,K10r3,K10r4,K10r5,K10r6,K10r7,K10r8,K10r9,K10r10,K10r11,K10r12,K10r13,K10,Abs.W,reduceIte,Nat.reduceEqDiff,Nat.reduceAdd,decide_true,decide_false,kLoop_def,Nat.reduceSub,List.cons_append,List.nil_append,List.append_nil,List.length_cons,List.length_nil,Env.find_set,ext0,ext1,leave_tt]
   exact ⟨_,_,rfl,(w1E.after st1).mono (by omega),⟨.nilslice,9,rfl,.inl ⟨hno,rfl,rfl⟩⟩,fun _=>⟨.nilslice,9,rfl,.inl ⟨hno,rfl,rfl⟩⟩⟩
  ·have kOk:=knT_ok ok _ T (Nat.le_refl _) hT
   have gt:=hG.tab
   have vok:=gt.ok
   have m1:=ok.m1
   have d1':=ok.d1
   have sl1:=ok.s1
   have hge:∀ d,d≤b.days→errAt b k d<givMany b+1:=fun d hd=>by
    unfold errAt givMany
    have:(k+1) * (b.days+1)≤b.ss.length * (b.days+1):=Nat.mul_le_mul_right _ (by omega)
    rw [Nat.succ_mul] at this
    omega
   have ad0:∀ s,aAdd s .i64 (b.days:Int) 1=.val (.int .i64 ((b.days+1:Nat):Int)) s:=fun s=>aAdd_i64 s _ _ (by omega)
   have he0:∀ (d:Nat) (s:St),d≤100→s.n+100≤far→call Try.prog X n (.fn 33) [.agg [v1,v2,v3,v4,.int .i64 b.days],.int .i64 (k:Int),.int .i64 (d:Int)] s=.val (.int .i64 ((errAt b k d:Nat):Int)) s:=fun d s hd hs=>errorAt_ok n (by omega) b.ms.length b.days k d v1 v2 v3 v4 hlm hB.m.ne s (by omega) (by omega) (by omega) (by omega) hs
   have mk:∀ s:St,makeA [.int .i64 0,.int .i64 0] 16 s (.int .i64 ((b.days+1:Nat):Int)) (.int .i64 ((b.days+1:Nat):Int))=.val (.slice s.n 0 (b.days+1) (b.days+1) false) (s.new (.cells (List.replicate (b.days+1) zgap).flatten 0)):=fun s=>make_rows zgap 16 (b.days+1) s (by omega) (by omega)
   have okR:∀ x t,okA (.val (.slice x 0 (b.days+1) (b.days+1) false) t)=.val (.slice x 0 (b.days+1) (b.days+1) false) t:=fun _ _=>rfl
   simp (disch:=first|omega|(with_unfolding_all exact rfl)|(simp only[new_n,put_n,new_m];omega)|(refine put_m_le ?_;simp only[new_m];omega)) only [res10,K10r0,K10r1,K10r2,K10r3,K10r4,K10r5,K10r6,K10r7,K10r8,K10r9,K10r10,K10r11,K10r12,K10r13,K10,Abs.W,reduceIte,Nat.reduceEqDiff,Nat.reduceAdd,decide_true,decide_false,kLoop_def,Nat.reduceSub,List.cons_append,List.nil_append,List.append_nil,List.length_cons,List.length_nil,Env.find_set,ext0,ext1,okA_tup,vok,s10,ad0,kMake_def,mk,okR]
   generalize hl:loopN _ rounds _ _ _ _ _=r1
   obtain ⟨w,L0,hw,hL0,hl'⟩:=loop_state hl
   have wn:w.n=s1.n+1:=by rw [hw];rfl
   have wE:Beside u w 100003:=by rw [hw];exact ((w1E.after st1).new _).mono (by omega)
   have wg:∀ c,c<s1.n→w.h.get c=s1.h.get c:=fun c hc=>by rw [hw,get_new_ne _ _ _ (by omega)]
   have wR:w.h.get s1.n=some (.cells (List.replicate (b.days+1) zgap).flatten 0):=by rw [hw];exact get_new_eq _ _ _ rfl (by omega)
   have wm:=wE.m
   have wf:=wE.far
   have wmf:w.m=far:=by rw [hw,new_m,st1.m,hw1,new_m,hw0,new_m,um]
   obtain ⟨e,L1,s2,rfl,rfl,f5,f7,hF⟩:=loop_of hl' (fun i L' t'=>L'.find 1=.int .i64 k∧L'.find 2=.ptr u.n 0∧L'.find 7=vk∧L'.find 9=.slice s1.n 0 (b.days+1) (b.days+1) false∧L'.find 35=.int .i64 ((b.days+1:Nat):Int)∧L'.find 36=.int .i64 i∧Fills w t' s1.n (b.days+1) i (fun d=>ent T 0 (errAt b k d)))
    (fun e L' t'=>e=.exit 0∧L'.find 7=vk∧L'.find 9=.slice s1.n 0 (b.days+1) (b.days+1) false∧Fills w t' s1.n (b.days+1) (b.days+1) (fun d=>ent T 0 (errAt b k d))) (b.days+1) (by unfold rounds;omega)
    ⟨by rw [hL0];simp only [Env.find_set,find_cons,reduceIte,Nat.reduceEqDiff],by rw [hL0];simp only [Env.find_set,find_cons,reduceIte,Nat.reduceEqDiff],by rw [hL0];simp only [Env.find_set,find_cons,reduceIte,Nat.reduceEqDiff],by rw [hL0];simp only [Env.find_set,find_cons,reduceIte,Nat.reduceEqDiff],by rw [hL0];simp only [Env.find_set,find_cons,reduceIte,Nat.reduceEqDiff],by rw [hL0];simp only [Env.find_set,find_cons,reduceIte,Nat.reduceEqDiff];rfl,fun _ _=>rfl,rfl,fun h=>h,Nat.le_refl _,by rw [wR,List.range_zero,List.map_nil];exact congrArg (fun x=>some (AObj.cells (List.flatten x) 0)) (fillRows_nil (b.days+1) zgap).symm⟩
    (fun i L' t' hi ⟨q1,q2,q5,q7,q26,q27,hF⟩=>by
     by_cases hlt:i<(b.days+1)
     ·have e0:decide ((i:Int)<((b.days+1:Nat):Int))=true:=decide_eq_true (by omega)
      obtain ⟨b0,p0,c0,z0',vr,d1,d2,d3,d4,d5,dne,d6,d7⟩:=gt.row kOk.sq (i:=0) (Nat.succ_pos _)
      obtain ⟨x1,y1,k1,o1,f1,f2,f3,f4⟩:=d7 (errAt b k i) (hge i (by omega))
      have d2':∀ s,ixsA 1 s vk (.int .i64 0)=.val (.ptr b0 p0) s:=d2
      have gb:=(hF.same u.n (by omega)).trans ((wg u.n (by omega)).trans s10)
      have he1:=fun s hs=>he0 i s (by omega) hs
      have g0:=(hF.same b0 (by omega)).trans ((wg b0 d1).trans d3)
      have g1:=(hF.same x1 (by omega)).trans ((wg x1 f1).trans f3)
      have tn:=hF.tn
      have tmle:=hF.mle
      have htn:t'.n≤far:=by omega
      have htm:t'.m≤far:=by omega
      have i2:∀ s,ixsA 2 s (.slice s1.n 0 (b.days+1) (b.days+1) false) (.int .i64 (i:Int))=.val (.ptr s1.n (i * 2)) s:=fun s=>by rw [ixs_slice _ _ _ _ _ _ _ _ hlt,Nat.zero_add]
      obtain ⟨hov,hF'⟩:=hF.step hlt (by omega)
      have hrow:=hF.row
      have ad:∀ s,aAdd s .i64 (i:Int) 1=.val (.int .i64 ((i:Int)+1)) s:=fun s=>aAdd_i64 s _ _ (by omega)
      refine .inl ⟨hlt,_,_,by
       simp (disch:=first|omega|(with_unfolding_all exact rfl)|(simp only[new_n,put_n,new_m];omega)|(refine put_m_le ?_;simp only[new_m];omega)) only [res10,K10r0,K10r1,K10r2,K10r3,K10r4,K10r5,K10r6,K10r7,K10r8,K10r9,K10r10,K10r11,K10r12,K10r13,K10,K10l0,Abs.W,reduceIte,Nat.reduceEqDiff,Nat.reduceAdd,decide_true,decide_false,kLoop_def,Nat.reduceSub,List.cons_append,List.nil_append,List.append_nil,List.length_cons,List.length_nil,Env.find_set,q1,q2,q5,q7,q26,q27,e0,thenT_same _ _ _ _ _ _ _ htn htm,he1,gb,d2',d4,d5,g0,f2,g1,f4,gapSpan_ok,i2,hrow,hov,ad,vok,okR]
       rfl,?_,?_,?_,?_,?_,?_,hF'⟩
      ·simp only [Env.find_set,q1,reduceIte,Nat.reduceEqDiff]
      ·simp only [Env.find_set,q2,reduceIte,Nat.reduceEqDiff]
      ·simp only [Env.find_set,q5,reduceIte,Nat.reduceEqDiff]
      ·simp only [Env.find_set,q7,reduceIte,Nat.reduceEqDiff]
      ·simp only [Env.find_set,q26,reduceIte,Nat.reduceEqDiff]
      ·simp only [Env.find_set,reduceIte,Nat.reduceEqDiff];rfl
     ·obtain rfl:i=b.days+1:=by omega
      have e1:decide (((b.days+1:Nat):Int)<((b.days+1:Nat):Int))=false:=by simp
      refine .inr ⟨.exit 0,L'.set 37 (.bool false),t',by simp,?_,rfl,?_,?_,hF⟩
      ·simp (disch:=first|omega|(with_unfolding_all exact rfl)|(simp only[new_n,put_n,new_m];omega)|(refine put_m_le ?_;simp only[new_m];omega)) only [res10,K10r0,K10r1,K10r2,K10r3,K10r4,K10r5,K10r6,K10r7,K10r8,K10r9,K10r10,K10r11,K10r12,K10r13,K10,K10l0,Abs.W,reduceIte,Nat.reduceEqDiff,Nat.reduceAdd,decide_true,decide_false,kLoop_def,Nat.reduceSub,List.cons_append,List.nil_append,List.append_nil,List.length_cons,List.length_nil,Env.find_set,q26,q27,e1]
      ·simp only [Env.find_set,q5,reduceIte,Nat.reduceEqDiff]
      ·simp only [Env.find_set,q7,reduceIte,Nat.reduceEqDiff])
   simp (disch:=first|omega|(with_unfolding_all exact rfl)|(simp only[new_n,put_n,new_m];omega)|(refine put_m_le ?_;simp only[new_m];omega)) only [res10,K10r0,K10r1,K10r2,K10r3,K10r4,K10r5,K10r6,K10r7,K10r8,K10r9,K10r10,K10r11,K10r12,K10r13,K10,Abs.W,reduceIte,Nat.reduceEqDiff,Nat.reduceAdd,decide_true,decide_false,kLoop_def,Nat.reduceSub,List.cons_append,List.nil_append,List.append_nil,List.length_cons,List.length_nil,Env.find_set,f7,leave_tt,okR]
   have tn:=hF.tn
   have tmm:=hF.m
   have tml:=hF.mle
   refine ⟨_,_,rfl,⟨fun c hc=>(hF.same c (by omega)).trans (wE.same c hc),by have:=wE.n;omega,by have:=wE.le;omega,?_,by omega⟩,⟨_,0,rfl,.inr ⟨rfl,T,hT,hF.done (by omega)⟩⟩,fun hp=>?_⟩
   ·have:=tmm (by omega);omega
   ·exact absurd hp (by simp [plain,plains]))
 exact ⟨v,ee,t,hr.symm.trans e,st,hq⟩
end Go.Proofs.Ytfekafjfidohdaa.walk
set_option maxRecDepth 10000
namespace Go.Proofs.Ytfekafjfidohdaa.walk
open Go.Abs Go.Proofs.Ytfekafjfidohdaa.code
theorem errAt_lt {b:Bench} {k d:Nat} (hk:k<b.ss.length) (hd:d≤b.days):errAt b k d<big b:=by
 show errAt b k d<givMany b+1
 unfold errAt givMany
 have:(k+1) * (b.days+1)≤b.ss.length * (b.days+1):=Nat.mul_le_mul_right _ (by omega)
 rw [Nat.succ_mul] at this
 omega
end Go.Proofs.Ytfekafjfidohdaa.walk
