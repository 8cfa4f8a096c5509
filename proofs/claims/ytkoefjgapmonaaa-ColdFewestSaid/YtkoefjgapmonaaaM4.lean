/- Hours that pass with scoops in the first one: the one who takes them. -/
import Derived.Test.YtkoefjgapmonaaaM3
import Derived.Test.YtkoefjgapmonaaaM2
import Derived.Test.YtkoefjgapmonaaaCodes
import Derived.Test.YtkoefjgapmonaaaWalkAll
set_option linter.unusedSimpArgs false
set_option linter.unusedVariables false
set_option maxHeartbeats 16000000
set_option linter.unusedVariables false
set_option maxRecDepth 10000
namespace Go.Proofs.Ytkoefjgapmonaaa.walk
open Go.Abs Go.Proofs.Ytkoefjgapmonaaa.code
def puts (g:Int):Nat→BoxNow→BoxNow
 | 0,x=>x
 | n+1,x=>puts g n (x.put g)
theorem puts_snoc (g:Int):∀ (n:Nat) (x:BoxNow),puts g (n+1) x=(puts g n x).put g
 | 0,_=>rfl
 | n+1,x=>by
  show puts g (n+1) (x.put g)=(puts g n (x.put g)).put g
  exact puts_snoc g n (x.put g)
theorem puts_like (g:Int):∀ (n:Nat) (x:BoxNow),(puts g n x).Like x∧(puts g n x).hour=x.hour
 | 0,_=>⟨⟨rfl,rfl,rfl,rfl,rfl,rfl,rfl⟩,rfl⟩
 | n+1,x=>by
  obtain ⟨⟨h1⟩,h2⟩:=puts_like g n (x.put g)
  exact ⟨⟨h1⟩,h2⟩
theorem puts_fits {g:Int} (hg:0≤g∧g≤1000000):∀ (n:Nat) {x:BoxNow},x.Fits→(puts g n x).Fits
 | 0,_,h=>h
 | n+1,_,h=>puts_fits hg n (h.put hg)
theorem puts_i0 (g:Int):∀ (n:Nat) (x:BoxNow),(puts g n x).i0=Scoops.putN x.room g n x.i0
 | 0,_=>rfl
 | n+1,x=>puts_i0 g n (x.put g)
def lstX (g:Int):Nat→Nat→BoxNow→List (Int × Int)→Option (BoxNow × List (Int × Int))
 | 0,_,x,fs=>some (x,fs)
 | k+1,n,x,fs=>if (puts g n (x.fill fs)).i0=0 then none else lstX g k 0 ((puts g n (x.fill fs)).melt.tick) (left x.hour fs)
theorem lstX_lst (g:Int):∀ (k n:Nat) (x:BoxNow) (fs:List (Int × Int)),(lstX g k n x fs).map (fun y=>(y.1.i0,y.2))=Scoops.lst x.room x.m1 g k n x.hour x.i0 fs
 | 0,_,_,_=>rfl
 | k+1,n,x,fs=>by
  obtain ⟨h1,_⟩:=fill_fill1 fs x
  obtain ⟨⟨q1,_,q3,_⟩,q8⟩:=x.fill_like fs
  obtain ⟨⟨p1,_,p3,_⟩,p8⟩:=puts_like g n (x.fill fs)
  have h2:=puts_i0 g n (x.fill fs)
  rw [q1,h1] at h2
  rw [Scoops.lst_succ]
  unfold lstX
  rw [h2]
  by_cases e:Scoops.putN x.room g n (fill1 x.room x.hour x.i0 fs)=0
  ·rw [if_pos e,if_pos e];rfl
  ·rw [if_neg e,if_neg e,lstX_lst g k 0 _ (left x.hour fs)]
   have e1:((puts g n (x.fill fs)).melt.tick).room=x.room:=p1.trans q1
   have e2:((puts g n (x.fill fs)).melt.tick).m1=x.m1:=p3.trans q3
   have e3:((puts g n (x.fill fs)).melt.tick).hour=x.hour+1:=by show (puts g n (x.fill fs)).hour+1=_;rw [p8,q8]
   have e4:((puts g n (x.fill fs)).melt.tick).i0=max 0 (Scoops.putN x.room g n (fill1 x.room x.hour x.i0 fs) - x.m1):=by
    show max 0 ((puts g n (x.fill fs)).i0 - (puts g n (x.fill fs)).m1)=_
    rw [h2,p3,q3]
   rw [e1,e2,e3,e4]
structure LBox (h:Heap) (u p:Nat) (n:Nat) (g visit:Int) (b:Bool):Prop where
 g0:h.get u=some (.cells [.ptr p 0] (tag 111))
 g1:h.get (u+1)=some (.cells [.int .i64 (n:Int)] (tag 3))
 g2:h.get (u+2)=some (.cells [.int .i64 g] (tag 3))
 g3:h.get (u+3)=some (.cells [.bool b] (tag 4))
 g4:h.get (u+4)=some (.cells [.int .i64 visit] (tag 3))
theorem LBox.grow {h h':Heap} {u p n:Nat} {g visit:Int} {b:Bool} (a:LBox h u p n g visit b) (hh:∀ c,u≤c→c<u+5→h'.get c=h.get c):LBox h' u p n g visit b :=
 ⟨(hh _ (by omega) (by omega)).trans a.g0,(hh _ (by omega) (by omega)).trans a.g1,(hh _ (by omega) (by omega)).trans a.g2,(hh _ (by omega) (by omega)).trans a.g3,(hh _ (by omega) (by omega)).trans a.g4⟩
noncomputable abbrev lastsO (L0:Env) (w:Nat):ALoop:=⟨.ready,none,55,L0,[18,19],(rangeAt Try.f55 0).1,(rangeAt Try.f55 0).2,w,Try.f55.ntmps,X 55⟩
theorem put_m_leF {s:St} {b k:Nat} {o:AObj} (h:k≤s.m) (hb:k≤b):k≤(s.put b o).m:=by
 show k≤minN s.m b
 rw [minN_eq]
 omega
theorem lasts_puts (N:Nat) (hN:1≤N) {cx:Ctx} {u p sz n:Nat} {g visit:Int} {x:BoxNow} {v:AV} {s:St} {L:Env} {r:R} (hr:loopN K55b0l0 rounds (call Try.prog X N) cx L [] s=r) (B:LBox s.h u p n g visit false) (gp:s.h.get p=some (.cells (x.cells v) sz)) (hx:x.Fits) (hg:0≤g∧g≤1000000) (hn:n≤10) (hv:scalars [v]=true) (hpu:p<u) (hus:u+5≤s.n) (hs:s.n+1000≤far)
  (f4:L.find 4=.ptr u 0) (f6:L.find 6=.ptr (u+1) 0) (f7:L.find 7=.ptr (u+2) 0) (f8:L.find 8=.ptr (u+3) 0) (q23:L.find 23=.int .i64 (n:Int)) (q24:L.find 24=.int .i64 0) :
  ∃ L1 s1,r=.done (.exit 2) L1 [] s1∧s1.h.get p=some (.cells ((puts g n x).cells v) sz)∧(∀ c,c≠p→s1.h.get c=s.h.get c)∧s1.n=s.n∧(∀ k,k≤p→k≤s.m→k≤s1.m)∧s1.m≤s.m∧L1.find 4=.ptr u 0∧L1.find 8=.ptr (u+3) 0:=by
 have hf:far=1000000000:=rfl
 obtain ⟨e,L1,s1,rfl,rfl,h1,h2,h3,h4,h5,h6,h7⟩:=loop_of hr (fun i L t=>t.h.get p=some (.cells ((puts g i x).cells v) sz)∧(∀ c,c≠p→t.h.get c=s.h.get c)∧t.n=s.n∧(∀ k,k≤p→k≤s.m→k≤t.m)∧t.m≤s.m∧L.find 4=.ptr u 0∧L.find 7=.ptr (u+2) 0∧L.find 8=.ptr (u+3) 0∧L.find 23=.int .i64 (n:Int)∧L.find 24=.int .i64 (i:Int))
  (fun e L t=>e=.exit 2∧t.h.get p=some (.cells ((puts g n x).cells v) sz)∧(∀ c,c≠p→t.h.get c=s.h.get c)∧t.n=s.n∧(∀ k,k≤p→k≤s.m→k≤t.m)∧t.m≤s.m∧L.find 4=.ptr u 0∧L.find 8=.ptr (u+3) 0) n (by unfold rounds;omega)
  ⟨gp,fun _ _=>rfl,rfl,fun _ _ h=>h,Nat.le_refl _,f4,f7,f8,q23,q24⟩
  (fun i L t hi ⟨tp,ts,tn,tm,tl,q4,q7,q8,q23,q24⟩=>by
   by_cases hlt:i<n
   ·have e0:decide ((i:Int)<(n:Int))=true:=decide_eq_true (by omega)
    have ad1:∀ st,aAdd st .i64 (i:Int) 1=.val (.int .i64 ((i+1:Nat):Int)) st:=fun st=>aAdd_i64 st _ _ (by omega)
    have hxf:=puts_fits hg i hx
    have g0:=(ts u (by omega)).trans B.g0
    have g2:=(ts (u+2) (by omega)).trans B.g2
    rw [puts_snoc]
    generalize puts g i x=y at *
    have hput:=put_ok N hN y.room y.a1 y.a2 y.m0 y.m1 y.a5 y.a6 y.a7 y.a8 y.hour y.i0 y.i1 g v hv p sz t (by omega) tp hxf.i0 hxf.i1 hg (by omega)
    refine .inl ⟨hlt,_,_,by
     simp (disch:=first|omega|(with_unfolding_all exact rfl)|(simp only[new_n,put_n,new_m];omega)|(refine put_m_le ?_;simp only[new_m];omega)) only [K55b0l0,K55b0r2,K55b0r3,K55b0r4,Abs.W,reduceIte,Nat.reduceEqDiff,Nat.reduceAdd,decide_true,decide_false,kLoop_def,Nat.reduceSub,List.cons_append,List.nil_append,List.append_nil,List.length_cons,List.length_nil,Env.find_set,q4,q7,q23,q24,e0,g0,g2,hput,ad1,Nat.zero_add]
     rfl,?_,fun c hc=>?_,by simp only [put_n];exact tn,fun k hk hk2=>put_m_leF (put_m_leF (tm k hk hk2) hk) hk,?_,?_,?_,?_,?_,?_⟩
    ·exact get_put_eq _ _ _ _ rfl (by omega)
    ·rw [get_put_ne' _ _ _ _ hc,get_put_ne' _ _ _ _ hc];exact ts c hc
    ·simp only [St.put,minN_eq];omega
    ·simp only [Env.find_set,q4,reduceIte,Nat.reduceEqDiff]
    ·simp only [Env.find_set,q7,reduceIte,Nat.reduceEqDiff]
    ·simp only [Env.find_set,q8,reduceIte,Nat.reduceEqDiff]
    ·simp only [Env.find_set,q23,reduceIte,Nat.reduceEqDiff]
    ·simp only [Env.find_set,reduceIte,Nat.reduceEqDiff]
   ·have e0:decide ((i:Int)<(n:Int))=false:=decide_eq_false (by omega)
    obtain rfl:i=n:=by omega
    refine .inr ⟨.exit 2,_,t,by simp,by
     simp (disch:=first|omega|(with_unfolding_all exact rfl)|(simp only[new_n,put_n,new_m];omega)|(refine put_m_le ?_;simp only[new_m];omega)) only [K55b0l0,K55b0r2,Abs.W,reduceIte,Nat.reduceEqDiff,Nat.reduceAdd,decide_true,decide_false,kLoop_def,Nat.reduceSub,List.cons_append,List.nil_append,List.append_nil,List.length_cons,List.length_nil,Env.find_set,q23,q24,e0,Nat.zero_add]
     rfl,rfl,tp,ts,tn,tm,tl,?_,?_⟩
    ·simp only [Env.find_set,q4,reduceIte,Nat.reduceEqDiff]
    ·simp only [Env.find_set,q8,reduceIte,Nat.reduceEqDiff])
 exact ⟨L1,s1,rfl,h1,h2,h3,h4,h5,h6,h7⟩
def scooped (g:Int) (n:Nat) (visit:Int) (x:BoxNow):BoxNow:=if x.hour=visit then puts g n x else x
theorem lasts_body (N:Nat) (hN:1≤N) {l u p sz n:Nat} {g visit:Int} {x:BoxNow} {v:AV} {s:St} {L:Env} (B:LBox s.h u p n g visit false) (gp:s.h.get p=some (.cells (x.cells v) sz)) (hx:x.Fits) (hg:0≤g∧g≤1000000) (hn:n≤10) (hv:scalars [v]=true) (hpu:p<u) (hus:u+5≤s.n) (hs:s.n+1000≤far)
  (f4:L.find 4=.ptr u 0) (f6:L.find 6=.ptr (u+1) 0) (f7:L.find 7=.ptr (u+2) 0) (f8:L.find 8=.ptr (u+3) 0) (f9:L.find 9=.ptr (u+4) 0) (f10:L.find 10=.int .i64 x.hour) :
  ∃ e L1 s1,K55b0 (call Try.prog X N) ⟨55,some l,Try.f55.ntmps,X 55⟩ L [] s=.done e L1 [] s1∧s1.h.get p=some (.cells ((scooped g n visit x).cells v) sz)∧(∀ c,c≠p→c≠u+3→s1.h.get c=s.h.get c)∧s1.n=s.n∧(∀ k,k≤p→k≤s.m→k≤s1.m)∧s1.m≤s.m∧s1.h.get (u+3)=some (.cells [.bool false] (tag 4))∧((e=.norm∧(scooped g n visit x).i0≠0)∨(e=.ret∧(scooped g n visit x).i0=0)):=by
 have hf:far=1000000000:=rfl
 have g4:=B.g4
 have g1:=B.g1
 have g0:=B.g0
 have g3:=B.g3
 have cob:cellsOf 1 (.bool false)=some [.bool false]:=rfl
 by_cases hv0:x.hour=visit
 ·have e1:decide (x.hour=visit)=true:=decide_eq_true hv0
  have hsc:scooped g n visit x=puts g n x:=if_pos hv0
  rw [hsc]
  simp (disch:=first|omega|(with_unfolding_all exact rfl)|(simp only[new_n,put_n,new_m];omega)|(refine put_m_le ?_;simp only[new_m];omega)) only [K55b0,K55b0r0,K55b0r1,Abs.W,reduceIte,Nat.reduceEqDiff,Nat.reduceAdd,decide_true,decide_false,kLoop_def,Nat.reduceSub,List.cons_append,List.nil_append,List.append_nil,List.length_cons,List.length_nil,Env.find_set,f4,f6,f7,f8,f9,f10,g1,g4,e1,Nat.zero_add]
  generalize hlp:loopN _ rounds _ _ _ _ _=rl
  obtain ⟨L2,t,rfl,tp,ts,tn,tm,tl,l4,l8⟩:=lasts_puts N hN hlp B gp hx hg hn hv hpu hus hs (by simp only [Env.find_set,f4,reduceIte,Nat.reduceEqDiff]) (by simp only [Env.find_set,f6,reduceIte,Nat.reduceEqDiff]) (by simp only [Env.find_set,f7,reduceIte,Nat.reduceEqDiff]) (by simp only [Env.find_set,f8,reduceIte,Nat.reduceEqDiff]) (by simp only [Env.find_set,reduceIte,Nat.reduceEqDiff]) (by simp only [Env.find_set,reduceIte,Nat.reduceEqDiff])
  have t0:=(ts u (by omega)).trans g0
  have t3:=(ts (u+3) (by omega)).trans g3
  generalize puts g n x=y at *
  have tp':=tp
  unfold BoxNow.cells at tp'
  by_cases h0:y.i0=0
  ·have e2:decide (y.i0=0)=true:=decide_eq_true h0
   simp (disch:=first|omega|(with_unfolding_all exact rfl)|(simp only[new_n,put_n,new_m];omega)|(refine put_m_le ?_;simp only[new_m];omega)) only [K55b0r5,K55b0r6,Abs.W,reduceIte,Nat.reduceEqDiff,Nat.reduceAdd,decide_true,decide_false,kLoop_def,Nat.reduceSub,List.cons_append,List.nil_append,List.append_nil,List.length_cons,List.length_nil,Env.find_set,l4,l8,t0,t3,tp',ixa2_0,e2,cob,Nat.zero_add]
   refine ⟨_,_,_,rfl,by rw [get_put_ne' _ _ _ _ (by omega)];exact tp,fun c hc hc2=>by rw [get_put_ne' _ _ _ _ hc2];exact ts c hc,by rw [put_n];exact tn,fun k hk hk2=>put_m_leF (tm k hk hk2) (by omega),?_,get_put_eq _ _ _ _ rfl (by omega),.inr ⟨rfl,h0⟩⟩
   simp only [St.put,minN_eq];omega
  ·have e2:decide (y.i0=0)=false:=decide_eq_false h0
   simp (disch:=first|omega|(with_unfolding_all exact rfl)|(simp only[new_n,put_n,new_m];omega)|(refine put_m_le ?_;simp only[new_m];omega)) only [K55b0r5,Abs.W,reduceIte,Nat.reduceEqDiff,Nat.reduceAdd,decide_true,decide_false,kLoop_def,Nat.reduceSub,List.cons_append,List.nil_append,List.append_nil,List.length_cons,List.length_nil,Env.find_set,l4,l8,t0,t3,tp',ixa2_0,e2,Nat.zero_add]
   exact ⟨_,_,_,rfl,tp,fun c hc _=>ts c hc,tn,tm,tl,t3,.inl ⟨rfl,h0⟩⟩
 ·have e1:decide (x.hour=visit)=false:=decide_eq_false hv0
  have hsc:scooped g n visit x=x:=if_neg hv0
  rw [hsc]
  have gp':=gp
  unfold BoxNow.cells at gp'
  by_cases h0:x.i0=0
  ·have e2:decide (x.i0=0)=true:=decide_eq_true h0
   simp (disch:=first|omega|(with_unfolding_all exact rfl)|(simp only[new_n,put_n,new_m];omega)|(refine put_m_le ?_;simp only[new_m];omega)) only [K55b0,K55b0r0,K55b0r5,K55b0r6,Abs.W,reduceIte,Nat.reduceEqDiff,Nat.reduceAdd,decide_true,decide_false,kLoop_def,Nat.reduceSub,List.cons_append,List.nil_append,List.append_nil,List.length_cons,List.length_nil,Env.find_set,f4,f8,f9,f10,g0,g3,g4,gp',ixa2_0,e1,e2,cob,Nat.zero_add]
   refine ⟨_,_,_,rfl,by rw [get_put_ne' _ _ _ _ (by omega)];exact gp,fun c hc hc2=>by rw [get_put_ne' _ _ _ _ hc2],rfl,fun k hk hk2=>put_m_leF hk2 (by omega),?_,get_put_eq _ _ _ _ rfl (by omega),.inr ⟨rfl,h0⟩⟩
   simp only [St.put,minN_eq];omega
  ·have e2:decide (x.i0=0)=false:=decide_eq_false h0
   simp (disch:=first|omega|(with_unfolding_all exact rfl)|(simp only[new_n,put_n,new_m];omega)|(refine put_m_le ?_;simp only[new_m];omega)) only [K55b0,K55b0r0,K55b0r5,Abs.W,reduceIte,Nat.reduceEqDiff,Nat.reduceAdd,decide_true,decide_false,kLoop_def,Nat.reduceSub,List.cons_append,List.nil_append,List.append_nil,List.length_cons,List.length_nil,Env.find_set,f4,f8,f9,f10,g0,g3,g4,gp',ixa2_0,e1,e2,Nat.zero_add]
   exact ⟨_,_,_,rfl,gp,fun c _ _=>rfl,rfl,fun _ _ h=>h,Nat.le_refl _,g3,.inl ⟨rfl,h0⟩⟩
theorem lasts_take (N:Nat) (hN:1≤N) {l u p sz n w:Nat} {g visit:Int} {x:BoxNow} {v:AV} {s:St} {L0:Env} (hl0:s.h.get l=some (.loop (lastsO L0 w))) (B:LBox s.h u p n g visit false) (gp:s.h.get p=some (.cells (x.cells v) sz)) (hx:x.Fits) (hg:0≤g∧g≤1000000) (hn:n≤10) (hv:scalars [v]=true) (hpu:p<u) (hul:u+5≤l) (hln:l<s.n) (hs:s.n+1000≤far)
  (f4:L0.find 4=.ptr u 0) (f6:L0.find 6=.ptr (u+1) 0) (f7:L0.find 7=.ptr (u+2) 0) (f8:L0.find 8=.ptr (u+3) 0) (f9:L0.find 9=.ptr (u+4) 0) :
  ∃ b s1,call Try.prog X (N+1) (.yield l) [.int .i64 x.hour,.agg [.int .i64 x.i0,.int .i64 x.i1]] s=.val (.bool b) s1∧s1.h.get p=some (.cells ((scooped g n visit x).cells v) sz)∧(∀ c,c≠p→c≠u+3→c≠l→s1.h.get c=s.h.get c)∧s1.n=s.n∧(∀ k,k≤p→k≤s.m→k≤s1.m)∧s1.m≤s.m∧s1.m≤l∧s1.h.get (u+3)=some (.cells [.bool false] (tag 4))∧((b=true∧(scooped g n visit x).i0≠0∧s1.h.get l=some (.loop (lastsO L0 w)))∨(b=false∧(scooped g n visit x).i0=0∧s1.h.get l=some (.loop { lastsO L0 w with state:=.done,pending:=jumpOf .ret }))):=by
 have hf:far=1000000000:=rfl
 obtain ⟨R,hR⟩:∃ R,R=lastsO L0 w:=⟨_,rfl⟩
 rw [← hR] at hl0 ⊢
 obtain ⟨L1,hL1⟩:∃ L1,L1=((L0.set 18 (.int .i64 x.hour)).set 19 (.agg [.int .i64 x.i0,.int .i64 x.i1])).set 10 (.int .i64 x.hour):=⟨_,rfl⟩
 have h1a:K55a0 (call Try.prog X N) ⟨55,some l,Try.f55.ntmps,X 55⟩ (setParams L0 [18,19] [.int .i64 x.hour,.agg [.int .i64 x.i0,.int .i64 x.i1]]) [] s=.done .norm L1 [] s:=by
  rw [hL1]
  simp (disch:=first|omega|(with_unfolding_all exact rfl)|(simp only[new_n,put_n,new_m];omega)|(refine put_m_le ?_;simp only[new_m];omega)) only [K55a0,K55a0r0,Abs.W,reduceIte,Nat.reduceEqDiff,Nat.reduceAdd,decide_true,decide_false,kLoop_def,Nat.reduceSub,List.cons_append,List.nil_append,List.append_nil,List.length_cons,List.length_nil,setParams2,Env.find_set,Nat.reduceEqDiff]
 obtain ⟨s2,hs2⟩:∃ s2:St,s2=s.put l (.loop { R with state:=.busy }):=⟨_,rfl⟩
 have s2n:s2.n=s.n:=by rw [hs2];rfl
 have s2g:∀ c,c≠l→s2.h.get c=s.h.get c:=fun c hc=>by rw [hs2,get_put_ne' _ _ _ _ hc]
 have s2l:s2.h.get l=some (.loop { R with state:=.busy }):=by rw [hs2];exact get_put_eq _ _ _ _ rfl (by omega)
 have s2m:s2.m=min s.m l:=by rw [hs2];simp only [St.put,minN_eq]
 obtain ⟨e,L2,s3,b1,b2,b3,b4,b5,b6,b7,b8⟩:=lasts_body N hN (l:=l) (L:=L1) (B.grow fun c h1 h2=>s2g c (by omega)) ((s2g p (by omega)).trans gp) hx hg hn hv hpu (by omega) (by omega) (by rw [hL1];simp only [Env.find_set,f4,reduceIte,Nat.reduceEqDiff]) (by rw [hL1];simp only [Env.find_set,f6,reduceIte,Nat.reduceEqDiff]) (by rw [hL1];simp only [Env.find_set,f7,reduceIte,Nat.reduceEqDiff]) (by rw [hL1];simp only [Env.find_set,f8,reduceIte,Nat.reduceEqDiff]) (by rw [hL1];simp only [Env.find_set,f9,reduceIte,Nat.reduceEqDiff]) (by rw [hL1];simp only [Env.find_set,reduceIte,Nat.reduceEqDiff])
 have s3l:s3.h.get l=some (.loop { R with state:=.busy }):=(b3 l (by omega) (by omega)).trans s2l
 have hfin:=call_round (P:=Try.prog) (X:=X) (n:=N) (l:=l) (args:=[.int .i64 x.hour,.agg [.int .i64 x.i0,.int .i64 x.i1]]) (r:=R) (r1:=R) (r2:={ R with state:=.busy }) (s:=s) (s1:=s) (s2:=s3) (e:=e) hl0 (by rw [hR];rfl) (by rw [hR];exact code55a0) (by rw [hR];exact code55b0) (by rw [hR];exact h1a) hl0 (by rw [hR]) (by rw [hR];rw [hs2,hR] at b1;exact b1) s3l
 have fin:∀ o b,call Try.prog X (N+1) (.yield l) [.int .i64 x.hour,.agg [.int .i64 x.i0,.int .i64 x.i1]] s=.val (.bool b) (s3.put l o)→(b=true∧(scooped g n visit x).i0≠0∧o=.loop R)∨(b=false∧(scooped g n visit x).i0=0∧o=.loop { R with state:=.done,pending:=jumpOf .ret })→∃ b s1,call Try.prog X (N+1) (.yield l) [.int .i64 x.hour,.agg [.int .i64 x.i0,.int .i64 x.i1]] s=.val (.bool b) s1∧s1.h.get p=some (.cells ((scooped g n visit x).cells v) sz)∧(∀ c,c≠p→c≠u+3→c≠l→s1.h.get c=s.h.get c)∧s1.n=s.n∧(∀ k,k≤p→k≤s.m→k≤s1.m)∧s1.m≤s.m∧s1.m≤l∧s1.h.get (u+3)=some (.cells [.bool false] (tag 4))∧((b=true∧(scooped g n visit x).i0≠0∧s1.h.get l=some (.loop R))∨(b=false∧(scooped g n visit x).i0=0∧s1.h.get l=some (.loop { R with state:=.done,pending:=jumpOf .ret }))):=by
  intro o b hc hb
  have hlo:(s3.put l o).h.get l=some o:=get_put_eq _ _ _ _ rfl (by omega)
  refine ⟨b,_,hc,by rw [get_put_ne' _ _ _ _ (by omega)];exact b2,fun c h1 h2 h3=>by rw [get_put_ne' _ _ _ _ h3,b3 c h1 h2,s2g c h3],by rw [put_n];omega,fun k hk hk2=>put_m_leF (b5 k hk (by omega)) (by omega),by simp only [St.put,minN_eq];omega,by simp only [St.put,minN_eq];omega,by rw [get_put_ne' _ _ _ _ (by omega)];exact b7,?_⟩
  rcases hb with ⟨h1,h2,h3⟩ | ⟨h1,h2,h3⟩
  ·exact .inl ⟨h1,h2,by rw [hlo,h3]⟩
  ·exact .inr ⟨h1,h2,by rw [hlo,h3]⟩
 rcases b8 with ⟨rfl,h0⟩ | ⟨rfl,h0⟩
 ·exact fin _ _ hfin (.inl ⟨rfl,h0,by rw [hR];rfl⟩)
 ·exact fin _ _ hfin (.inr ⟨rfl,h0,rfl⟩)
end Go.Proofs.Ytkoefjgapmonaaa.walk
set_option maxRecDepth 10000
namespace Go.Proofs.Ytkoefjgapmonaaa.walk
open Go.Abs Go.Proofs.Ytkoefjgapmonaaa.code
theorem Rests.move {h:Heap} {z p p':Nat} {v:AV} {fs:List (Int × Int)} (r:Rests h z p v fs) (hp:z≤p'):Rests h z p' v fs:=by
 induction r with
 | nil v h1 h2 h3=>exact .nil v h1 h2 h3
 | cons v v' len hour g fs h1 h2 _ ih =>
  obtain ⟨dl,dp,dk,ds,dc,ds',dr,b,o,c,sz2,hbp,hix,hgb,h3,h4⟩:=h1
  exact .cons v v' len hour g fs ⟨dl,dp,dk,ds,dc,ds',dr,b,o,c,sz2,⟨by omega,hbp.2⟩,hix,hgb,h3,h4⟩ h2 ih
theorem scooped_like (g:Int) (n:Nat) (visit:Int) (x:BoxNow):(scooped g n visit x).Like x∧(scooped g n visit x).hour=x.hour:=by
 unfold scooped
 split
 ·exact puts_like g n x
 ·exact ⟨⟨rfl,rfl,rfl,rfl,rfl,rfl,rfl⟩,rfl⟩
theorem scooped_fits {g:Int} (hg:0≤g∧g≤1000000) (n:Nat) (visit:Int) {x:BoxNow} (h:x.Fits):(scooped g n visit x).Fits:=by
 unfold scooped
 split
 ·exact puts_fits hg n h
 ·exact h
theorem hoursL_round (N:Nat) (hN:2≤N) (cx:Ctx) {l u p sz n w z a b sa sb:Nat} {g visit top:Int} {x:BoxNow} {v:AV} {s:St} {L L0:Env} {fs:List (Int × Int)} (hl0:s.h.get l=some (.loop (lastsO L0 w))) (B:LBox s.h u p n g visit false) (gp:s.h.get p=some (.cells (x.cells v) sz)) (hR:Rests s.h z p v fs) (hx:x.Fits) (hm:0≤x.m0∧x.m0≤1000000∧0≤x.m1∧x.m1≤1000000) (hg:0≤g∧g≤1000000) (hn:n≤10) (hk:fs.length≤1000) (hzp:z≤p) (hpu:p<u) (ha:u+5≤a∧a<l) (hb:u+5≤b∧b<l) (hln:l<s.n) (hs:s.n+10000≤far) (hlt:x.hour<top) (h0x:0≤x.hour) (hu:top≤1000)
  (ga:s.h.get a=some (.cells [.ptr p 0] sa)) (gb:s.h.get b=some (.cells [.int .i64 top] sb))
  (f4:L0.find 4=.ptr u 0) (f6:L0.find 6=.ptr (u+1) 0) (f7:L0.find 7=.ptr (u+2) 0) (f8:L0.find 8=.ptr (u+3) 0) (f9:L0.find 9=.ptr (u+4) 0) (h0:L.find 0=.yield l) (h1:L.find 1=.ptr a 0) (h2:L.find 2=.ptr b 0) :
  ∃ e L1 s1,K57l0 (call Try.prog X N) cx L [] s=.done e L1 [] s1∧(∀ c,c≠p→c≠u+3→c≠l→s1.h.get c=s.h.get c)∧s1.n=s.n∧(∀ k,k≤p→k≤s.m→k≤s1.m)∧s1.m≤s.m∧s1.h.get (u+3)=some (.cells [.bool false] (tag 4)) ∧
   ((e=.norm∧(scooped g n visit (x.fill fs)).i0≠0∧s1.m≤p∧L1.find 0=.yield l∧L1.find 1=.ptr a 0∧L1.find 2=.ptr b 0∧s1.h.get l=some (.loop (lastsO L0 w))∧∃ v1,s1.h.get p=some (.cells (((scooped g n visit (x.fill fs)).melt.tick).cells v1) sz)∧Rests s1.h z p v1 (left x.hour fs))
    ∨ (e=.ret∧(scooped g n visit (x.fill fs)).i0=0∧s1.m≤l∧s1.h.get l=some (.loop { lastsO L0 w with state:=.done,pending:=jumpOf .ret }))):=by
 have hf:far=1000000000:=rfl
 have e0:decide (x.hour<top)=true:=by simpa using hlt
 obtain ⟨s1,v1,e1,g1,r1,t1⟩:=fill_ok N hN x fs v p sz s hk (by omega) (by omega) gp hR hx
 obtain ⟨⟨q1,q2,q3,q4,q5,q6,q7⟩,q8⟩:=x.fill_like fs
 have hx1:=BoxNow.fill_fits hx fs hR.grams
 obtain ⟨t1a,t1n,t1m⟩:=t1
 have t1l:s1.m≤s.m:=by rcases t1m with ⟨_,h'⟩ | h'<;>omega
 have t1k:∀ k,k≤p→k≤s.m→k≤s1.m:=fun k hk1 hk2=>by rcases t1m with ⟨_,h'⟩ | h'<;>omega
 generalize hx1e:x.fill fs=x1 at *
 obtain ⟨M,rfl⟩:∃ M,N=M+1:=⟨N - 1,by omega⟩
 have sc1:=r1.sc
 obtain ⟨bb,s2,e2,g2,o2,n2,k2,m2,ml2,u3,fin⟩:=lasts_take M (by omega) (w:=w) (visit:=visit) (n:=n) ((t1a l (by omega)).trans hl0) (B.grow fun c hc1 hc2=>t1a c (by omega)) g1 hx1 hg hn sc1 hpu (by omega) (by omega) (by omega) f4 f6 f7 f8 f9
 obtain ⟨⟨y1,y2,y3,_⟩,y8⟩:=scooped_like g n visit x1
 have hy1:=scooped_fits hg n visit hx1
 generalize hye:scooped g n visit x1=y at *
 have ga1:s1.h.get a=some (.cells [.ptr p 0] sa):=by rw [t1a a (by omega)];exact ga
 have gb1:s1.h.get b=some (.cells [.int .i64 top] sb):=by rw [t1a b (by omega)];exact gb
 have ga2:s2.h.get a=some (.cells [.ptr p 0] sa):=by rw [o2 a (by omega) (by omega) (by omega)];exact ga1
 have hm1:0≤y.m0∧y.m0≤1000000∧0≤y.m1∧y.m1≤1000000:=by rw [y2,y3,q2,q3];exact hm
 have e3:=melt_ok (M+1) (by omega) y.room y.a1 y.a2 y.m0 y.m1 y.a5 y.a6 y.a7 y.a8 y.hour y.i0 y.i1 v1 sc1 p sz s2 (by omega) g2 hy1.i0 hy1.i1 ⟨hm1.1,hm1.2.1⟩ ⟨hm1.2.2.1,hm1.2.2.2⟩ (by omega)
 have a1:∀ s,aAdd s .i64 y.hour 1=.val (.int .i64 (y.hour+1)) s:=fun s=>aAdd_i64 s _ _ (by omega)
 have gp':=gp
 have g1':=g1
 unfold BoxNow.cells at gp' g1'
 have ga3:∀ o1 o2,((s2.put p o1).put p o2).h.get a=some (.cells [.ptr p 0] sa):=fun o1 o2=>by rw [get_put_ne' _ _ _ _ (by omega),get_put_ne' _ _ _ _ (by omega)];exact ga2
 rcases fin with ⟨rfl,z1,z2⟩ | ⟨rfl,z1,z2⟩
 ·simp (disch:=first|omega|(with_unfolding_all exact rfl)|(simp only[new_n,put_n,new_m];omega)|(refine put_m_le ?_;simp only[new_m];omega)) only [res57,K57r0,K57r1,K57r2,K57r3,K57r4,K57l0,K57,Abs.W,reduceIte,Nat.reduceEqDiff,Nat.reduceAdd,decide_true,decide_false,kLoop_def,Nat.reduceSub,List.cons_append,List.nil_append,List.append_nil,List.length_cons,List.length_nil,Env.find_set,h0,h1,h2,ga,gb,gp',e0,e1,ga1,gb1,g1',e2,ga2,e3,ga3,a1,Nat.zero_add,endO_nil,regD_ok]
  refine ⟨_,_,_,rfl,fun c hcp hcu hcl=>?_,?_,fun k hk1 hk2=>?_,?_,?_,.inl ⟨rfl,z1,?_,by simp only [Env.find_set,h0,reduceIte,Nat.reduceEqDiff],by simp only [Env.find_set,h1,reduceIte,Nat.reduceEqDiff],by simp only [Env.find_set,h2,reduceIte,Nat.reduceEqDiff],?_,v1,?_,?_⟩⟩
  ·rw [get_put_ne' _ _ _ _ hcp,get_put_ne' _ _ _ _ hcp,get_put_ne' _ _ _ _ hcp,o2 c hcp hcu hcl]
   exact t1a c hcp
  ·simp only [put_n];omega
  ·exact put_m_leF (put_m_leF (put_m_leF (k2 k hk1 (t1k k hk1 hk2)) hk1) hk1) hk1
  ·simp only [St.put,minN_eq];omega
  ·rw [get_put_ne' _ _ _ _ (by omega),get_put_ne' _ _ _ _ (by omega),get_put_ne' _ _ _ _ (by omega)];exact u3
  ·simp only [St.put,minN_eq];omega
  ·rw [get_put_ne' _ _ _ _ (by omega),get_put_ne' _ _ _ _ (by omega),get_put_ne' _ _ _ _ (by omega)];exact z2
  ·rw [get_put_eq _ _ _ _ rfl (by omega)]
   unfold BoxNow.tick BoxNow.melt BoxNow.cells
   rfl
  ·refine r1.grow fun c hc hz=>?_
   rw [get_put_ne' _ _ _ _ hc,get_put_ne' _ _ _ _ hc,get_put_ne' _ _ _ _ hc]
   exact o2 c (by omega) (by omega) (by omega)
 ·simp (disch:=first|omega|(with_unfolding_all exact rfl)|(simp only[new_n,put_n,new_m];omega)|(refine put_m_le ?_;simp only[new_m];omega)) only [res57,K57r0,K57r1,K57r2,K57r3,K57r4,K57l0,K57,Abs.W,reduceIte,Nat.reduceEqDiff,Nat.reduceAdd,decide_true,decide_false,kLoop_def,Nat.reduceSub,List.cons_append,List.nil_append,List.append_nil,List.length_cons,List.length_nil,Env.find_set,h0,h1,h2,ga,gb,gp',e0,e1,ga1,gb1,g1',e2,ga2,Nat.zero_add,endO_nil,regD_ok]
  exact ⟨_,_,_,rfl,fun c hcp hcu hcl=>(o2 c hcp hcu hcl).trans (t1a c hcp),by omega,fun k hk1 hk2=>k2 k hk1 (t1k k hk1 hk2),by omega,u3,.inr ⟨rfl,z1,ml2,z2⟩⟩
theorem lstX_succ (g:Int) (k n:Nat) (x:BoxNow) (fs:List (Int × Int)):lstX g (k+1) n x fs=if (puts g n (x.fill fs)).i0=0 then none else lstX g k 0 ((puts g n (x.fill fs)).melt.tick) (left x.hour fs):=rfl
theorem scooped_at (g:Int) (n i:Nat) {visit:Int} {x:BoxNow} (h:x.hour=visit+i):scooped g n visit x=puts g (if i=0 then n else 0) x:=by
 unfold scooped
 by_cases hi:i=0
 ·rw [if_pos (by omega),if_pos hi]
 ·rw [if_neg (by omega),if_neg hi];rfl
theorem hours1L_ex {N l u p sz n w z a b sa sb:Nat} {g top:Int} {x:BoxNow} {v:AV} {s:St} {r:ARes} {L0:Env} {fs:List (Int × Int)} (m:Nat)
  (hr:call Try.prog X N (.fn 57) [.yield l,.ptr a 0,.ptr b 0] s=r) (hN:3≤N) (hl0:s.h.get l=some (.loop (lastsO L0 w))) (B:LBox s.h u p n g x.hour false) (gp:s.h.get p=some (.cells (x.cells v) sz)) (hR:Rests s.h z p v fs) (hx:x.Fits) (hm:0≤x.m0∧x.m0≤1000000∧0≤x.m1∧x.m1≤1000000) (hg:0≤g∧g≤1000000) (hn:n≤10) (hk:fs.length≤1000) (hzp:z≤p) (hpu:p<u) (ha:u+5≤a∧a<l) (hb:u+5≤b∧b<l) (hln:l<s.n) (hs:s.n+10000≤far) (hm0:top=x.hour+m) (h0x:0≤x.hour) (hu:top≤1000)
  (ga:s.h.get a=some (.cells [.ptr p 0] sa)) (gb:s.h.get b=some (.cells [.int .i64 top] sb))
  (f4:L0.find 4=.ptr u 0) (f6:L0.find 6=.ptr (u+1) 0) (f7:L0.find 7=.ptr (u+2) 0) (f8:L0.find 8=.ptr (u+3) 0) (f9:L0.find 9=.ptr (u+4) 0) :
  ∃ t,r=.val (.tup []) t∧(∀ c,c≠p→c≠u+3→c≠l→t.h.get c=s.h.get c)∧t.n=s.n∧(∀ k,k≤p→k≤s.m→k≤t.m)∧t.m≤s.m∧t.h.get (u+3)=some (.cells [.bool false] (tag 4)) ∧
   ((∃ x' fs' v',lstX g m n x fs=some (x',fs')∧t.h.get p=some (.cells (x'.cells v') sz)∧Rests t.h z p v' fs'∧t.h.get l=some (.loop (lastsO L0 w))∧(t.m≤p∨t.h=s.h))
    ∨ (lstX g m n x fs=none∧t.h.get l=some (.loop { lastsO L0 w with state:=.done,pending:=jumpOf .ret }))):=by
 obtain ⟨M,rfl⟩:∃ M,N=M+1:=⟨N - 1,by omega⟩
 have hf:far=1000000000:=rfl
 obtain ⟨vv,t,mm,e,⟨rfl,q1,q2,q3,q4,q5⟩,hm'⟩:=call_any (n:=M) (args:=[.yield l,.ptr a 0,.ptr b 0]) (s:=s) (Q:=fun vv h k m'=>vv=.tup []∧(∀ c,c≠p→c≠u+3→c≠l→h.get c=s.h.get c)∧k=s.n∧(∀ k,k≤p→k≤m')∧h.get (u+3)=some (.cells [.bool false] (tag 4)) ∧
   ((∃ x' fs' v',lstX g m n x fs=some (x',fs')∧h.get p=some (.cells (x'.cells v') sz)∧Rests h z p v' fs'∧h.get l=some (.loop (lastsO L0 w))∧(m'≤p∨h=s.h))
    ∨ (lstX g m n x fs=none∧h.get l=some (.loop { lastsO L0 w with state:=.done,pending:=jumpOf .ret })∧m'≤l))) Try.func57 rfl (fun U uh un um=>by
  have B':LBox U.h u p n g x.hour false:=by rw [uh];exact B
  rw [← uh] at ga gb gp hR hl0
  rw [enter57]
  simp (disch:=first|omega|(with_unfolding_all exact rfl)|(simp only[new_n,put_n,new_m];omega)|(refine put_m_le ?_;simp only[new_m];omega)) only [res57,K57r0,K57r1,K57r2,K57r3,K57r4,K57,Abs.W,reduceIte,Nat.reduceEqDiff,Nat.reduceAdd,decide_true,decide_false,kLoop_def,Nat.reduceSub,List.cons_append,List.nil_append,List.append_nil,List.length_cons,List.length_nil]
  generalize hlp:loopN _ rounds _ _ _ _ _=r1
  obtain ⟨e,L1,s1,rfl,hee,j1,j2,j3,j4,j5⟩:=loop_of hlp
   (fun i L t=>∃ x' fs' v',L.find 0=.yield l∧L.find 1=.ptr a 0∧L.find 2=.ptr b 0∧t.h.get p=some (.cells (x'.cells v') sz)∧Rests t.h z p v' fs'∧t.h.get l=some (.loop (lastsO L0 w))∧t.h.get (u+3)=some (.cells [.bool false] (tag 4))∧lstX g (m - i) (if i=0 then n else 0) x' fs'=lstX g m n x fs∧x'.hour=x.hour+i∧x'.Fits∧(x'.m0=x.m0∧x'.m1=x.m1)∧fs'.length≤1000 ∧
    (∀ c,c≠p→c≠u+3→c≠l→t.h.get c=U.h.get c)∧t.n=U.n∧(∀ k,k≤p→k≤t.m)∧(t.m≤p∨t.h=U.h))
   (fun e L t=>(e=.exit 0∨e=.ret)∧(∀ c,c≠p→c≠u+3→c≠l→t.h.get c=U.h.get c)∧t.n=U.n∧(∀ k,k≤p→k≤t.m)∧t.h.get (u+3)=some (.cells [.bool false] (tag 4)) ∧
   ((∃ x' fs' v',lstX g m n x fs=some (x',fs')∧t.h.get p=some (.cells (x'.cells v') sz)∧Rests t.h z p v' fs'∧t.h.get l=some (.loop (lastsO L0 w))∧(t.m≤p∨t.h=U.h))
    ∨ (lstX g m n x fs=none∧t.h.get l=some (.loop { lastsO L0 w with state:=.done,pending:=jumpOf .ret })∧t.m≤l))) m (by unfold rounds;omega)
   ⟨x,fs,v,by simp only [find_cons,reduceIte,Nat.reduceEqDiff],by simp only [find_cons,reduceIte,Nat.reduceEqDiff],by simp only [find_cons,reduceIte,Nat.reduceEqDiff],gp,hR,hl0,B'.g3,rfl,by omega,hx,⟨rfl,rfl⟩,hk,fun _ _ _ _=>rfl,rfl,fun k hk=>by omega,.inr rfl⟩
   (fun i L t hi ⟨x',fs',v',p0,p1,p2,gq,R,tl,t3,eq,hh,xF,⟨xm0,xm1⟩,fl,fr,tn,tk,tm⟩=>by
    have ga':t.h.get a=some (.cells [.ptr p 0] sa):=by rw [fr a (by omega) (by omega) (by omega)];exact ga
    have gb':t.h.get b=some (.cells [.int .i64 top] sb):=by rw [fr b (by omega) (by omega) (by omega)];exact gb
    have Bt:LBox t.h u p n g x.hour false:=⟨(fr _ (by omega) (by omega) (by omega)).trans B'.g0,(fr _ (by omega) (by omega) (by omega)).trans B'.g1,(fr _ (by omega) (by omega) (by omega)).trans B'.g2,t3,(fr _ (by omega) (by omega) (by omega)).trans B'.g4⟩
    by_cases hlt:i<m
    ·obtain ⟨e,L1,s1,w1,w2,w3,w4,w5,w6,w7⟩:=hoursL_round M (by omega) ⟨57,none,Try.f57.ntmps,X 57⟩ (w:=w) tl Bt gq R xF (by rw [xm0,xm1];exact hm) hg hn fl hzp hpu ha hb (by omega) (by omega) (by omega) (by omega) hu ga' gb' f4 f6 f7 f8 f9 p0 p1 p2
     obtain ⟨⟨q1,q2,q3,_⟩,q8⟩:=x'.fill_like fs'
     have hsc:=scooped_at g n i (visit:=x.hour) (x:=x'.fill fs') (by omega)
     have hx1:=BoxNow.fill_fits xF fs' R.grams
     have hsf:=scooped_fits hg n x.hour hx1
     obtain ⟨⟨y1,y2,y3,_⟩,y8⟩:=scooped_like g n x.hour (x'.fill fs')
     rw [show m - i=(m - (i+1))+1 by omega] at eq
     rw [lstX_succ,← hsc] at eq
     rcases w7 with ⟨rfl,z1,z2,z3,z4,z5,z6,v1,z7,z8⟩ | ⟨rfl,z1,z2,z3⟩
     ·rw [if_neg z1] at eq
      refine .inl ⟨hlt,L1,s1,w1,_,_,v1,z3,z4,z5,z7,z8,z6,w6,by rw [if_neg (by omega)];exact eq,?_,?_,⟨?_,?_⟩,Nat.le_trans (left_len _ _) fl,fun c h1 h2 h3=>(w2 c h1 h2 h3).trans (fr c h1 h2 h3),by omega,fun k hk=>w4 k hk (tk k hk),.inl z2⟩
      ·show (scooped g n x.hour (x'.fill fs')).hour+1=x.hour+((i+1:Nat):Int)
       omega
      ·obtain ⟨⟨k1,k2⟩,⟨k3,k4⟩,⟨k5,k6⟩⟩:=hsf
       have hm1:0≤(scooped g n x.hour (x'.fill fs')).m0∧0≤(scooped g n x.hour (x'.fill fs')).m1:=by rw [y2,y3,q2,q3,xm0,xm1];omega
       refine ⟨⟨k1,k2⟩,?_,?_⟩
       ·show 0≤max 0 ((scooped g n x.hour (x'.fill fs')).i0 - (scooped g n x.hour (x'.fill fs')).m1)∧max 0 ((scooped g n x.hour (x'.fill fs')).i0 - (scooped g n x.hour (x'.fill fs')).m1)≤1000000
        omega
       ·show 0≤max 0 ((scooped g n x.hour (x'.fill fs')).i1 - (scooped g n x.hour (x'.fill fs')).m0)∧max 0 ((scooped g n x.hour (x'.fill fs')).i1 - (scooped g n x.hour (x'.fill fs')).m0)≤1000000
        omega
      ·exact y2.trans (q2.trans xm0)
      ·exact y3.trans (q3.trans xm1)
     ·rw [if_pos z1] at eq
      exact .inr ⟨.ret,L1,s1,by simp,w1,.inr rfl,fun c h1 h2 h3=>(w2 c h1 h2 h3).trans (fr c h1 h2 h3),by omega,fun k hk=>w4 k hk (tk k hk),w6,.inr ⟨eq.symm,z3,z2⟩⟩
    ·have him:i=m:=by omega
     subst him
     have e0:decide (x'.hour<top)=false:=decide_eq_false (by omega)
     rw [Nat.sub_self] at eq
     have gq':=gq
     unfold BoxNow.cells at gq'
     refine .inr ⟨.exit 0,L.set 9 (.bool false),t,by simp,?_,.inl rfl,fr,tn,tk,t3,.inl ⟨x',fs',v',eq.symm,gq,R,tl,tm⟩⟩
     simp (disch:=first|omega|(with_unfolding_all exact rfl)|(simp only[new_n,put_n,new_m];omega)|(refine put_m_le ?_;simp only[new_m];omega)) only [res57,K57r0,K57r1,K57r2,K57r3,K57r4,K57l0,K57,Abs.W,reduceIte,Nat.reduceEqDiff,Nat.reduceAdd,decide_true,decide_false,kLoop_def,Nat.reduceSub,List.cons_append,List.nil_append,List.append_nil,List.length_cons,List.length_nil,Env.find_set,p0,p1,p2,ga',gb',gq',e0,Nat.zero_add,endO_nil,regD_ok])
  have last:s.n≤s1.m→∃ x' fs' v',lstX g m n x fs=some (x',fs')∧s.h.get p=some (.cells (x'.cells v') sz)∧Rests s.h z p v' fs'∧s.h.get l=some (.loop (lastsO L0 w)):=fun hle=>by
   rcases j5 with ⟨x',fs',v',k1,k2,k3,k4,k5⟩ | ⟨k1,k2,k3⟩
   ·rcases k5 with k5 | k5
    ·omega
    ·rw [k5,uh] at k2 k3 k4
     exact ⟨x',fs',v',k1,k2,k3,k4⟩
   ·omega
  rw [uh] at j1 j5
  rcases hee with rfl | rfl
  ·simp (disch:=first|omega|(with_unfolding_all exact rfl)|(simp only[new_n,put_n,new_m];omega)|(refine put_m_le ?_;simp only[new_m];omega)) only [res57,K57r0,K57r1,K57r2,K57r3,K57r4,K57,Abs.W,reduceIte,Nat.reduceEqDiff,Nat.reduceAdd,decide_true,decide_false,kLoop_def,Nat.reduceSub,List.cons_append,List.nil_append,List.append_nil,List.length_cons,List.length_nil,leave_nil]
   exact ⟨_,_,rfl,⟨rfl,j1,by omega,j3,j4,j5⟩,fun _ hle=>⟨rfl,fun _ _ _ _=>trivial,trivial,j3,B.g3,by obtain ⟨x',fs',v',k1,k2,k3,k4⟩:=last hle;exact .inl ⟨x',fs',v',k1,k2,k3,k4,.inr trivial⟩⟩⟩
  ·simp (disch:=first|omega|(with_unfolding_all exact rfl)|(simp only[new_n,put_n,new_m];omega)|(refine put_m_le ?_;simp only[new_m];omega)) only [res57,K57r0,K57r1,K57r2,K57r3,K57r4,K57,Abs.W,reduceIte,Nat.reduceEqDiff,Nat.reduceAdd,decide_true,decide_false,kLoop_def,Nat.reduceSub,List.cons_append,List.nil_append,List.append_nil,List.length_cons,List.length_nil,leave_nil]
   exact ⟨_,_,rfl,⟨rfl,j1,by omega,j3,j4,j5⟩,fun _ hle=>⟨rfl,fun _ _ _ _=>trivial,trivial,j3,B.g3,by obtain ⟨x',fs',v',k1,k2,k3,k4⟩:=last hle;exact .inl ⟨x',fs',v',k1,k2,k3,k4,.inr trivial⟩⟩⟩)
 refine ⟨t,hr.symm.trans e,q1,q2,fun k hk hk2=>?_,?_,q4,?_⟩
 ·have:=q3 k hk
  rcases hm' with ⟨_,hm'⟩ | ⟨_,hm'⟩<;>omega
 ·rcases hm' with ⟨_,hm'⟩ | ⟨_,hm'⟩<;>omega
 ·rcases q5 with ⟨x',fs',v',k1,k2,k3,k4,k5⟩ | ⟨k1,k2,k3⟩
  ·refine .inl ⟨x',fs',v',k1,k2,k3,k4,?_⟩
   rcases k5 with k5 | k5
   ·left;rcases hm' with ⟨_,hm'⟩ | ⟨_,hm'⟩<;>omega
   ·exact .inr k5
  ·exact .inr ⟨k1,k2⟩
end Go.Proofs.Ytkoefjgapmonaaa.walk
set_option maxRecDepth 10000
namespace Go.Proofs.Ytkoefjgapmonaaa.walk
open Go.Abs Go.Proofs.Ytkoefjgapmonaaa.code
theorem range_to_ret {f:Arg} {ps:List Tmp} {a b:Code} {cl:CallF} {c:Ctx} {L:Env} {s s2:St} {v:AV} {r:ALoop} (hc:c.rnd=none)
  (h:callV cl [.yield (s.n+1)] ((s.new .dfr).new (.loop ⟨.ready,none,c.fn,L,ps,a,b,s.n,c.nt,c.xs⟩)) (f.ev L)=.val v s2) (hr:s2.h.get (s.n+1)=some (.loop r)) (hb:r.state=.done) (hp:r.pending=some .ret) :
  kRange f ps a b cl c L [] s=.done .ret L [s.n] (s2.put (s.n+1) (.loop { r with state:=.exhausted })):=by
 rw [range_eq hc h hr (by rw [hb];simp),hp]
 rfl
theorem leave_cell1 {P:Program} (a:Nat) (t:TypeId) (L:Env) (s:St) {sh:Option Nat} (hs:shapeT P t=some sh) {v:AV} (h:okA (loadA sh s (L.find a))=.val v s):leaveA P [.cell a t] L [] s=.val v s:=by
 unfold leaveA
 simp only [takeDfs,resultsA,hs,h]
 rfl
theorem lasts_ex {N p sz n z:Nat} {g next:Int} {x:BoxNow} {v:AV} {s:St} {r:ARes} {fs:List (Int × Int)} (m:Nat) (hr:call Try.prog X N (.fn 55) [.ptr p 0,.int .i64 next,.int .i64 (n:Int),.int .i64 g] s=r) (hN:5≤N) (gp:s.h.get p=some (.cells (x.cells v) sz)) (hR:Rests s.h z p v fs) (hx:x.Fits) (hm:0≤x.m0∧x.m0≤1000000∧0≤x.m1∧x.m1≤1000000) (hg:0≤g∧g≤1000000) (hn:n≤10) (hk:fs.length≤1000) (hzp:z≤p) (hps:p<s.n) (hs:s.n+20000≤far) (hm0:next=x.hour+m) (h0x:0≤x.hour) (hu:next≤1000) :
  ∃ t,r=.val (.bool (lstX g m n x fs).isSome) t∧(∀ c,c<s.n→c≠p→t.h.get c=s.h.get c)∧s.n≤t.n∧t.n≤s.n+9∧(∀ k,k≤p→k≤s.m→k≤t.m)∧t.m≤s.m∧∀ x' fs',lstX g m n x fs=some (x',fs')→∃ v',t.h.get p=some (.cells (x'.cells v') sz)∧Rests t.h z p v' fs':=by
 obtain ⟨M,rfl⟩:∃ M,N=M+1:=⟨N - 1,by omega⟩
 have hf:far=1000000000:=rfl
 obtain ⟨vv,t,mm,e,⟨rfl,q1,q2,q3,q4,q5⟩,hm'⟩:=call_any (n:=M) (args:=[.ptr p 0,.int .i64 next,.int .i64 (n:Int),.int .i64 g]) (s:=s) (Q:=fun vv h k m'=>vv=.bool (lstX g m n x fs).isSome∧(∀ c,c<s.n→c≠p→h.get c=s.h.get c)∧s.n≤k∧k≤s.n+9∧(∀ k,k≤p→k≤m')∧∀ x' fs',lstX g m n x fs=some (x',fs')→∃ v',h.get p=some (.cells (x'.cells v') sz)∧Rests h z p v' fs') Try.func55 rfl (fun U uh un um=>by
  rw [← uh] at gp hR
  have nn1:∀ o,(U.new o).n=U.n+1:=fun _=>rfl
  have nn2:∀ o1 o2,((U.new o1).new o2).n=U.n+2:=fun _ _=>rfl
  have nn3:∀ o1 o2 o3,(((U.new o1).new o2).new o3).n=U.n+3:=fun _ _ _=>rfl
  have gp':=gp
  unfold BoxNow.cells at gp'
  obtain ⟨w,hw⟩:∃ w:St,w=((((U.new (.cells [.ptr p 0] (tag 111))).new (.cells [.int .i64 (n:Int)] (tag 3))).new (.cells [.int .i64 g] (tag 3))).new (.cells [.bool false] (tag 4))):=⟨_,rfl⟩
  have wn:w.n=U.n+4:=by rw [hw];rfl
  have wm:w.m=far:=by rw [hw];exact um
  have wg:∀ c,c<U.n→w.h.get c=U.h.get c:=fun c hc=>by rw [hw,get_new_ne _ _ _ (by simp only [new_n];omega),get_new_ne _ _ _ (by simp only [new_n];omega),get_new_ne _ _ _ (by simp only [new_n];omega),get_new_ne _ _ _ (by omega)]
  have w0:w.h.get U.n=some (.cells [.ptr p 0] (tag 111)):=by rw [hw,get_new_ne _ _ _ (by simp only [new_n];omega),get_new_ne _ _ _ (by simp only [new_n];omega),get_new_ne _ _ _ (by simp only [new_n];omega)];exact get_new_eq _ _ _ rfl (by omega)
  have w1:w.h.get (U.n+1)=some (.cells [.int .i64 (n:Int)] (tag 3)):=by rw [hw,get_new_ne _ _ _ (by simp only [new_n];omega),get_new_ne _ _ _ (by simp only [new_n];omega)];exact get_new_eq _ _ _ rfl (by simp only [new_n];omega)
  have w2:w.h.get (U.n+2)=some (.cells [.int .i64 g] (tag 3)):=by rw [hw,get_new_ne _ _ _ (by simp only [new_n];omega)];exact get_new_eq _ _ _ rfl (by simp only [new_n];omega)
  have w3:w.h.get (U.n+3)=some (.cells [.bool false] (tag 4)):=by rw [hw];exact get_new_eq _ _ _ rfl (by simp only [new_n];omega)
  have wp:=(wg p (by omega)).trans gp
  have wp':=(wg p (by omega)).trans gp'
  rw [enter55]
  simp (disch:=first|omega|(with_unfolding_all exact rfl)|(simp only[new_n,put_n,new_m];omega)|(refine put_m_le ?_;simp only[new_m];omega)) only [res55,K55,K55r0,Abs.W,reduceIte,Nat.reduceEqDiff,Nat.reduceAdd,decide_true,decide_false,kLoop_def,Nat.reduceSub,List.cons_append,List.nil_append,List.append_nil,List.length_cons,List.length_nil,boxA_ptr,boxA_int,nn1,nn2,nn3]
  rw [← hw]
  obtain ⟨y,hy⟩:∃ y:St,y=(w.new (.cells [.int .i64 0] (tag 3))).put w.n (.cells [.int .i64 x.hour] (tag 3)):=⟨_,rfl⟩
  have yn:y.n=U.n+5:=by rw [hy];show w.n+1=_;omega
  have ym:y.m=w.n:=by rw [hy];simp only [St.put,minN_eq,new_m];omega
  have yg:∀ c,c<w.n→y.h.get c=w.h.get c:=fun c hc=>by rw [hy,get_put_ne' _ _ _ _ (by omega),get_new_ne _ _ _ (by omega)]
  have y4:y.h.get (U.n+4)=some (.cells [.int .i64 x.hour] (tag 3)):=by rw [hy,wn];exact get_put_eq _ _ _ _ rfl (by omega)
  simp (disch:=first|omega|(with_unfolding_all exact rfl)|(simp only[new_n,put_n,new_m];omega)|(refine put_m_le ?_;simp only[new_m];omega)) only [K55r1,Abs.W,reduceIte,Nat.reduceEqDiff,Nat.reduceAdd,decide_true,decide_false,kLoop_def,Nat.reduceSub,List.cons_append,List.nil_append,List.append_nil,List.length_cons,List.length_nil,Env.find_set,find_cons,w0,wp',Nat.zero_add]
  rw [← hy]
  have y0:=(yg U.n (by omega)).trans w0
  simp (disch:=first|omega|(with_unfolding_all exact rfl)|(simp only[new_n,put_n,new_m];omega)|(refine put_m_le ?_;simp only[new_m];omega)) only [K55r2,Abs.W,reduceIte,Nat.reduceEqDiff,Nat.reduceAdd,decide_true,decide_false,kLoop_def,Nat.reduceSub,List.cons_append,List.nil_append,List.append_nil,List.length_cons,List.length_nil,Env.find_set,find_cons,y0,Nat.zero_add]
  generalize hc2:call _ _ _ (.fn 36) _ _=r2
  obtain ⟨t3,sa,sb,rfl,st3,t3n,ga,gb⟩:=hours_ex hc2 (by omega) (by omega)
  have t3m:t3.m=y.m:=st3.m
  have t3g:∀ c,c<y.n→t3.h.get c=y.h.get c:=st3.same
  simp (disch:=first|omega|(with_unfolding_all exact rfl)|(simp only[new_n,put_n,new_m];omega)|(refine put_m_le ?_;simp only[new_m];omega)) only [Abs.W,reduceIte,Nat.reduceEqDiff,Nat.reduceAdd,decide_true,decide_false,kLoop_def,Nat.reduceSub,List.cons_append,List.nil_append,List.append_nil,List.length_cons,List.length_nil,Env.find_set]
  generalize hL:Env.cons 0 _ _=L0
  have B:LBox t3.h U.n p n g x.hour false:=⟨(t3g _ (by omega)).trans y0,(t3g _ (by omega)).trans ((yg _ (by omega)).trans w1),(t3g _ (by omega)).trans ((yg _ (by omega)).trans w2),(t3g _ (by omega)).trans ((yg _ (by omega)).trans w3),(t3g _ (by omega)).trans y4⟩
  have f4:L0.find 4=.ptr U.n 0:=by rw [← hL];simp only [find_cons,Env.find_set,reduceIte,Nat.reduceEqDiff]
  have f6:L0.find 6=.ptr (U.n+1) 0:=by rw [← hL];simp only [find_cons,Env.find_set,reduceIte,Nat.reduceEqDiff]
  have f7:L0.find 7=.ptr (U.n+2) 0:=by rw [← hL];simp only [find_cons,Env.find_set,reduceIte,Nat.reduceEqDiff]
  have f8:L0.find 8=.ptr (U.n+3) 0:=by rw [← hL];simp only [find_cons,Env.find_set,reduceIte,Nat.reduceEqDiff]
  have f9:L0.find 9=.ptr (U.n+4) 0:=by rw [← hL];simp only [find_cons,Env.find_set,reduceIte,Nat.reduceEqDiff,wn]
  have f17:L0.find 17=.func 57 [] [.ptr y.n 0,.ptr (y.n+1) 0]:=by rw [← hL];simp only [find_cons,Env.find_set,reduceIte,Nat.reduceEqDiff]
  obtain ⟨x2,hx2⟩:∃ x2:St,x2=(t3.new .dfr).new (.loop (lastsO L0 t3.n)):=⟨_,rfl⟩
  have x2n:x2.n=t3.n+2:=by rw [hx2];rfl
  have x2m:x2.m=t3.m:=by rw [hx2];rfl
  have x2g:∀ c,c<t3.n→x2.h.get c=t3.h.get c:=fun c hc=>by rw [hx2,get_new_ne _ _ _ (by simp only [new_n];omega),get_new_ne _ _ _ (by omega)]
  have x2d:x2.h.get t3.n=some .dfr:=by rw [hx2,get_new_ne _ _ _ (by simp only [new_n];omega)];exact get_new_eq _ _ _ rfl (by omega)
  have x2l:x2.h.get (t3.n+1)=some (.loop (lastsO L0 t3.n)):=by rw [hx2];exact get_new_eq _ _ _ rfl (by simp only [new_n];omega)
  have x2u:∀ c,c<U.n→x2.h.get c=U.h.get c:=fun c hc=>(x2g c (by omega)).trans ((t3g c (by omega)).trans ((yg c (by omega)).trans (wg c hc)))
  generalize hc4:call Try.prog X M (.fn 57) [.yield (t3.n+1),.ptr y.n 0,.ptr (y.n+1) 0] x2=r94
  obtain ⟨s2,rfl,o1,o2,o3,o4,o5,o6⟩:=hours1L_ex (z:=z) (u:=U.n) (w:=t3.n) (x:=x) (v:=v) (fs:=fs) m hc4 (by omega) x2l (B.grow fun c h1 h2=>x2g c (by omega)) ((x2u p (by omega)).trans gp) (hR.grow fun c hc hz=>x2u c (by omega)) hx hm hg hn hk hzp (by omega) (by omega) (by omega) (by omega) (by omega) hm0 h0x hu ((x2g _ (by omega)).trans ga) ((x2g _ (by omega)).trans gb) f4 f6 f7 f8 f9
  have hcall:callV (call Try.prog X M) [.yield (t3.n+1)] ((t3.new .dfr).new (.loop (lastsO L0 t3.n))) ((Arg.tmp 17).ev L0)=.val (.tup []) s2:=by
   rw [ev_tmp,f17,callV_func,← hx2]
   exact hc4
  have sh:shapeT Try.prog 4=some none:=by kernel_rfl
  have s2p:∀ c,c<U.n→c≠p→s2.h.get c=s.h.get c:=fun c hc hcp=>by rw [o1 c hcp (by omega) (by omega),x2u c hc,uh]
  have s2d:s2.h.get t3.n=some .dfr:=by rw [o1 _ (by omega) (by omega) (by omega)];exact x2d
  rcases o6 with ⟨x',fs',v',k1,k2,k3,k4,k5⟩ | ⟨k1,k2⟩
  ·have hrange:=range_to_end (ps:=[18,19]) (c:=⟨55,none,Try.f55.ntmps,X 55⟩) rfl hcall k4 rfl rfl
   have g3:∀ o,(s2.put (t3.n+1) o).h.get (U.n+3)=some (.cells [.bool false] (tag 4)):=fun o=>by rw [get_put_ne' _ _ _ _ (by omega)];exact o5
   have gd:∀ o o2,((s2.put (t3.n+1) o).put (U.n+3) o2).h.get t3.n=some .dfr:=fun o o2=>by rw [get_put_ne' _ _ _ _ (by omega),get_put_ne' _ _ _ _ (by omega)];exact s2d
   have cob:cellsOf 1 (.bool true)=some [.bool true]:=rfl
   simp (disch:=first|omega|(with_unfolding_all exact rfl)|(simp only[new_n,put_n,new_m];omega)|(refine put_m_le ?_;simp only[new_m];omega)) only [K55r3,Abs.W,reduceIte,Nat.reduceEqDiff,Nat.reduceAdd,decide_true,decide_false,kLoop_def,Nat.reduceSub,List.cons_append,List.nil_append,List.append_nil,List.length_cons,List.length_nil,hrange,Env.find_set,f8,g3,cob,Nat.zero_add]
   rw [leave_dfr _ _ _ _ _ (gd _ _),res55,k1]
   refine ⟨_,_,leave_cell1 _ _ _ _ sh (v:=.bool true) (by
    rw [f8,load_ptr,get_kill_ne _ _ _ (by omega),get_put_eq _ _ _ _ rfl (by omega)]
    simp (disch:=first|omega|(with_unfolding_all exact rfl)|(simp only[new_n,put_n,new_m];omega)|(refine put_m_le ?_;simp only[new_m];omega)) only [Abs.W,reduceIte,Nat.reduceEqDiff,Nat.reduceAdd,decide_true,decide_false,kLoop_def,Nat.reduceSub,List.cons_append,List.nil_append,List.append_nil,List.length_cons,List.length_nil]),⟨rfl,fun c hc hcp=>?_,?_,?_,fun k hk=>?_,fun x1 fs1 h=>?_⟩,fun _ hle=>⟨rfl,fun _ _ _=>trivial,Nat.le_refl _,by omega,fun k hk=>?_,fun x1 fs1 h=>?_⟩⟩
   ·rw [get_kill_ne _ _ _ (by omega),get_put_ne' _ _ _ _ (by omega),get_put_ne' _ _ _ _ (by omega)];exact s2p c (by omega) hcp
   ·show s.n≤s2.n;omega
   ·show s2.n≤s.n+9;omega
   ·have:=o3 k hk (by omega)
    simp only [St.kill,St.put,minN_eq];omega
   ·injection h with h
    injection h with h1 h2
    subst h1 h2
    refine ⟨v',?_,k3.grow fun c hc hz=>?_⟩
    ·rw [get_kill_ne _ _ _ (by omega),get_put_ne' _ _ _ _ (by omega),get_put_ne' _ _ _ _ (by omega)];exact k2
    ·rw [get_kill_ne _ _ _ (by omega),get_put_ne' _ _ _ _ (by omega),get_put_ne' _ _ _ _ (by omega)]
   ·have:=o3 k hk (by omega)
    simp only [St.kill,St.put,minN_eq];omega
   ·injection h with h
    injection h with h1 h2
    subst h1 h2
    simp only [St.kill,St.put,minN_eq] at hle
    rcases k5 with k5 | k5
    ·omega
    ·refine ⟨v',?_,k3.grow fun c hc hz=>(s2p c (by omega) hc).symm⟩
     rw [← uh,← x2u p (by omega),← k5];exact k2
  ·have hrange:=range_to_ret (ps:=[18,19]) (c:=⟨55,none,Try.f55.ntmps,X 55⟩) rfl hcall k2 rfl rfl
   have g3:∀ o,(s2.put (t3.n+1) o).h.get (U.n+3)=some (.cells [.bool false] (tag 4)):=fun o=>by rw [get_put_ne' _ _ _ _ (by omega)];exact o5
   have gd:∀ o,(s2.put (t3.n+1) o).h.get t3.n=some .dfr:=fun o=>by rw [get_put_ne' _ _ _ _ (by omega)];exact s2d
   simp (disch:=first|omega|(with_unfolding_all exact rfl)|(simp only[new_n,put_n,new_m];omega)|(refine put_m_le ?_;simp only[new_m];omega)) only [Abs.W,reduceIte,Nat.reduceEqDiff,Nat.reduceAdd,decide_true,decide_false,kLoop_def,Nat.reduceSub,List.cons_append,List.nil_append,List.append_nil,List.length_cons,List.length_nil,hrange,Env.find_set,f8,g3,Nat.zero_add]
   rw [leave_dfr _ _ _ _ _ (gd _),res55,k1]
   refine ⟨_,_,leave_cell1 _ _ _ _ sh (v:=.bool false) (by
    rw [f8,load_ptr,get_kill_ne _ _ _ (by omega),g3]
    simp (disch:=first|omega|(with_unfolding_all exact rfl)|(simp only[new_n,put_n,new_m];omega)|(refine put_m_le ?_;simp only[new_m];omega)) only [Abs.W,reduceIte,Nat.reduceEqDiff,Nat.reduceAdd,decide_true,decide_false,kLoop_def,Nat.reduceSub,List.cons_append,List.nil_append,List.append_nil,List.length_cons,List.length_nil]),⟨rfl,fun c hc hcp=>?_,?_,?_,fun k hk=>?_,fun x1 fs1 h=>(by cases h)⟩,fun _ hle=>⟨rfl,fun _ _ _=>trivial,Nat.le_refl _,by omega,fun k hk=>?_,fun x1 fs1 h=>(by cases h)⟩⟩
   ·rw [get_kill_ne _ _ _ (by omega),get_put_ne' _ _ _ _ (by omega)];exact s2p c (by omega) hcp
   ·show s.n≤s2.n;omega
   ·show s2.n≤s.n+9;omega
   ·have:=o3 k hk (by omega)
    simp only [St.kill,St.put,minN_eq];omega
   ·have:=o3 k hk (by omega)
    simp only [St.kill,St.put,minN_eq];omega)
 refine ⟨t,hr.symm.trans e,q1,q2,q3,fun k hk hk2=>?_,?_,q5⟩
 ·have:=q4 k hk
  rcases hm' with ⟨_,hm'⟩ | ⟨_,hm'⟩<;>omega
 ·rcases hm' with ⟨_,hm'⟩ | ⟨_,hm'⟩<;>omega
end Go.Proofs.Ytkoefjgapmonaaa.walk
set_option maxRecDepth 10000
namespace Go.Abs
structure IsAt (h:Heap) (n b w tg:Nat) (rows:List (List AV)) (v:AV):Prop where
 wide:∀ r ∈ rows,r.length=w
 is:(rows=[]∧v=.nilslice)∨(rows≠[]∧b<n∧v=.slice b 0 rows.length rows.length true∧h.get b=some (.cells rows.flatten (w+tg)))
theorem IsAt.nil (h:Heap) (n b w tg:Nat):IsAt h n b w tg [] .nilslice:=⟨fun _ hr=>(by cases hr),.inl ⟨rfl,rfl⟩⟩
theorem IsAt.mono {h h':Heap} {n n' b w tg:Nat} {rows:List (List AV)} {v:AV} (r:IsAt h n b w tg rows v) (hh:b<n→h'.get b=h.get b) (hn:n≤n'):IsAt h' n' b w tg rows v :=
 ⟨r.wide,r.is.imp id fun ⟨h1,h2,h3,h4⟩=>⟨h1,by omega,h3,by rw [hh h2];exact h4⟩⟩
theorem IsAt.rows {h:Heap} {n b w tg:Nat} {rows:List (List AV)} {v:AV} (r:IsAt h n b w tg rows v):Rows h 0 n w tg rows v :=
 ⟨r.wide,r.is.imp id fun ⟨_,h2,h3,h4⟩=>⟨b,Nat.zero_le _,h2,h3,h4⟩⟩
theorem append_at {s:St} {b w bytes tg:Nat} {rows:List (List AV)} {v:AV} (r:IsAt s.h s.n b w tg rows v) {p sz:Nat} {row:List AV} (hp:s.h.get p=some (.cells row sz)) (hw:row.length=w) (hsc:scalars row=true)
  (hb:(rows.length+1) * bytes≤1000000) (htg:szOf (w+tg)=w) (hs:s.n<549755813888) :
  ∃ s',appendA false w bytes tg s v (.slice p 0 1 1 false)=.val (.slice s.n 0 (rows.length+1) (rows.length+1) true) s'∧IsAt s'.h s'.n s.n w tg (rows++[row]) (.slice s.n 0 (rows.length+1) (rows.length+1) true)∧s'.n=s.n+1∧(∀ c,c<s.n→c≠b→s'.h.get c=s.h.get c)∧(∀ k,k≤b→k≤s.n→k≤s.m→k≤s'.m)∧s'.m≤s.m:=by
 rcases r.is with ⟨h1,h2⟩ | ⟨h1,h2,h3,h4⟩
 ·obtain ⟨v',s',e1,e2,e3,e4,e5,e6,e7,e8⟩:=append_row (lo:=s.n) (bytes:=bytes) (⟨r.wide,.inl ⟨h1,h2⟩⟩:Rows s.h s.n s.n w tg rows v) hp hw hsc hb htg hs (Nat.le_refl _)
  subst e8
  refine ⟨s',e1,⟨e2.wide,.inr ⟨by simp,by omega,by simp,?_⟩⟩,e3,fun c hc _=>e4 c hc,fun k _ hk hm=>e6 k hk hm,e7⟩
  rcases e2.is with ⟨z,_⟩ | ⟨b',_,_,z2,z3⟩
  ·simp at z
  ·injection z2 with z2
   rw [z2];exact z3
 ·obtain ⟨v',s',e1,e2,e3,e4,e5,e6,e7,e8⟩:=append_row (lo:=b) (bytes:=bytes) (⟨r.wide,.inr ⟨b,Nat.le_refl _,h2,h3,h4⟩⟩:Rows s.h b s.n w tg rows v) hp hw hsc hb htg hs (by omega)
  subst e8
  refine ⟨s',e1,⟨e2.wide,.inr ⟨by simp,by omega,by simp,?_⟩⟩,e3,fun c hc hcb=>e5 c hc (by rw [h3];intro z;injection z with z;exact hcb z.symm),fun k hk _ hm=>e6 k hk hm,e7⟩
  rcases e2.is with ⟨z,_⟩ | ⟨b',_,_,z2,z3⟩
  ·simp at z
  ·injection z2 with z2
   rw [z2];exact z3
theorem apart_slice {b c o n k p:Nat} {e:Bool} (h:b≠c):apartA (.slice b o n k e) (.ptr c p)=true:=by
 unfold apartA
 simp [blockOf,nbeq_f h]
theorem IsAt.apart {h:Heap} {n b w tg c o:Nat} {rows:List (List AV)} {v:AV} (r:IsAt h n b w tg rows v) (hc:b≠c):apartA v (.ptr c o)=true:=by
 rcases r.is with ⟨_,h2⟩ | ⟨_,_,h3,_⟩
 ·subst h2;rfl
 ·subst h3;exact apart_slice hc
end Go.Abs
namespace Go.Proofs.Ytkoefjgapmonaaa.walk
open Go.Abs Go.Proofs.Ytkoefjgapmonaaa.code
def ints (l:List Int):List (List AV):=l.map fun x=>[.int .i64 x]
theorem ints_wide (l:List Int):∀ r ∈ ints l,r.length=1:=by
 intro r hr
 unfold ints at hr
 obtain ⟨x,_,rfl⟩:=List.mem_map.mp hr
 rfl
theorem ints_len (l:List Int):(ints l).length=l.length:=by unfold ints;rw [List.length_map]
theorem ints_snoc (l:List Int) (x:Int):ints l++[[.int .i64 x]]=ints (l++[x]):=by unfold ints;rw [List.map_append];rfl
end Go.Proofs.Ytkoefjgapmonaaa.walk
set_option maxRecDepth 10000
namespace Go.Proofs.Ytkoefjgapmonaaa.walk
open Go.Abs Go.Proofs.Ytkoefjgapmonaaa.code
def numL (l:List Nat):List Int:=l.map Int.ofNat
def PreAt (h:Heap) (n lo:Nat) (v:AV):List Nat→Prop
 | []=>v=.nilslice
 | [a]=>∃ b,lo≤b∧b<n∧v=.slice b 0 1 1 true∧(h.get b=some (.cells [.int .i64 (a:Int)] (1+tag 3))∨∃ c ver,h.get b=some (.fam [.int .i64 (a:Int),.int .i64 c] 1 1 [(ver,2)]))
 | [a,c]=>∃ b ver,lo≤b∧b<n∧v=.vs b ver 2∧h.get b=some (.fam [.int .i64 (a:Int),.int .i64 (c:Int)] 1 1 [(ver,2)])
 | _=>False
theorem PreAt.grow {h h':Heap} {n n' lo:Nat} {v:AV}:∀ {pre:List Nat},PreAt h n lo v pre→(∀ b,b<n→blockOf v=some b→h'.get b=h.get b)→n≤n'→PreAt h' n' lo v pre
 | [],r,_,_=>r
 | [a],⟨b,h1,h2,h3,h4⟩,hh,hn=>⟨b,h1,by omega,h3,by rw [hh b h2 (by rw [h3];rfl)];exact h4⟩
 | [a,c],⟨b,ver,h1,h2,h3,h4⟩,hh,hn=>⟨b,ver,h1,by omega,h3,by rw [hh b h2 (by rw [h3];rfl)];exact h4⟩
 | _::_::_::_,r,_,_=>r.elim
theorem verAt_one (v k:Nat):verAt v [(v,k)]=some k:=by
 show (match Nat.beq v v with | true=>some k | false=>verAt v [])=_
 rw [Nat.beq_refl]
structure PreUse (h:Heap) (n lo:Nat) (v:AV) (pre:List Nat):Prop where
 len:∀ s,lenSlA s v=.val (.int .i64 (pre.length:Int)) s
 lenA:lenA v=some pre.length
 first:∀ s:St,s.h=h→firstA 1 pre.length s v=some (ints (numL pre)).flatten
 ok:∀ t,okA (.val v t)=.val v t
 sc:v.scalar=true
 block:∀ b,blockOf v=some b→lo≤b∧b<n
theorem PreAt.use {h:Heap} {n lo:Nat} {v:AV}:∀ {pre:List Nat},PreAt h n lo v pre→PreUse h n lo v pre
 | [],r=>by
  have r':v=.nilslice:=r
  subst r'
  exact ⟨fun _=>rfl,rfl,fun _ _=>rfl,fun _=>rfl,rfl,fun b h=>by cases h⟩
 | [a],⟨b,h1,h2,h3,h4⟩=>by
  subst h3
  refine ⟨fun _=>rfl,rfl,fun s hs=>?_,fun _=>rfl,rfl,fun c h=>?_⟩
  ·show (match s.h.get b with | some (.cells c _)=>cut 0 1 c | some (.fam c _ k _)=>cut 0 1 (c.take k) | _=>none)=_
   rw [hs]
   rcases h4 with h4 | ⟨c,ver,h4⟩<;>rw [h4]<;>rfl
  ·have:some b=some c:=h
   injection this with this
   omega
 | [a,c],⟨b,ver,h1,h2,h3,h4⟩=>by
  subst h3
  refine ⟨fun _=>rfl,rfl,fun s hs=>?_,fun _=>rfl,rfl,fun c h=>?_⟩
  ·show (match (match s.h.get b with | some (.fam c _ _ vs)=>(match verAt ver vs with | some k=>some (c.take k) | none=>none) | _=>none) with | some c=>cut 0 2 c | none=>none)=_
   rw [hs,h4]
   simp only [verAt_one]
   rfl
  ·have:some b=some c:=h
   injection this with this
   omega
 | _::_::_::_,r=>r.elim
theorem pre_append {s:St} {pre:List Nat} {v:AV} {lo p i sz:Nat} (r:PreAt s.h s.n lo v pre) (hl:pre.length≤1) (hp:s.h.get p=some (.cells [.int .i64 (i:Int)] sz)) (hlo:lo≤s.n) (hs:s.n<549755813888) :
  ∃ v' s',appendA true 1 8 (tag 3) s v (.slice p 0 1 1 false)=.val v' s'∧PreAt s'.h s'.n lo v' (pre++[i])∧PreAt s'.h s'.n lo v pre∧s'.n=s.n+1∧(∀ c,c<s.n→blockOf v≠some c→s'.h.get c=s.h.get c)∧(∀ k,k≤lo→k≤s.m→k≤s'.m)∧s'.m≤s.m∧(∀ b,blockOf v'=some b→blockOf v=some b∨b=s.n)∧(∀ b,blockOf v=some b→blockOf v'=some b):=by
 have e1:firstA 1 1 s (.slice p 0 1 1 false)=some [.int .i64 (i:Int)]:=by
  show (match s.h.get p with | some (.cells c _)=>cut 0 1 c | some (.fam c _ k _)=>cut 0 1 (c.take k) | _=>none)=_
  rw [hp];rfl
 have e2:appendA true 1 8 (tag 3) s v (.slice p 0 1 1 false)=growF 1 8 (tag 3) 1 [.int .i64 (i:Int)] s v:=by
  show (match firstA 1 1 s (.slice p 0 1 1 false) with | none=>ARes.fail | some new=>match Nat.beq new.length (1 * 1) with | false=>.fail | true=>match scalars new with | true=>growF 1 8 (tag 3) 1 new s v | false=>.fail)=_
  rw [e1];rfl
 rw [e2]
 match pre,r,hl with
 | [],r,_ =>
  have r':v=.nilslice:=r
  subst r'
  refine ⟨.slice s.n 0 1 1 true,s.new (.cells [.int .i64 (i:Int)] (1+tag 3)),rfl,⟨s.n,hlo,Nat.lt_succ_self _,rfl,.inl (get_new_eq _ _ _ rfl hs)⟩,rfl,rfl,fun c hc _=>get_new_ne _ _ _ (by omega),fun _ _ h=>h,Nat.le_refl _,fun b hb=>?_,fun b hb=>by cases hb⟩
  have:some s.n=some b:=hb
  injection this with this
  exact .inr this.symm
 | [a],⟨b,h1,h2,h3,h4⟩,_ =>
  subst h3
  have hg:(s.put b (.fam [.int .i64 (a:Int),.int .i64 (i:Int)] 1 1 [(s.n,2)])).bump.h.get b=some (.fam [.int .i64 (a:Int),.int .i64 (i:Int)] 1 1 [(s.n,2)]):=get_put_eq _ _ _ _ rfl (by omega)
  refine ⟨.vs b s.n 2,(s.put b (.fam [.int .i64 (a:Int),.int .i64 (i:Int)] 1 1 [(s.n,2)])).bump,?_,⟨b,s.n,h1,Nat.lt_succ_of_lt h2,rfl,hg⟩,⟨b,h1,Nat.lt_succ_of_lt h2,rfl,.inr ⟨_,_,hg⟩⟩,rfl,fun c hc hcb=>?_,fun k hk hm=>?_,?_,fun c hc=>.inl hc,fun c hc=>hc⟩
  ·show (match s.h.get b with
    | some (.cells c sz)=>if c.length=1 * 1∧szOf sz=1 then famA 1 b c.length c.length 1 1 c [.int .i64 (i:Int)] [] s else .fail
    | some (.fam c sz k _)=>if sz=1 then famA 1 b k k 1 1 c [.int .i64 (i:Int)] [] s else .fail
    | _=>.fail)=_
   rcases h4 with h4 | ⟨c,ver,h4⟩
   ·rw [h4];rfl
   ·rw [h4];rfl
  ·exact get_put_ne' _ _ _ _ (fun h=>hcb (by rw [h];rfl))
  ·show k≤minN s.m b
   rw [minN_eq];omega
  ·show minN s.m b≤s.m
   rw [minN_eq];omega
 | _::_::_,_,h=>exact absurd h (by simp)
theorem pre_back {h h0:Heap} {n n0 lo i:Nat} {v v':AV}:∀ {pre:List Nat},PreAt h n lo v' (pre++[i])→PreAt h0 n0 lo v pre→(∀ b,blockOf v=some b→blockOf v'=some b)→PreAt h n lo v pre
 | [],_,r,_=>r
 | [a],⟨b',ver,h1,h2,h3,h4⟩,⟨b,k1,k2,k3,k4⟩,hb=>by
  have:blockOf v'=some b:=hb b (by rw [k3];rfl)
  rw [h3] at this
  have this:some b'=some b:=this
  injection this with this
  subst this
  exact ⟨b',h1,h2,k3,.inr ⟨_,_,h4⟩⟩
 | _::_::l,r,_,_=>by
  cases l<;>exact r.elim
theorem eqlNil_vs (s:St) (b v n:Nat):eqlA .nilS false s (.vs b v n) .nilslice=.val (.bool false) s:=by simp [eqlA,Cmp.eq]
theorem cloneI_ex {N:Nat} {s:St} {r:ARes} {v:AV} {lo:Nat} (pre:List Nat) (hr:call Try.prog X N (.fn 54) [v] s=r) (hN:1≤N) (hp:PreAt s.h s.n lo v pre) (h0:pre≠[]) (hk:pre.length≤2) (hs:s.n+100≤far) :
  ∃ bc t,r=.val (.slice bc 0 pre.length pre.length true) t∧New s t 2∧s.n≤bc∧bc<t.n∧t.h.get bc=some (.cells (ints (numL pre)).flatten (1+tag 3)):=by
 obtain ⟨n,rfl⟩:∃ n,N=n+1:=⟨N - 1,by omega⟩
 have hf:far=1000000000:=rfl
 obtain ⟨w,t,e,st,bc,rfl,hq⟩:=call_new (n:=n) (args:=[v]) (s:=s) (k:=2) (Q:=fun w h m=>∃ bc,w=.slice bc 0 pre.length pre.length true∧s.n≤bc∧bc<m∧h.get bc=some (.cells (ints (numL pre)).flatten (1+tag 3))) Try.func54 rfl (fun u uh un um=>by
  rw [enter54]
  obtain ⟨p1,p2,p3,p4,p5,p6⟩:=hp.use
  have hnil:∀ s,eqlA .nilS false s v .nilslice=.val (.bool false) s:=fun s=>by
   match pre,hp,h0 with
   | [a],⟨b,_,_,h3,_⟩,_=>rw [h3];exact eqlNil_slice _ _ _ _ _ _
   | [a,c],⟨b,ver,_,_,h3,_⟩,_=>rw [h3];exact eqlNil_vs _ _ _ _
  obtain ⟨w,hw⟩:∃ w:St,w=u.new (.cells [] 0):=⟨_,rfl⟩
  have wn:w.n=u.n+1:=by rw [hw];rfl
  have hlen:(ints (numL pre)).flatten.length=pre.length:=by
   rw [flatten_len (ints_wide _),ints_len];unfold numL;rw [List.length_map,Nat.mul_one]
  have happ:appendA false 1 8 (tag 3) w (.slice u.n 0 0 0 false) v=.val (.slice w.n 0 pre.length pre.length true) (w.new (.cells (ints (numL pre)).flatten (1+tag 3))):=by
   have e1:firstA 1 pre.length w v=some (ints (numL pre)).flatten:=by
    have hp':PreAt w.h w.n lo v pre:=hp.grow (fun b hb hv=>by rw [hw,get_new_ne _ _ _ (by omega),uh]) (by omega)
    exact hp'.use.first w rfl
   have e2:Nat.beq (ints (numL pre)).flatten.length (pre.length * 1)=true:=by rw [hlen,Nat.mul_one];exact Nat.beq_refl _
   have e3:scalars (ints (numL pre)).flatten=true:=scalars_flatten (fun r hr=>by
    unfold ints at hr
    obtain ⟨x,_,rfl⟩:=List.mem_map.mp hr
    rfl)
   unfold appendA
   simp only [p2,e1,e2,e3]
   have g0:w.h.get u.n=some (.cells [] 0):=by rw [hw];exact get_new_eq _ _ _ rfl (by omega)
   unfold growA
   have e4:Nat.ble pre.length 0=false:=by
    cases h:Nat.ble pre.length 0 with
    | false=>rfl
    | true =>
     have:=Nat.le_of_ble_eq_true h
     exact absurd (List.length_eq_zero_iff.mp (Nat.le_zero.mp this)) h0
   have e5:Nat.ble (pre.length * 8) limit=true:=Nat.ble_eq_true_of_le (by show pre.length * 8≤limit;unfold limit;omega)
   have e6:cut 0 0 ([]:List AV)=some []:=rfl
   simp only [g0,Nat.zero_add,Nat.zero_mul,e4,e5,e6,List.nil_append]
  simp (disch:=first|omega|(with_unfolding_all exact rfl)|(simp only[new_n,put_n,new_m];omega)|(refine put_m_le ?_;simp only[new_m];omega)) only [res54,K54r0,K54r1,K54r2,K54r3,K54,Abs.W,reduceIte,Nat.reduceEqDiff,Nat.reduceAdd,decide_true,decide_false,kLoop_def,Nat.reduceSub,List.cons_append,List.nil_append,List.append_nil,List.length_cons,List.length_nil,kEql_def,hnil,p4,Bool.false_eq_true]
  rw [← hw]
  have okR:∀ x t,okA (.val (.slice x 0 pre.length pre.length true) t)=.val (.slice x 0 pre.length pre.length true) t:=fun _ _=>rfl
  simp (disch:=first|omega|(with_unfolding_all exact rfl)|(simp only[new_n,put_n,new_m];omega)|(refine put_m_le ?_;simp only[new_m];omega)) only [Abs.W,reduceIte,Nat.reduceEqDiff,Nat.reduceAdd,decide_true,decide_false,kLoop_def,Nat.reduceSub,List.cons_append,List.nil_append,List.append_nil,List.length_cons,List.length_nil,Env.find_set,happ,okR]
  exact ⟨_,_,rfl,⟨fun c hc=>by rw [get_new_ne _ _ _ (by omega),hw,get_new_ne _ _ _ (by omega)],by simp only [new_n];omega,by simp only [new_n];omega,by rw [new_m,hw,new_m];omega,by rw [new_m,hw,new_m];omega⟩,rfl,_,rfl,by omega,by simp only [new_n];omega,get_new_eq _ _ _ rfl (by omega)⟩)
 exact ⟨bc,t,hr.symm.trans e,st,hq.1,hq.2.1,hq.2.2⟩
end Go.Proofs.Ytkoefjgapmonaaa.walk
set_option maxRecDepth 10000
namespace Go.Proofs.Ytkoefjgapmonaaa.walk
open Go.Abs Go.Proofs.Ytkoefjgapmonaaa.code
theorem lstX_spec {g:Int} (hg:0≤g∧g≤1000000):∀ (k n:Nat) (x:BoxNow) (fs:List (Int × Int)) (y:BoxNow × List (Int × Int)),x.Fits→0≤x.m0∧x.m0≤1000000∧0≤x.m1∧x.m1≤1000000→(∀ f ∈ fs,0≤f.2∧f.2≤1000000)→lstX g k n x fs=some y→y.1.hour=x.hour+k∧y.1.Fits∧(y.1.m0=x.m0∧y.1.m1=x.m1∧y.1.room=x.room)∧y.2.length≤fs.length∧∀ f ∈ y.2,f ∈ fs
 | 0,_,x,fs,y,hx,_,_,h=>by
  injection h with h
  subst h
  exact ⟨by show x.hour=x.hour+((0:Nat):Int);omega,hx,⟨rfl,rfl,rfl⟩,Nat.le_refl _,fun _ h=>h⟩
 | k+1,n,x,fs,y,hx,hm,hf,h=>by
  rw [lstX_succ] at h
  split at h
  ·cases h
  ·obtain ⟨⟨q1,q2,q3,_⟩,q8⟩:=x.fill_like fs
   have hx1:=BoxNow.fill_fits hx fs hf
   obtain ⟨⟨p1,p2,p3,_⟩,p8⟩:=puts_like g n (x.fill fs)
   obtain ⟨⟨k1,k2⟩,⟨k3,k4⟩,⟨k5,k6⟩⟩:=puts_fits hg n hx1
   generalize puts g n (x.fill fs)=w at *
   obtain ⟨r1,r2,⟨r3,r4,r5⟩,r6,r7⟩:=lstX_spec hg k 0 w.melt.tick (left x.hour fs) y ⟨⟨k1,k2⟩,(by show 0≤max 0 (w.i0 - w.m1)∧max 0 (w.i0 - w.m1)≤1000000;omega),(by show 0≤max 0 (w.i1 - w.m0)∧max 0 (w.i1 - w.m0)≤1000000;omega)⟩ (by show 0≤w.m0∧w.m0≤1000000∧0≤w.m1∧w.m1≤1000000;omega) (fun f hf'=>hf f (left_sub _ _ f hf')) h
   have e1:w.melt.tick.hour=w.hour+1:=rfl
   have e2:w.melt.tick.m0=w.m0:=rfl
   have e3:w.melt.tick.m1=w.m1:=rfl
   have e4:w.melt.tick.room=w.room:=rfl
   exact ⟨by omega,r2,⟨by omega,by omega,by omega⟩,Nat.le_trans r6 (left_len _ _),fun f hf'=>left_sub _ _ f (r7 f hf')⟩
def nextOf (u:Int) (vs:List Int):Int:=min (vs.headD u) u
abbrev Few:=Nat × Option (List Nat)
def tryC (g u:Int):List Int→List Nat→Nat→BoxNow→List (Int × Int)→Few→Few
 | [],pre,many,_,_,b=>if b.1≤many then b else (many,some pre)
 | _::vs,pre,many,x,fs,b=>if b.1≤many then b else (List.range 6).foldl (fun b n=>match lstX g (nextOf u vs - x.hour).toNat n x fs with | none=>b | some y=>tryC g u vs (pre++[n]) (many+n) y.1 y.2 b) b
def tryStep (g u:Int) (vs:List Int) (pre:List Nat) (many:Nat) (x:BoxNow) (fs:List (Int × Int)) (b:Few) (n:Nat):Few:=match lstX g (nextOf u vs - x.hour).toNat n x fs with | none=>b | some y=>tryC g u vs (pre++[n]) (many+n) y.1 y.2 b
theorem tryC_cons (g u:Int) (v:Int) (vs:List Int) (pre:List Nat) (many:Nat) (x:BoxNow) (fs:List (Int × Int)) (b:Few):tryC g u (v::vs) pre many x fs b=if b.1≤many then b else (List.range 6).foldl (tryStep g u vs pre many x fs) b:=rfl
theorem fold_snoc {α:Type} (f:α→Nat→α) (b:α) (i:Nat):(List.range (i+1)).foldl f b=f ((List.range i).foldl f b) i:=by
 rw [List.range_succ,List.foldl_append];rfl
structure FBox (h:Heap) (u bv:Nat) (g until_:Int) (vs0:List Int):Prop where
 f1:∃ sz,h.get (u+1)=some (.cells [.slice bv 0 vs0.length vs0.length true] sz)
 f2:∃ sz,h.get (u+2)=some (.cells [.int .i64 g] sz)
 f3:∃ sz,h.get (u+3)=some (.cells [.int .i64 until_] sz)
 f6:∃ sz,h.get (u+6)=some (.cells [.func 53 [] [.ptr (u+5) 0,.ptr (u+1) 0,.ptr (u+4) 0,.ptr (u+3) 0,.ptr (u+2) 0,.ptr (u+6) 0]] sz)
 bvu:bv<u
 fv:∃ sz,h.get bv=some (.cells (ints vs0).flatten sz)
theorem FBox.grow {h h':Heap} {u bv:Nat} {g until_:Int} {vs0:List Int} (a:FBox h u bv g until_ vs0) (hh:∀ c,c<u+7→c≠u+4→c≠u+5→h'.get c=h.get c):FBox h' u bv g until_ vs0:=by
 have hb:=a.bvu
 exact ⟨by rw [hh _ (by omega) (by omega) (by omega)];exact a.f1,by rw [hh _ (by omega) (by omega) (by omega)];exact a.f2,by rw [hh _ (by omega) (by omega) (by omega)];exact a.f3,by rw [hh _ (by omega) (by omega) (by omega)];exact a.f6,hb,by rw [hh _ (by omega) (by omega) (by omega)];exact a.fv⟩
def ChoAt (h:Heap) (n u:Nat) (vp vc:AV):Option (List Nat)→Prop
 | none=>vc=.nilslice
 | some l=>∃ bc,vc=.slice bc 0 l.length l.length true∧u+7≤bc∧bc<n∧blockOf vp≠some bc∧h.get bc=some (.cells (ints (numL l)).flatten (1+tag 3))
theorem ChoAt.grow {h h':Heap} {n n' u:Nat} {vp vp' vc:AV}:∀ {o:Option (List Nat)},ChoAt h n u vp vc o→(∀ c,u+7≤c→c<n→blockOf vp≠some c→h'.get c=h.get c∧blockOf vp'≠some c)→n≤n'→ChoAt h' n' u vp' vc o
 | none,r,_,_=>r
 | some l,⟨bc,h1,h2,h3,h4,h5⟩,hh,hn=>⟨bc,h1,h2,by omega,(hh bc h2 h3 h4).2,by rw [(hh bc h2 h3 h4).1];exact h5⟩
structure BestAt (h:Heap) (n u:Nat) (vp:AV) (b:Few):Prop where
 bound:h.get (u+5)=some (.cells [.int .i64 (b.1:Int)] (tag 3))
 chosen:∃ vc,h.get (u+4)=some (.cells [vc] (tag 22))∧ChoAt h n u vp vc b.2
theorem BestAt.grow {h h':Heap} {n n' u:Nat} {vp vp':AV} {b:Few} (a:BestAt h n u vp b) (h5:h'.get (u+5)=h.get (u+5)) (h4:h'.get (u+4)=h.get (u+4)) (hh:∀ c,u+7≤c→c<n→blockOf vp≠some c→h'.get c=h.get c∧blockOf vp'≠some c) (hn:n≤n'):BestAt h' n' u vp' b:=by
 obtain ⟨vc,k1,k2⟩:=a.chosen
 exact ⟨h5.trans a.bound,vc,h4.trans k1,k2.grow hh hn⟩
structure TryPost (u:Nat) (vp:AV) (pre:List Nat) (s t:St) (b b':Few) (k:Nat):Prop where
 same:∀ c,c<s.n→c≠u+4→c≠u+5→blockOf vp≠some c→t.h.get c=s.h.get c
 pre:PreAt t.h t.n (u+7) vp pre
 best:BestAt t.h t.n u vp b'
 n1:s.n≤t.n
 n2:t.n≤s.n+k
 mrk:∀ k,k≤u→k≤s.m→k≤t.m
 ml:t.m≤s.m
 or:t.m≤u+5∨b'=b
def kay:Nat→Nat
 | 0=>10
 | k+1=>6 * (20+kay k)+10
def TryOk (M:Nat) (g until_:Int) (vs0 vs:List Int):Prop:=∀ (s:St) (x:BoxNow) (v vp:AV) (fs:List (Int × Int)) (pre:List Nat) (many:Nat) (b:Few) (u bv z:Nat),vs0.drop pre.length=vs→pre.length≤vs0.length→FBox s.h u bv g until_ vs0→BestAt s.h s.n u vp b→PreAt s.h s.n (u+7) vp pre→Rests s.h z z v fs→x.Fits→0≤x.m0∧x.m0≤1000000∧0≤x.m1∧x.m1≤1000000→fs.length≤1000→z≤u→u+7≤s.n→s.n+100000+kay vs.length≤far→0≤x.hour→(vs≠[]→x.hour≤nextOf until_ vs.tail)→many≤5 * pre.length →
 ∃ t,call Try.prog X M (.fn 53) [.agg (x.cells v),vp,.int .i64 (many:Int),.ptr (u+5) 0,.ptr (u+1) 0,.ptr (u+4) 0,.ptr (u+3) 0,.ptr (u+2) 0,.ptr (u+6) 0] s=.val (.tup []) t∧TryPost u vp pre s t b (tryC g until_ vs pre many x fs b) (kay vs.length)
theorem try_leaf (N:Nat) (hN:5≤N) {g until_:Int} {vs0:List Int} (hv0:vs0≠[]) (hv2:vs0.length≤2):TryOk N g until_ vs0 []:=by
 obtain ⟨M,rfl⟩:∃ M,N=M+1:=⟨N - 1,by omega⟩
 intro s x v vp fs pre many b u bv z hdrop hpl F Bb P hR hx hm hk hzu hun hs h0x hord hmany
 have hf:far=1000000000:=rfl
 have hlen:pre.length=vs0.length:=by
  have:=congrArg List.length hdrop
  rw [List.length_drop,List.length_nil] at this
  omega
 have hpne:pre≠[]:=fun h=>by rw [h] at hlen;exact hv0 (List.length_eq_zero_iff.mp hlen.symm)
 have hkay:kay ([]:List Int).length=10:=rfl
 rw [hkay] at hs ⊢
 obtain ⟨w,t,mm,e,⟨rfl,q⟩,hm'⟩:=call_any (n:=M) (args:=[.agg (x.cells v),vp,.int .i64 (many:Int),.ptr (u+5) 0,.ptr (u+1) 0,.ptr (u+4) 0,.ptr (u+3) 0,.ptr (u+2) 0,.ptr (u+6) 0]) (s:=s) (Q:=fun w h n m'=>w=.tup []∧(∀ c,c<s.n→c≠u+4→c≠u+5→blockOf vp≠some c→h.get c=s.h.get c)∧PreAt h n (u+7) vp pre∧BestAt h n u vp (tryC g until_ [] pre many x fs b)∧s.n≤n∧n≤s.n+10∧(∀ k,k≤u→k≤m')∧(m'≤u+5∨tryC g until_ [] pre many x fs b=b)) Try.func53 rfl (fun U uh un um=>by
  have F':=F
  have Bb':=Bb
  have P':=P
  rw [← uh] at F' Bb' P'
  obtain ⟨sz1,F1⟩:=F'.f1
  obtain ⟨sz2,F2⟩:=F'.f2
  have B5:=Bb'.bound
  obtain ⟨vc,B4,_⟩:=Bb'.chosen
  obtain ⟨p1,p2,p3,p4,p5,p6⟩:=P'.use
  obtain ⟨w,hw⟩:∃ w:St,w=U.new (.cells (x.cells v) (tag 77)):=⟨_,rfl⟩
  have wn:w.n=U.n+1:=by rw [hw];rfl
  have wm:w.m=far:=by rw [hw];exact um
  have wg:∀ c,c<U.n→w.h.get c=U.h.get c:=fun c hc=>by rw [hw,get_new_ne _ _ _ (by omega)]
  have B5w:=(wg (u+5) (by omega)).trans B5
  have B4w:=(wg (u+4) (by omega)).trans B4
  have F1w:=(wg (u+1) (by omega)).trans F1
  have Pw:PreAt w.h w.n (u+7) vp pre:=P'.grow (fun c hc _=>wg c (by omega)) (by omega)
  have hF:∀ vp',(∀ c,blockOf vp'=some c→blockOf vp=some c)→True:=fun _ _=>trivial
  rw [enter53]
  by_cases hb:b.1≤many
  ·have e0:decide ((b.1:Int)≤(many:Int))=true:=decide_eq_true (by omega)
   have hT:tryC g until_ [] pre many x fs b=b:=if_pos hb
   rw [hT]
   simp (disch:=first|omega|(with_unfolding_all exact rfl)|(simp only[new_n,put_n,new_m];omega)|(refine put_m_le ?_;simp only[new_m];omega)) only [res53,K53r0,K53r1,K53r2,K53r3,K53r4,K53r5,K53r6,K53r7,K53r8,K53r9,K53r10,K53r11,K53r12,K53r13,K53r14,K53,Abs.W,reduceIte,Nat.reduceEqDiff,Nat.reduceAdd,decide_true,decide_false,kLoop_def,Nat.reduceSub,List.cons_append,List.nil_append,List.append_nil,List.length_cons,List.length_nil]
   rw [← hw]
   simp (disch:=first|omega|(with_unfolding_all exact rfl)|(simp only[new_n,put_n,new_m];omega)|(refine put_m_le ?_;simp only[new_m];omega)) only [Abs.W,reduceIte,Nat.reduceEqDiff,Nat.reduceAdd,decide_true,decide_false,kLoop_def,Nat.reduceSub,List.cons_append,List.nil_append,List.append_nil,List.length_cons,List.length_nil,Env.find_set,B5,B5w,e0,ge_iff_le,leave_nil,Nat.zero_add]
   have hBw:BestAt w.h w.n u vp b:=Bb'.grow (wg _ (by omega)) (wg _ (by omega)) (fun c h1 h2 h3=>⟨wg c (by omega),h3⟩) (by omega)
   exact ⟨_,_,rfl,⟨rfl,fun c hc _ _ _=>by rw [wg c (by omega),uh],Pw,hBw,by omega,by omega,fun k hk=>by omega,.inr trivial⟩,fun _ hle=>⟨rfl,fun _ _ _ _ _=>trivial,P,Bb,Nat.le_refl _,by omega,fun k hk=>by omega,.inr trivial⟩⟩
  ·have e0:decide ((b.1:Int)≤(many:Int))=false:=decide_eq_false (by omega)
   have e1:decide ((pre.length:Int)=(vs0.length:Int))=true:=decide_eq_true (by omega)
   have hT:tryC g until_ [] pre many x fs b=(many,some pre):=if_neg hb
   rw [hT]
   have ll:∀ s,lenSlA s (.slice bv 0 vs0.length vs0.length true)=.val (.int .i64 (vs0.length:Int)) s:=fun _=>rfl
   have okS:∀ t,okA (.val (.slice bv 0 vs0.length vs0.length true) t)=.val (.slice bv 0 vs0.length vs0.length true) t:=fun _=>rfl
   obtain ⟨bc,t,ec,st,hbc1,hbc2,hbc3⟩:=cloneI_ex (N:=M) (s:=w) (v:=vp) pre rfl (by omega) Pw hpne (by omega) (by omega)
   have tn:=st.n
   have tl:=st.le
   have tg:=st.same
   have tmm:t.m=w.m:=st.m
   have B5t:=(tg (u+5) (by omega)).trans B5w
   have B4t:=(tg (u+4) (by omega)).trans B4w
   have okR:∀ t,okA (.val (.slice bc 0 pre.length pre.length true) t)=.val (.slice bc 0 pre.length pre.length true) t:=fun _=>rfl
   have coS:cellsOf 1 (.slice bc 0 pre.length pre.length true)=some [.slice bc 0 pre.length pre.length true]:=rfl
   simp (disch:=first|omega|(with_unfolding_all exact rfl)|(simp only[new_n,put_n,new_m];omega)|(refine put_m_le ?_;simp only[new_m];omega)) only [res53,K53r0,K53r1,K53r2,K53r3,K53r4,K53r5,K53r6,K53r7,K53r8,K53r9,K53r10,K53r11,K53r12,K53r13,K53r14,K53,Abs.W,reduceIte,Nat.reduceEqDiff,Nat.reduceAdd,decide_true,decide_false,kLoop_def,Nat.reduceSub,List.cons_append,List.nil_append,List.append_nil,List.length_cons,List.length_nil]
   rw [← hw]
   have B4p:∀ o,(t.put (u+5) o).h.get (u+4)=some (.cells [vc] (tag 22)):=fun o=>by rw [get_put_ne' _ _ _ _ (by omega)];exact B4t
   simp (disch:=first|omega|(with_unfolding_all exact rfl)|(simp only[new_n,put_n,new_m];omega)|(refine put_m_le ?_;simp only[new_m];omega)) only [Abs.W,reduceIte,Nat.reduceEqDiff,Nat.reduceAdd,decide_true,decide_false,kLoop_def,Nat.reduceSub,List.cons_append,List.nil_append,List.append_nil,List.length_cons,List.length_nil,Env.find_set,B5,B5w,e0,e1,F1,F1w,ll,okS,p1,p4,ge_iff_le,ec,B5t,B4p,okR,coS,leave_nil,Nat.zero_add]
   have gg:∀ o1 o2 c,c≠u+4→c≠u+5→((t.put (u+5) o1).put (u+4) o2).h.get c=t.h.get c:=fun o1 o2 c h1 h2=>by rw [get_put_ne' _ _ _ _ h1,get_put_ne' _ _ _ _ h2]
   refine ⟨_,_,rfl,⟨rfl,fun c hc h4 h5 _=>?_,Pw.grow (fun c hc hb=>?_) ?_,⟨?_,.slice bc 0 pre.length pre.length true,get_put_eq _ _ _ _ rfl (by omega),bc,rfl,by omega,hbc2,fun h=>?_,?_⟩,?_,?_,fun k hk=>?_,?_⟩,fun _ hle=>?_⟩
   ·rw [gg _ _ _ h4 h5,tg c (by omega),wg c (by omega),uh]
   ·have:=p6 c hb
    rw [gg _ _ _ (by omega) (by omega),tg c hc]
   ·show w.n≤t.n;omega
   ·rw [get_put_ne' _ _ _ _ (by omega)];exact get_put_eq _ _ _ _ rfl (by omega)
   ·have:=p6 bc h;omega
   ·rw [gg _ _ _ (by omega) (by omega)];exact hbc3
   ·show s.n≤t.n;omega
   ·show t.n≤s.n+10;omega
   ·simp only [St.put,minN_eq];omega
   ·left;simp only [St.put,minN_eq];omega
   ·simp only [St.put,minN_eq] at hle;omega)
 obtain ⟨q1,q2,q3,q4,q5,q6,q7⟩:=q
 refine ⟨t,e,q1,q2,q3,q4,q5,fun k hk hk2=>?_,?_,?_⟩
 ·have:=q6 k hk
  rcases hm' with ⟨_,hm'⟩ | ⟨_,hm'⟩<;>omega
 ·rcases hm' with ⟨_,hm'⟩ | ⟨_,hm'⟩<;>omega
 ·rcases q7 with q7 | q7
  ·left
   rcases hm' with ⟨_,hm'⟩ | ⟨_,hm'⟩<;>omega
  ·exact .inr q7
end Go.Proofs.Ytkoefjgapmonaaa.walk
set_option maxRecDepth 10000
namespace Go.Proofs.Ytkoefjgapmonaaa.walk
open Go.Abs Go.Proofs.Ytkoefjgapmonaaa.code
theorem endO_okC {M:Env} {l:List (Nat × Nat)} (s:St) (h:endOk M l=true):endO l (.ok M s)=.ok M s:=by
 show (match endOk M l with | true=>ORes.ok M s | false=>.fail)=_
 rw [h]
theorem endOk_nilC (M:Env):endOk M []=true:=rfl
theorem endOk_consC {M:Env} {t u:Nat} {r:List (Nat × Nat)} (h:apartA (M.find t) (M.find u)=true):endOk M ((t,u)::r)=endOk M r:=by
 show (match apartA (M.find t) (M.find u) with | true=>endOk M r | false=>false)=_
 rw [h]
theorem apart_block {v:AV} {c o:Nat} (h:blockOf v≠some c):apartA v (.ptr c o)=true:=by
 unfold apartA
 cases hv:blockOf v with
 | none=>rfl
 | some b =>
  rw [hv] at h
  simp only [blockOf]
  rw [nbeq_f (fun e=>h (by rw [e]))]
  rfl
theorem try_round {M:Nat} (hM:6≤M) (cx:Ctx) {u bv z q i szq:Nat} {g until_:Int} {vs0 vs1:List Int} {x:BoxNow} {v vp:AV} {fs:List (Int × Int)} {pre:List Nat} {many:Nat} {b:Few} {t:St} {L:Env} (hg:0≤g∧g≤1000000) (hu:until_≤1000)
  (IH:TryOk M g until_ vs0 vs1) (hdrop:vs0.drop (pre.length+1)=vs1) (hpl:pre.length+1≤vs0.length) (hl1:pre.length≤1) (F:FBox t.h u bv g until_ vs0) (Bb:BestAt t.h t.n u vp b) (P:PreAt t.h t.n (u+7) vp pre) (gq:t.h.get q=some (.cells (x.cells v) szq)) (hq:u+7≤q∧q<t.n∧blockOf vp≠some q) (hR:Rests t.h z z v fs) (hx:x.Fits) (hm:0≤x.m0∧x.m0≤1000000∧0≤x.m1∧x.m1≤1000000) (hk:fs.length≤1000) (hzu:z≤u) (hun:u+7≤t.n) (hs:t.n+100020+kay vs1.length≤far) (h0x:0≤x.hour) (hord:x.hour≤nextOf until_ vs1) (hord2:vs1≠[]→nextOf until_ vs1≤nextOf until_ vs1.tail) (hmany:many≤5 * pre.length) (hi:i<6) (hmf:t.m≤far)
  (l1:L.find 1=vp) (l2:L.find 2=.int .i64 (many:Int)) (l3:L.find 3=.ptr (u+5) 0) (l4:L.find 4=.ptr (u+1) 0) (l5:L.find 5=.ptr (u+4) 0) (l6:L.find 6=.ptr (u+3) 0) (l7:L.find 7=.ptr (u+2) 0) (l8:L.find 8=.ptr (u+6) 0) (l9:L.find 9=.ptr q 0) (l12:L.find 12=.int .i64 (nextOf until_ vs1)) (l41:L.find 41=.int .i64 (i:Int)) :
  ∃ L1 t1,K53l0 (call Try.prog X M) cx L [] t=.done .norm L1 [] t1∧(L1.find 1=vp∧L1.find 2=.int .i64 (many:Int)∧L1.find 3=.ptr (u+5) 0∧L1.find 4=.ptr (u+1) 0∧L1.find 5=.ptr (u+4) 0∧L1.find 6=.ptr (u+3) 0∧L1.find 7=.ptr (u+2) 0∧L1.find 8=.ptr (u+6) 0∧L1.find 9=.ptr q 0∧L1.find 12=.int .i64 (nextOf until_ vs1)∧L1.find 41=.int .i64 ((i+1:Nat):Int))∧TryPost u vp pre t t1 b (tryStep g until_ vs1 pre many x fs b i) (20+kay vs1.length):=by
 have hf:far=1000000000:=rfl
 obtain ⟨sz2,F2⟩:=F.f2
 obtain ⟨sz6,F6⟩:=F.f6
 obtain ⟨p1,p2,p3,p4,p5,p6⟩:=P.use
 have hsc:scalars [v]=true:=hR.sc
 obtain ⟨w,hw⟩:∃ w:St,w=(t.new (.cells [.int .i64 0,.int .i64 0,.int .i64 0,.int .i64 0,.int .i64 0,.int .i64 0,.int .i64 0,.int .i64 0,.int .i64 0,.int .i64 0,.int .i64 0,.int .i64 0,.nilslice] (tag 77))).put t.n (.cells (x.cells v) (tag 77)):=⟨_,rfl⟩
 have wn:w.n=t.n+1:=by rw [hw];rfl
 have wm:w.m=min t.m t.n:=by rw [hw];simp only [St.put,minN_eq,new_m]
 have wg:∀ c,c<t.n→w.h.get c=t.h.get c:=fun c hc=>by rw [hw,get_put_ne' _ _ _ _ (by omega),get_new_ne _ _ _ (by omega)]
 have wp:w.h.get t.n=some (.cells (x.cells v) (tag 77)):=by rw [hw];exact get_put_eq _ _ _ _ rfl (by omega)
 have F2w:=(wg (u+2) (by omega)).trans F2
 have hRw:Rests w.h z t.n v fs:=(hR.move (by omega)).grow fun c h1 h2=>wg c (by omega)
 obtain ⟨m,hm0⟩:∃ m:Nat,nextOf until_ vs1=x.hour+m:=⟨(nextOf until_ vs1 - x.hour).toNat,by omega⟩
 have hmn:(nextOf until_ vs1 - x.hour).toNat=m:=by omega
 have hnx:nextOf until_ vs1≤until_:=by unfold nextOf;omega
 obtain ⟨t2,e2,o1,o2,o3,o4,o5,o6⟩:=lasts_ex (N:=M) (s:=w) (p:=t.n) (n:=i) (g:=g) (next:=nextOf until_ vs1) m rfl (by omega) wp hRw hx hm hg (by omega) hk (by omega) (by omega) (by omega) hm0 h0x (by omega)
 have e0:decide ((i:Int)<6)=true:=decide_eq_true (by omega)
 have ad1:∀ st,aAdd st .i64 (i:Int) 1=.val (.int .i64 ((i+1:Nat):Int)) st:=fun st=>aAdd_i64 st _ _ (by omega)
 have hstep:tryStep g until_ vs1 pre many x fs b i=match lstX g m i x fs with | none=>b | some y=>tryC g until_ vs1 (pre++[i]) (many+i) y.1 y.2 b:=by unfold tryStep;first | (rw [hmn];done) | (rw [hmn];cases lstX g m i x fs<;>rfl)
 have gq':=gq
 have hc0:x.cells v=[.int .i64 x.room,.int .i64 x.a1,.int .i64 x.a2,.int .i64 x.m0,.int .i64 x.m1,.int .i64 x.a5,.int .i64 x.a6,.int .i64 x.a7,.int .i64 x.a8,.int .i64 x.hour,.int .i64 x.i0,.int .i64 x.i1,v]:=rfl
 rw [hc0] at gq' hw
 have g2u:∀ c,c<t.n→t2.h.get c=t.h.get c:=fun c hc=>(o1 c (by omega) (by omega)).trans (wg c hc)
 simp (disch:=first|omega|(with_unfolding_all exact rfl)|(simp only[new_n,put_n,new_m];omega)|(refine put_m_le ?_;simp only[new_m];omega)) only [K53l0,res53,K53r0,K53r1,K53r2,K53r3,K53r4,K53r5,K53r6,K53r7,K53r8,K53r9,K53r10,K53r11,K53r12,K53r13,K53r14,K53,Abs.W,reduceIte,Nat.reduceEqDiff,Nat.reduceAdd,decide_true,decide_false,kLoop_def,Nat.reduceSub,List.cons_append,List.nil_append,List.append_nil,List.length_cons,List.length_nil,Env.find_set,l9,l41,e0,gq',hsc,Nat.zero_add]
 rw [← hw]
 cases hl:lstX g m i x fs with
 | none =>
  rw [hl] at e2 hstep
  simp only [Option.isSome_none] at e2
  rw [hstep]
  simp (disch:=first|omega|(with_unfolding_all exact rfl)|(simp only[new_n,put_n,new_m];omega)|(refine put_m_le ?_;simp only[new_m];omega)) only [Abs.W,reduceIte,Nat.reduceEqDiff,Nat.reduceAdd,decide_true,decide_false,kLoop_def,Nat.reduceSub,List.cons_append,List.nil_append,List.append_nil,List.length_cons,List.length_nil,Env.find_set,l7,l12,l41,F2,F2w,e2,ad1,Nat.zero_add]
  refine ⟨_,_,rfl,⟨?_,?_,?_,?_,?_,?_,?_,?_,?_,?_,?_⟩,fun c hc _ _ _=>g2u c hc,P.grow (fun c hc _=>g2u c hc) (by omega),Bb.grow (g2u _ (by omega)) (g2u _ (by omega)) (fun c h1 h2 h3=>⟨g2u c h2,h3⟩) (by omega),by omega,by omega,fun k hk1 hk2=>o4 k (by omega) (by omega),by omega,.inr rfl⟩
  all_goals simp only [Env.find_set,l1,l2,l3,l4,l5,l6,l7,l8,l9,l12,reduceIte,Nat.reduceEqDiff]
 | some y =>
  obtain ⟨y1,y2⟩:=y
  rw [hl] at e2 hstep
  simp only [Option.isSome_some] at e2
  rw [hstep]
  obtain ⟨v',gp2,hR2⟩:=o6 y1 y2 hl
  obtain ⟨z1,z2,⟨z3,z4,z5⟩,z6,z7⟩:=lstX_spec hg m i x fs (y1,y2) hx hm hR.grams hl
  simp only at z1 z2 z3 z4 z5 z6 z7
  have hsc2:=hR2.sc
  have hc1:y1.cells v'=[.int .i64 y1.room,.int .i64 y1.a1,.int .i64 y1.a2,.int .i64 y1.m0,.int .i64 y1.m1,.int .i64 y1.a5,.int .i64 y1.a6,.int .i64 y1.a7,.int .i64 y1.a8,.int .i64 y1.hour,.int .i64 y1.i0,.int .i64 y1.i1,v']:=rfl
  obtain ⟨t3,ht3⟩:∃ t3:St,t3=t2.new (.cells [.int .i64 (i:Int)] 0):=⟨_,rfl⟩
  have t3n:t3.n=t2.n+1:=by rw [ht3];rfl
  have t3m:t3.m=t2.m:=by rw [ht3];rfl
  have t3g:∀ c,c<t2.n→t3.h.get c=t2.h.get c:=fun c hc=>by rw [ht3,get_new_ne _ _ _ (by omega)]
  have t3p:t3.h.get t2.n=some (.cells [.int .i64 (i:Int)] 0):=by rw [ht3];exact get_new_eq _ _ _ rfl (by omega)
  have P3:PreAt t3.h t3.n (u+7) vp pre:=P.grow (fun c hc _=>(t3g c (by omega)).trans (g2u c hc)) (by omega)
  obtain ⟨vp',t4,e4,P4,P4',t4n,t4g,t4k,t4l,b1,b2⟩:=pre_append P3 hl1 t3p (by omega) (by omega)
  have hbl:∀ c,c<t.n→blockOf vp≠some c→blockOf vp'≠some c:=fun c hc h1 h2=>by
   rcases b1 c h2 with h | h
   ·exact h1 h
   ·omega
  have g4u:∀ c,c<t.n→blockOf vp≠some c→t4.h.get c=t.h.get c:=fun c hc hb=>(t4g c (by omega) hb).trans ((t3g c (by omega)).trans (g2u c hc))
  have nb:∀ c,c<u+7→blockOf vp≠some c:=fun c hc h=>by have:=p6 c h;omega
  have hadd:∀ st,aAdd st .i64 (many:Int) (i:Int)=.val (.int .i64 ((many+i:Nat):Int)) st:=fun st=>by rw [aAdd_i64 st _ _ (by omega)];congr 1
  obtain ⟨t5,e5,po⟩:=IH t4 y1 v' vp' y2 (pre++[i]) (many+i) b u bv z (by rw [List.length_append,List.length_singleton];exact hdrop) (by rw [List.length_append,List.length_singleton];exact hpl) (F.grow fun c hc _ _=>g4u c (by omega) (nb c hc)) (Bb.grow (g4u _ (by omega) (nb _ (by omega))) (g4u _ (by omega) (nb _ (by omega))) (fun c h1 h2 h3=>⟨g4u c h2 h3,hbl c h2 h3⟩) (by omega)) P4 ((hR2.move (Nat.le_refl z)).grow fun c h1 h2=>(t4g c (by omega) (nb c (by omega))).trans (t3g c (by omega))) z2 (by rw [z3,z4];exact hm) (by omega) hzu (by omega) (by omega) (by omega) (fun h=>by have:=hord2 h;omega) (by rw [List.length_append,List.length_singleton];omega)
  obtain ⟨r1,r2,r3,r4,r5,r6,r7,r8⟩:=po
  rw [hc1] at e5 gp2
  have F6a:=(g2u (u+6) (by omega)).trans F6
  have ap1:apartA vp (.ptr (u+6) 0)=true:=apart_block (nb _ (by omega))
  have ap2:apartA vp (.ptr t.n 0)=true:=apart_block (fun h=>by have:=p6 _ h;omega)
  have okF:∀ t,okA (.val vp t)=.val vp t:=p4
  have okp:∀ t,okA (.val vp' t)=.val vp' t:=P4.use.ok
  have coI:cellsOf 1 (.int .i64 (i:Int))=some [.int .i64 (i:Int)]:=rfl
  simp (disch:=first|omega|(with_unfolding_all exact rfl)|(simp only[new_n,put_n,new_m];omega)|(refine put_m_le ?_;simp only[new_m];omega)) only [Abs.W,reduceIte,Nat.reduceEqDiff,Nat.reduceAdd,decide_true,decide_false,kLoop_def,Nat.reduceSub,List.cons_append,List.nil_append,List.append_nil,List.length_cons,List.length_nil,Env.find_set,l1,l2,l7,l8,l12,l41,F2,F2w,e2,okA_func,F6a,gp2,hsc2,p4,p5,coI,Nat.zero_add]
  rw [← ht3]
  simp (disch:=first|omega|(with_unfolding_all exact rfl)|(simp only[new_n,put_n,new_m];omega)|(refine put_m_le ?_;simp only[new_m];omega)) only [Abs.W,reduceIte,Nat.reduceEqDiff,Nat.reduceAdd,decide_true,decide_false,kLoop_def,Nat.reduceSub,List.cons_append,List.nil_append,List.append_nil,List.length_cons,List.length_nil,Env.find_set,l1,l2,l7,l8,l12,l41,e4,okp,hadd,e5,Nat.zero_add]
  rw [endO_okC]
  rotate_left
  ·refine (endOk_consC ?_).trans ((endOk_consC ?_).trans (endOk_nilC _))
   ·simp only [Env.find_set,find_cons,l8,reduceIte,Nat.reduceEqDiff];exact ap1
   ·simp only [Env.find_set,find_cons,reduceIte,Nat.reduceEqDiff];exact ap2
  simp (disch:=first|omega|(with_unfolding_all exact rfl)|(simp only[new_n,put_n,new_m];omega)|(refine put_m_le ?_;simp only[new_m];omega)) only [Abs.W,reduceIte,Nat.reduceEqDiff,Nat.reduceAdd,decide_true,decide_false,kLoop_def,Nat.reduceSub,List.cons_append,List.nil_append,List.append_nil,List.length_cons,List.length_nil,Env.find_set,l41,ad1,Nat.zero_add]
  refine ⟨_,_,rfl,⟨?_,?_,?_,?_,?_,?_,?_,?_,?_,?_,?_⟩,fun c hc h4 h5 hb=>(r1 c (by omega) h4 h5 (hbl c hc hb)).trans (g4u c hc hb),pre_back r2 P b2,r3.grow rfl rfl (fun c _ _ h3=>⟨rfl,fun h=>h3 (b2 c h)⟩) (Nat.le_refl _),by omega,by omega,fun k hk1 hk2=>r6 k hk1 (t4k k (by omega) (by have:=o4 k (by omega) (by omega);omega)),by omega,r8⟩
  all_goals simp only [Env.find_set,l1,l2,l3,l4,l5,l6,l7,l8,l9,l12,reduceIte,Nat.reduceEqDiff]
end Go.Proofs.Ytkoefjgapmonaaa.walk
set_option maxRecDepth 10000
namespace Go.Proofs.Ytkoefjgapmonaaa.walk
open Go.Abs Go.Proofs.Ytkoefjgapmonaaa.code
theorem ixs_slice_0 (s:St) (b o n:Nat) {c:Nat} {e:Bool} (h:0<n):ixsA 1 s (.slice b o n c e) (.int .i64 0)=.val (.ptr b o) s:=by
 have:=ixs_slice 1 s b o n c e 0 h
 rw [Nat.zero_mul,Nat.add_zero] at this
 exact this
theorem TryPost.refl {u:Nat} {vp:AV} {pre:List Nat} {s:St} {b:Few} (P:PreAt s.h s.n (u+7) vp pre) (B:BestAt s.h s.n u vp b):TryPost u vp pre s s b b 0 :=
 ⟨fun _ _ _ _ _=>rfl,P,B,Nat.le_refl _,Nat.le_refl _,fun _ _ h=>h,Nat.le_refl _,.inr rfl⟩
theorem TryPost.trans {u:Nat} {vp:AV} {pre:List Nat} {s t w:St} {b b1 b2:Few} {k1 k2:Nat} (a:TryPost u vp pre s t b b1 k1) (c:TryPost u vp pre t w b1 b2 k2):TryPost u vp pre s w b b2 (k1+k2):=by
 obtain ⟨a1,a2,a3,a4,a5,a6,a7,a8⟩:=a
 obtain ⟨c1,c2,c3,c4,c5,c6,c7,c8⟩:=c
 refine ⟨fun x h1 h2 h3 h4=>(c1 x (by omega) h2 h3 h4).trans (a1 x h1 h2 h3 h4),c2,c3,by omega,by omega,fun k h1 h2=>c6 k h1 (a6 k h1 h2),by omega,?_⟩
 rcases c8 with c8 | c8
 ·exact .inl c8
 ·rcases a8 with a8 | a8
  ·left;omega
  ·right;rw [c8,a8]
theorem try_node {M:Nat} (hM:6≤M) {g until_:Int} {vs0 vs1:List Int} {v0:Int} (hg:0≤g∧g≤1000000) (hu:until_≤1000) (hv2:vs0.length≤2) (IH:TryOk M g until_ vs0 vs1):TryOk (M+1) g until_ vs0 (v0::vs1):=by
 intro s x v vp fs pre many b u bv z hdrop hpl F Bb P hR hx hm hk hzu hun hs h0x hord hmany
 have hf:far=1000000000:=rfl
 have hlen:vs0.length=pre.length+1+vs1.length:=by
  have:=congrArg List.length hdrop
  rw [List.length_drop,List.length_cons] at this
  omega
 have hdrop1:vs0.drop (pre.length+1)=vs1:=by
  rw [← List.drop_drop,hdrop];rfl
 have hord1:x.hour≤nextOf until_ vs1:=hord (by simp)
 have hord2:vs1≠[]→nextOf until_ vs1≤nextOf until_ vs1.tail:=fun h=>by
  match vs1,h,hlen with
  | [a],_,_=>show min a until_≤min until_ until_;omega
  | _::_::_,_,hl=>simp only [List.length_cons] at hl;omega
 have hkay:kay (v0::vs1).length=6 * (20+kay vs1.length)+10:=rfl
 rw [hkay] at hs ⊢
 obtain ⟨w,t,mm,e,⟨rfl,q⟩,hm'⟩:=call_any (n:=M) (args:=[.agg (x.cells v),vp,.int .i64 (many:Int),.ptr (u+5) 0,.ptr (u+1) 0,.ptr (u+4) 0,.ptr (u+3) 0,.ptr (u+2) 0,.ptr (u+6) 0]) (s:=s) (Q:=fun w h n m'=>w=.tup []∧(∀ c,c<s.n→c≠u+4→c≠u+5→blockOf vp≠some c→h.get c=s.h.get c)∧PreAt h n (u+7) vp pre∧BestAt h n u vp (tryC g until_ (v0::vs1) pre many x fs b)∧s.n≤n∧n≤s.n+(6 * (20+kay vs1.length)+10)∧(∀ k,k≤u→k≤m')∧(m'≤u+5∨tryC g until_ (v0::vs1) pre many x fs b=b)) Try.func53 rfl (fun U uh un um=>by
  have F':=F
  have Bb':=Bb
  have P':=P
  have hR':=hR
  rw [← uh] at F' Bb' P' hR'
  obtain ⟨sz1,F1⟩:=F'.f1
  obtain ⟨sz3,F3⟩:=F'.f3
  obtain ⟨szv,Fv⟩:=F'.fv
  have hbv:=F'.bvu
  have B5:=Bb'.bound
  obtain ⟨p1,p2,p3,p4,p5,p6⟩:=P'.use
  obtain ⟨w,hw⟩:∃ w:St,w=U.new (.cells (x.cells v) (tag 77)):=⟨_,rfl⟩
  have wn:w.n=U.n+1:=by rw [hw];rfl
  have wm:w.m=far:=by rw [hw];exact um
  have wg:∀ c,c<U.n→w.h.get c=U.h.get c:=fun c hc=>by rw [hw,get_new_ne _ _ _ (by omega)]
  have wq:w.h.get U.n=some (.cells (x.cells v) (tag 77)):=by rw [hw];exact get_new_eq _ _ _ rfl (by omega)
  have B5w:=(wg (u+5) (by omega)).trans B5
  have F1w:=(wg (u+1) (by omega)).trans F1
  have F3w:=(wg (u+3) (by omega)).trans F3
  have Fvw:=(wg bv (by omega)).trans Fv
  have Pw:PreAt w.h w.n (u+7) vp pre:=P'.grow (fun c hc _=>wg c (by omega)) (by omega)
  have Bw:BestAt w.h w.n u vp b:=Bb'.grow (wg _ (by omega)) (wg _ (by omega)) (fun c h1 h2 h3=>⟨wg c (by omega),h3⟩) (by omega)
  have Fw:FBox w.h u bv g until_ vs0:=F'.grow fun c hc _ _=>wg c (by omega)
  have Rw:Rests w.h z z v fs:=hR'.grow fun c h1 h2=>wg c (by omega)
  rw [enter53]
  by_cases hb:b.1≤many
  ·have e0:decide ((b.1:Int)≤(many:Int))=true:=decide_eq_true (by omega)
   have hT:tryC g until_ (v0::vs1) pre many x fs b=b:=by rw [tryC_cons,if_pos hb]
   rw [hT]
   simp (disch:=first|omega|(with_unfolding_all exact rfl)|(simp only[new_n,put_n,new_m];omega)|(refine put_m_le ?_;simp only[new_m];omega)) only [res53,K53r0,K53r1,K53r2,K53r3,K53r4,K53r5,K53r6,K53r7,K53r8,K53r9,K53r10,K53r11,K53r12,K53r13,K53r14,K53,Abs.W,reduceIte,Nat.reduceEqDiff,Nat.reduceAdd,decide_true,decide_false,kLoop_def,Nat.reduceSub,List.cons_append,List.nil_append,List.append_nil,List.length_cons,List.length_nil]
   rw [← hw]
   simp (disch:=first|omega|(with_unfolding_all exact rfl)|(simp only[new_n,put_n,new_m];omega)|(refine put_m_le ?_;simp only[new_m];omega)) only [Abs.W,reduceIte,Nat.reduceEqDiff,Nat.reduceAdd,decide_true,decide_false,kLoop_def,Nat.reduceSub,List.cons_append,List.nil_append,List.append_nil,List.length_cons,List.length_nil,Env.find_set,B5,B5w,e0,ge_iff_le,leave_nil,Nat.zero_add]
   exact ⟨_,_,rfl,⟨rfl,fun c hc _ _ _=>by rw [wg c (by omega),uh],Pw,Bw,by omega,by omega,fun k hk=>by omega,.inr trivial⟩,fun _ hle=>⟨rfl,fun _ _ _ _ _=>trivial,P,Bb,Nat.le_refl _,by omega,fun k hk=>by omega,.inr trivial⟩⟩
  ·have e0:decide ((b.1:Int)≤(many:Int))=false:=decide_eq_false (by omega)
   have e1:decide ((pre.length:Int)=(vs0.length:Int))=false:=decide_eq_false (by omega)
   have hT:tryC g until_ (v0::vs1) pre many x fs b=(List.range 6).foldl (tryStep g until_ vs1 pre many x fs) b:=by rw [tryC_cons,if_neg hb]
   rw [hT]
   have ll:∀ s,lenSlA s (.slice bv 0 vs0.length vs0.length true)=.val (.int .i64 (vs0.length:Int)) s:=fun _=>rfl
   have okS:∀ t,okA (.val (.slice bv 0 vs0.length vs0.length true) t)=.val (.slice bv 0 vs0.length vs0.length true) t:=fun _=>rfl
   have ad:∀ st,aAdd st .i64 (pre.length:Int) 1=.val (.int .i64 ((pre.length+1:Nat):Int)) st:=fun st=>aAdd_i64 st _ _ (by omega)
   -- the loop
   have loop:∀ (L:Env) (r:R),loopN K53l0 rounds (call Try.prog X M) ⟨53,none,Try.f53.ntmps,X 53⟩ L [] w=r→(L.find 1=vp∧L.find 2=.int .i64 (many:Int)∧L.find 3=.ptr (u+5) 0∧L.find 4=.ptr (u+1) 0∧L.find 5=.ptr (u+4) 0∧L.find 6=.ptr (u+3) 0∧L.find 7=.ptr (u+2) 0∧L.find 8=.ptr (u+6) 0∧L.find 9=.ptr U.n 0∧L.find 12=.int .i64 (nextOf until_ vs1)∧L.find 41=.int .i64 0)→∃ L1 t,r=.done (.exit 0) L1 [] t∧TryPost u vp pre w t b ((List.range 6).foldl (tryStep g until_ vs1 pre many x fs) b) (6 * (20+kay vs1.length)):=by
    intro L r hlp ⟨l1,l2,l3,l4,l5,l6,l7,l8,l9,l12,l41⟩
    obtain ⟨e,L1,t,rfl,rfl,j⟩:=loop_of hlp
     (fun i L t=>(L.find 1=vp∧L.find 2=.int .i64 (many:Int)∧L.find 3=.ptr (u+5) 0∧L.find 4=.ptr (u+1) 0∧L.find 5=.ptr (u+4) 0∧L.find 6=.ptr (u+3) 0∧L.find 7=.ptr (u+2) 0∧L.find 8=.ptr (u+6) 0∧L.find 9=.ptr U.n 0∧L.find 12=.int .i64 (nextOf until_ vs1)∧L.find 41=.int .i64 (i:Int))∧TryPost u vp pre w t b ((List.range i).foldl (tryStep g until_ vs1 pre many x fs) b) (i * (20+kay vs1.length)))
     (fun e L t=>e=.exit 0∧TryPost u vp pre w t b ((List.range 6).foldl (tryStep g until_ vs1 pre many x fs) b) (6 * (20+kay vs1.length))) 6 (by unfold rounds;omega)
     ⟨⟨l1,l2,l3,l4,l5,l6,l7,l8,l9,l12,l41⟩,by rw [Nat.zero_mul];exact TryPost.refl Pw Bw⟩
     (fun i L t hi ⟨⟨l1,l2,l3,l4,l5,l6,l7,l8,l9,l12,l41⟩,po⟩=>by
      by_cases hlt:i<6
      ·have hmul:i * (20+kay vs1.length)≤5 * (20+kay vs1.length):=Nat.mul_le_mul_right _ (by omega)
       have po':=po
       obtain ⟨a1,a2,a3,a4,a5,a6,a7,a8⟩:=po
       have nb:∀ c,c<u+7→blockOf vp≠some c:=fun c hc h=>by have:=p6 c h;omega
       obtain ⟨L1,t1,w1,w2,w3⟩:=try_round hM ⟨53,none,Try.f53.ntmps,X 53⟩ (z:=z) (v:=v) (x:=x) (fs:=fs) hg hu IH hdrop1 (by omega) (by omega) (Fw.grow fun c hc h4 h5=>a1 c (by omega) h4 h5 (nb c hc)) a3 a2 ((a1 U.n (by omega) (by omega) (by omega) (fun h=>by have:=p6 _ h;omega)).trans wq) ⟨by omega,by omega,fun h=>by have:=p6 _ h;omega⟩ (Rw.grow fun c h1 h2=>a1 c (by omega) (by omega) (by omega) (nb c (by omega))) hx hm hk hzu (by omega) (by omega) h0x hord1 hord2 hmany hlt (by omega) l1 l2 l3 l4 l5 l6 l7 l8 l9 l12 l41
       refine .inl ⟨hlt,L1,t1,w1,w2,?_⟩
       rw [fold_snoc,Nat.succ_mul]
       exact po'.trans w3
      ·obtain rfl:i=6:=by omega
       have e0:decide (((6:Nat):Int)<6)=false:=rfl
       refine .inr ⟨.exit 0,L.set 42 (.bool false),t,by simp,?_,rfl,po⟩
       simp (disch:=first|omega|(with_unfolding_all exact rfl)|(simp only[new_n,put_n,new_m];omega)|(refine put_m_le ?_;simp only[new_m];omega)) only [K53l0,res53,K53r0,K53r1,K53r2,K53r3,K53r4,K53r5,K53r6,K53r7,K53r8,K53r9,K53r10,K53r11,K53r12,K53r13,K53r14,K53,Abs.W,reduceIte,Nat.reduceEqDiff,Nat.reduceAdd,decide_true,decide_false,kLoop_def,Nat.reduceSub,List.cons_append,List.nil_append,List.append_nil,List.length_cons,List.length_nil,Env.find_set,l41,e0,Nat.zero_add])
    exact ⟨L1,t,rfl,j⟩
   -- behind it
   have fin:∀ t,TryPost u vp pre w t b ((List.range 6).foldl (tryStep g until_ vs1 pre many x fs) b) (6 * (20+kay vs1.length))→(∀ c,c<s.n→c≠u+4→c≠u+5→blockOf vp≠some c→t.h.get c=s.h.get c)∧PreAt t.h t.n (u+7) vp pre∧BestAt t.h t.n u vp ((List.range 6).foldl (tryStep g until_ vs1 pre many x fs) b)∧s.n≤t.n∧t.n≤s.n+(6 * (20+kay vs1.length)+10)∧(∀ k,k≤u→k≤t.m)∧(t.m≤u+5∨(List.range 6).foldl (tryStep g until_ vs1 pre many x fs) b=b):=fun t po=>by
    obtain ⟨a1,a2,a3,a4,a5,a6,a7,a8⟩:=po
    exact ⟨fun c h1 h2 h3 h4=>by rw [a1 c (by omega) h2 h3 h4,wg c (by omega),uh],a2,a3,by omega,by omega,fun k hk=>a6 k hk (by omega),a8⟩
   have fin2:∀ t,TryPost u vp pre w t b ((List.range 6).foldl (tryStep g until_ vs1 pre many x fs) b) (6 * (20+kay vs1.length))→s.n≤t.m→(List.range 6).foldl (tryStep g until_ vs1 pre many x fs) b=b:=fun t po hle=>by
    rcases po.or with h | h
    ·omega
    ·exact h
   obtain ⟨b',hb'⟩:∃ b',b'=(List.range 6).foldl (tryStep g until_ vs1 pre many x fs) b:=⟨_,rfl⟩
   rw [← hb'] at loop fin fin2 ⊢
   match vs1,hlen,hdrop1,loop with
   | [],hlen,hdrop1,loop =>
    have hn0:nextOf until_ ([]:List Int)=until_:=by show min until_ until_=until_;omega
    rw [hn0] at loop
    have hl1:vs0.length=pre.length+1:=by simpa using hlen
    have hsl:∀ st,sliceVal 1 (some (.int .i64 ((pre.length+1:Nat):Int))) none st (.slice bv 0 vs0.length vs0.length true)=.val (.tail bv (0+(pre.length+1) * 1)) st:=fun st=>by rw [hl1];exact slice_end 1 st bv 0 _ _ (Nat.le_refl _) (Nat.le_refl _)
    have lt:∀ s b o,lenSlA s (.tail b o)=.val (.int .i64 0) s:=fun _ _ _=>rfl
    have okT:∀ t b o,okA (.val (.tail b o) t)=.val (.tail b o) t:=fun _ _ _=>rfl
    have g0:decide ((0:Int)<0)=false:=rfl
    simp (disch:=first|omega|(with_unfolding_all exact rfl)|(simp only[new_n,put_n,new_m];omega)|(refine put_m_le ?_;simp only[new_m];omega)) only [res53,K53r0,K53r1,K53r2,K53r3,K53r4,K53r5,K53r6,K53r7,K53r8,K53r9,K53r10,K53r11,K53r12,K53r13,K53r14,K53,Abs.W,reduceIte,Nat.reduceEqDiff,Nat.reduceAdd,decide_true,decide_false,kLoop_def,Nat.reduceSub,List.cons_append,List.nil_append,List.append_nil,List.length_cons,List.length_nil]
    rw [← hw]
    simp (disch:=first|omega|(with_unfolding_all exact rfl)|(simp only[new_n,put_n,new_m];omega)|(refine put_m_le ?_;simp only[new_m];omega)) only [Abs.W,reduceIte,Nat.reduceEqDiff,Nat.reduceAdd,decide_true,decide_false,kLoop_def,Nat.reduceSub,List.cons_append,List.nil_append,List.append_nil,List.length_cons,List.length_nil,Env.find_set,B5,B5w,e0,e1,F1,F1w,F3,F3w,ll,okS,p1,p4,ad,hsl,lt,okT,g0,kSlice_def,optEv_some,optEv_none,ge_iff_le,leave_nil,Nat.zero_add]
    generalize hlp:loopN _ rounds _ _ _ _ _=r1
    obtain ⟨L1,t,rfl,po⟩:=loop _ _ hlp ⟨by simp only [find_cons,Env.find_set,reduceIte,Nat.reduceEqDiff],by simp only [find_cons,Env.find_set,reduceIte,Nat.reduceEqDiff],by simp only [find_cons,Env.find_set,reduceIte,Nat.reduceEqDiff],by simp only [find_cons,Env.find_set,reduceIte,Nat.reduceEqDiff],by simp only [find_cons,Env.find_set,reduceIte,Nat.reduceEqDiff],by simp only [find_cons,Env.find_set,reduceIte,Nat.reduceEqDiff],by simp only [find_cons,Env.find_set,reduceIte,Nat.reduceEqDiff],by simp only [find_cons,Env.find_set,reduceIte,Nat.reduceEqDiff],by simp only [find_cons,Env.find_set,reduceIte,Nat.reduceEqDiff],by simp only [find_cons,Env.find_set,reduceIte,Nat.reduceEqDiff],by simp only [find_cons,Env.find_set,reduceIte,Nat.reduceEqDiff]⟩
    simp (disch:=first|omega|(with_unfolding_all exact rfl)|(simp only[new_n,put_n,new_m];omega)|(refine put_m_le ?_;simp only[new_m];omega)) only [Abs.W,reduceIte,Nat.reduceEqDiff,Nat.reduceAdd,decide_true,decide_false,kLoop_def,Nat.reduceSub,List.cons_append,List.nil_append,List.append_nil,List.length_cons,List.length_nil,leave_nil]
    exact ⟨_,_,rfl,⟨rfl,fin t po⟩,fun _ hle=>⟨rfl,fun _ _ _ _ _=>trivial,P,by rw [fin2 t po hle];exact Bb,Nat.le_refl _,by omega,(fin t po).2.2.2.2.2.1,.inr (fin2 t po hle)⟩⟩
   | [a],hlen,hdrop1,loop =>
    have hl1:vs0.length=pre.length+1+1:=by simpa using hlen
    have hp0:pre.length=0:=by omega
    have hsl:∀ st,sliceVal 1 (some (.int .i64 ((pre.length+1:Nat):Int))) none st (.slice bv 0 vs0.length vs0.length true)=.val (.slice bv (0+(pre.length+1) * 1) (vs0.length - (pre.length+1)) (vs0.length - (pre.length+1)) true) st:=fun st=>slice_from 1 st bv 0 _ _ _ _ (Nat.le_refl _) (by omega) (by omega)
    have lt:∀ s b o n c,lenSlA s (.slice b o n c true)=.val (.int .i64 (n:Int)) s:=fun _ _ _ _ _=>rfl
    have okT:∀ t b o n c,okA (.val (.slice b o n c true) t)=.val (.slice b o n c true) t:=fun _ _ _ _ _=>rfl
    have g0:decide ((0:Int)<((vs0.length - (pre.length+1):Nat):Int))=true:=decide_eq_true (by omega)
    have hix:∀ st,ixsA 1 st (.slice bv (0+(pre.length+1) * 1) (vs0.length - (pre.length+1)) (vs0.length - (pre.length+1)) true) (.int .i64 0)=.val (.ptr bv ((pre.length+1) * 1)) st:=fun st=>by rw [ixs_slice_0 st bv _ _ (by omega),Nat.zero_add]
    have hnth:nth (ints vs0).flatten ((pre.length+1) * 1)=.int .i64 a:=by
     rw [hp0]
     rw [hp0] at hdrop1 hl1
     match vs0,hl1,hdrop1 with
     | [_,c],_,hd=>injection hd with hd;rw [hd];rfl
    have hnx:nextOf until_ [a]=min a until_:=rfl
    rw [hnx] at loop
    simp (disch:=first|omega|(with_unfolding_all exact rfl)|(simp only[new_n,put_n,new_m];omega)|(refine put_m_le ?_;simp only[new_m];omega)) only [res53,K53r0,K53r1,K53r2,K53r3,K53r4,K53r5,K53r6,K53r7,K53r8,K53r9,K53r10,K53r11,K53r12,K53r13,K53r14,K53,Abs.W,reduceIte,Nat.reduceEqDiff,Nat.reduceAdd,decide_true,decide_false,kLoop_def,Nat.reduceSub,List.cons_append,List.nil_append,List.append_nil,List.length_cons,List.length_nil]
    rw [← hw]
    simp only [Nat.zero_add] at hix hsl
    simp (disch:=first|omega|(with_unfolding_all exact rfl)|(simp only[new_n,put_n,new_m];omega)|(refine put_m_le ?_;simp only[new_m];omega)) only [Abs.W,reduceIte,Nat.reduceEqDiff,Nat.reduceAdd,decide_true,decide_false,kLoop_def,Nat.reduceSub,List.cons_append,List.nil_append,List.append_nil,List.length_cons,List.length_nil,Env.find_set,B5,B5w,e0,e1,F1,F1w,F3,F3w,Fv,Fvw,ll,okS,p1,p4,ad,hsl,lt,okT,g0,hix,hnth,kSlice_def,optEv_some,optEv_none,kFold_def,foldA_nil,foldA_cons,minA_i64,ge_iff_le,leave_nil,Nat.zero_add]
    generalize hlp:loopN _ rounds _ _ _ _ _=r1
    obtain ⟨L1,t,rfl,po⟩:=loop _ _ hlp ⟨by simp only [find_cons,Env.find_set,reduceIte,Nat.reduceEqDiff],by simp only [find_cons,Env.find_set,reduceIte,Nat.reduceEqDiff],by simp only [find_cons,Env.find_set,reduceIte,Nat.reduceEqDiff],by simp only [find_cons,Env.find_set,reduceIte,Nat.reduceEqDiff],by simp only [find_cons,Env.find_set,reduceIte,Nat.reduceEqDiff],by simp only [find_cons,Env.find_set,reduceIte,Nat.reduceEqDiff],by simp only [find_cons,Env.find_set,reduceIte,Nat.reduceEqDiff],by simp only [find_cons,Env.find_set,reduceIte,Nat.reduceEqDiff],by simp only [find_cons,Env.find_set,reduceIte,Nat.reduceEqDiff],by simp only [find_cons,Env.find_set,reduceIte,Nat.reduceEqDiff],by simp only [find_cons,Env.find_set,reduceIte,Nat.reduceEqDiff]⟩
    simp (disch:=first|omega|(with_unfolding_all exact rfl)|(simp only[new_n,put_n,new_m];omega)|(refine put_m_le ?_;simp only[new_m];omega)) only [Abs.W,reduceIte,Nat.reduceEqDiff,Nat.reduceAdd,decide_true,decide_false,kLoop_def,Nat.reduceSub,List.cons_append,List.nil_append,List.append_nil,List.length_cons,List.length_nil,leave_nil]
    exact ⟨_,_,rfl,⟨rfl,fin t po⟩,fun _ hle=>⟨rfl,fun _ _ _ _ _=>trivial,P,by rw [fin2 t po hle];exact Bb,Nat.le_refl _,by omega,(fin t po).2.2.2.2.2.1,.inr (fin2 t po hle)⟩⟩
   | _::_::_,hlen,_,_=>exact absurd hlen (by simp only [List.length_cons];omega))
 obtain ⟨q1,q2,q3,q4,q5,q6,q7⟩:=q
 refine ⟨t,e,q1,q2,q3,q4,q5,fun k hk hk2=>?_,?_,?_⟩
 ·have:=q6 k hk
  rcases hm' with ⟨_,hm'⟩ | ⟨_,hm'⟩<;>omega
 ·rcases hm' with ⟨_,hm'⟩ | ⟨_,hm'⟩<;>omega
 ·rcases q7 with q7 | q7
  ·left
   rcases hm' with ⟨_,hm'⟩ | ⟨_,hm'⟩<;>omega
  ·exact .inr q7
end Go.Proofs.Ytkoefjgapmonaaa.walk
