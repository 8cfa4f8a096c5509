/- How warm a box may be, hour by hour. -/
import Derived.Test.YtlfalcghhckanabM3
import Derived.Test.YtlfalcghhckanabM2
import Derived.Test.YtlfalcghhckanabWalkAll
set_option linter.unusedSimpArgs false
set_option maxHeartbeats 16000000
set_option linter.unusedVariables false
set_option maxRecDepth 10000
namespace Go.Abs
variable {P:Program}
theorem setParams2 (L:Env) (t u:Tmp) (a b:AV):setParams L [t,u] [a,b]=(L.set t a).set u b:=rfl
theorem setParams1 (L:Env) (t:Tmp) (a:AV):setParams L [t] [a]=L.set t a:=rfl
theorem leave_dfr (P:Program) (rs:List ResultVar) (x:Nat) (L:Env) (s:St) (h:s.h.get x=some .dfr):leaveA P rs L [x] s=leaveA P rs L [] (s.kill x):=by
 unfold leaveA
 have:takeDfs s [x]=some (s.kill x):=by
  show (match s.h.get x with | some .dfr=>takeDfs (s.kill x) [] | _=>none)=_
  rw [h];rfl
 rw [this]
 rfl
theorem boxA_func (sz:Nat) (s:St) (f:FuncId) (x y:List AV):boxA sz s (.func f x y)=.val (.ptr s.n 0) (s.new (.cells [.func f x y] sz)):=Eq.trans (Eq.refl _) (Eq.refl _)
theorem okA_func (f:FuncId) (x y:List AV) (s:St):okA (.val (.func f x y) s)=.val (.func f x y) s:=Eq.trans (Eq.refl _) (Eq.refl _)
theorem get_kill_ne (s:St) (b c:Nat) (h:b≠c):(s.kill c).h.get b=s.h.get b:=by rw [St.kill_h,heap_set_ne _ _ _ _ h]
theorem Rows.lower {h:Heap} {lo lo' n w tg:Nat} {rows:List (List AV)} {v:AV} (r:Rows h lo n w tg rows v) (hl:lo'≤lo):Rows h lo' n w tg rows v:=⟨r.wide,r.is.imp id fun ⟨b,h0,h1,h2,h3⟩=>⟨b,by omega,h1,h2,h3⟩⟩
theorem range_to_end {f:Arg} {ps:List Tmp} {a b:Code} {cl:CallF} {c:Ctx} {L:Env} {s s2:St} {v:AV} {r:ALoop} (hc:c.rnd=none)
  (h:callV cl [.yield (s.n+1)] ((s.new .dfr).new (.loop ⟨.ready,none,c.fn,L,ps,a,b,s.n,c.nt,c.xs⟩)) (f.ev L)=.val v s2) (hr:s2.h.get (s.n+1)=some (.loop r)) (hb:r.state=.ready) (hp:r.pending=none) :
  kRange f ps a b cl c L [] s=.done .norm L [s.n] (s2.put (s.n+1) (.loop { r with state:=.exhausted })):=by
 rw [range_eq hc h hr (by rw [hb];simp),hp]
 rfl
end Go.Abs
namespace Go.Proofs.Ytlfalcghhckanab.walk
open Go.Abs Go.Proofs.Ytlfalcghhckanab.code
def pairRow (w:Int × Int):List AV:=[.int .i64 w.1,.int .i64 w.2]
structure Gathers (p q l:Nat) (x0:BoxNow) (R:ALoop) (is:List (Int × Int)) (h:Heap) (n:Nat):Prop where
 told:h.get q=some (.cells [.func 46 [.ptr p 0] []] (tag 104))
 all:∃ v,h.get (q+1)=some (.cells [v] (tag 102))∧Abs.Rows h (q+4) n 2 (tag 93) (is.map fun j=>pairRow (x0.warmth j.1 j.2)) v
 loop:h.get (q+3)=some (.loop R)
 dfr:h.get (q+2)=some .dfr
 n:q+4≤n
 few:is.length≤240
theorem each_takes (N:Nat) (hN:3≤N) (p q sz:Nat) (top:Int) (x0:BoxNow) (R:ALoop) (L0:Env) (hR:R=⟨.ready,none,45,L0,[9,10],(rangeAt Try.f45 0).1,(rangeAt Try.f45 0).2,q+2,Try.f45.ntmps,X 45⟩) (hp:p<q) (htop:top≤240)
  (h3:L0.find 3=.ptr q 0) (h5:L0.find 5=.ptr (q+1) 0):Takes (N+1) (q+3) p sz q 10 top x0 (Gathers p q (q+3) x0 R):=by
 have hf:far=1000000000:=rfl
 refine ⟨fun is h h' n hh ⟨g1,⟨v,g2,g3⟩,g4,g5,g6,g7⟩=>⟨by rw [hh _ (by omega)];exact g1,⟨v,by rw [hh _ (by omega)];exact g2,g3.mono (fun b hb _=>hh _ (by omega)) (Nat.le_refl _)⟩,by rw [hh _ (by omega)];exact g4,by rw [hh _ (by omega)];exact g5,g6,g7⟩,?_⟩
 intro is s x v hlt hil hl ⟨g1,⟨v1,g2,g3⟩,g4,g5,g6,g7⟩ gp hs
 obtain ⟨⟨lr,l0,l1,l5,l6,l7,l8⟩⟩:=hl
 have hwx:x.warmth x.i0 x.i1=x0.warmth x.i0 x.i1:=by unfold BoxNow.warmth;rw [l5,l6,l7,l8]
 -- the round's own pair
 obtain ⟨s1,hs1⟩:∃ s1:St,s1=(s.new (.cells [.int .i64 0,.int .i64 0] (tag 93))).put s.n (.cells [.int .i64 x.i0,.int .i64 x.i1] (tag 93)):=⟨_,rfl⟩
 have s1n:s1.n=s.n+1:=by rw [hs1];rfl
 have s1g:∀ c,c≠s.n→s1.h.get c=s.h.get c:=fun c hc=>by rw [hs1,get_put_ne' _ _ _ _ hc,get_new_ne _ _ _ hc]
 have s1m:s1.m=min s.m s.n:=by rw [hs1];simp only [St.put,minN_eq,new_m]
 have s1w:s1.h.get s.n=some (.cells [.int .i64 x.i0,.int .i64 x.i1] (tag 93)):=by rw [hs1];exact get_put_eq _ _ _ _ rfl (by omega)
 have h1:K45a0 (call Try.prog X N) ⟨45,some (q+3),Try.f45.ntmps,X 45⟩ (setParams L0 [9,10] [.int .i64 x.hour,.agg [.int .i64 x.i0,.int .i64 x.i1]]) [] s=.done .norm ((((L0.set 9 (.int .i64 x.hour)).set 10 (.agg [.int .i64 x.i0,.int .i64 x.i1])).set 7 (.ptr s.n 0))) [] s1:=by
  rw [hs1]
  simp (disch:=first|omega|(with_unfolding_all exact rfl)|(simp only[new_n,put_n,new_m];omega)|(refine put_m_le ?_;simp only[new_m];omega)) only [K45a0,K45a0r0,Abs.W,reduceIte,Nat.reduceEqDiff,Nat.reduceAdd,decide_true,decide_false,kLoop_def,Nat.reduceSub,List.cons_append,List.nil_append,List.append_nil,List.length_cons,List.length_nil,setParams2,Env.find_set,Nat.reduceEqDiff]
 -- the round
 obtain ⟨s2,hs2⟩:∃ s2:St,s2=s1.put (q+3) (.loop { R with state:=.busy }):=⟨_,rfl⟩
 have s2n:s2.n=s.n+1:=by rw [hs2];exact s1n
 have s2g:∀ c,c≠s.n→c≠q+3→s2.h.get c=s.h.get c:=fun c hc hc3=>by rw [hs2,get_put_ne' _ _ _ _ hc3];exact s1g c hc
 have s2l:s2.h.get (q+3)=some (.loop { R with state:=.busy }):=by rw [hs2];exact get_put_eq _ _ _ _ rfl (by omega)
 have s2w:s2.h.get s.n=some (.cells [.int .i64 x.i0,.int .i64 x.i1] (tag 93)):=by rw [hs2,get_put_ne' _ _ _ _ (by omega)];exact s1w
 have s2m:s2.m=min (min s.m s.n) (q+3):=by rw [hs2];simp only [St.put,minN_eq,s1m]
 have g1':=(s2g q (by omega) (by omega)).trans g1
 have g2':=(s2g (q+1) (by omega) (by omega)).trans g2
 have gp':=(s2g p (by omega) (by omega)).trans gp
 have hwm:∀ m,call Try.prog X N (.fn 46) [.ptr p 0,.agg [.int .i64 x.i0,.int .i64 x.i1]] ⟨s2.h,s2.n,m⟩=.val (.agg [.int .i64 (x.warmth x.i0 x.i1).1,.int .i64 (x.warmth x.i0 x.i1).2]) ⟨s2.h,s2.n,m⟩:=fun m =>
  warmth_ok N (by omega) x v p sz x.i0 x.i1 ⟨s2.h,s2.n,m⟩ (by show p<s2.n;omega) (by show s2.n+200≤far;omega) gp'
 have g3':Abs.Rows (s2.new (.cells (pairRow (x.warmth x.i0 x.i1)) 0)).h (q+4) (s2.new (.cells (pairRow (x.warmth x.i0 x.i1)) 0)).n 2 (tag 93) (is.map fun j=>pairRow (x0.warmth j.1 j.2)) v1 :=
  g3.mono (fun b hb hbn=>by rw [get_new_ne _ _ _ (by omega)];exact s2g b (by omega) (by omega)) (by simp only [new_n];omega)
 obtain ⟨v2,s3,e3,r3,n3,low3,_,m3,mm3,_⟩:=append_row (bytes:=16) (row:=pairRow (x.warmth x.i0 x.i1)) g3' (get_new_eq _ _ _ rfl (by omega)) rfl rfl (by simp;omega) (by kernel_rfl) (by simp only [new_n];omega) (by simp only [new_n];omega)
 have low:∀ c,c<q+4→s3.h.get c=s2.h.get c:=fun c hc=>by rw [low3 c hc,get_new_ne _ _ _ (by omega)]
 have g5':s3.h.get (q+1)=some (.cells [v1] (tag 102)):=(low _ (by omega)).trans g2'
 obtain ⟨k1,c1,sc1⟩:=g3.scalar
 obtain ⟨k2,c2,sc2⟩:=r3.scalar
 have scn:scalars [v2]=true:=by rw [sc2];rfl
 simp only [new_n] at n3
 unfold pairRow at e3
 have h4:K45b0 (call Try.prog X N) ⟨45,some (q+3),Try.f45.ntmps,X 45⟩ ((((L0.set 9 (.int .i64 x.hour)).set 10 (.agg [.int .i64 x.i0,.int .i64 x.i1])).set 7 (.ptr s.n 0))) [] s2=.done .norm ((((L0.set 9 (.int .i64 x.hour)).set 10 (.agg [.int .i64 x.i0,.int .i64 x.i1])).set 7 (.ptr s.n 0))) [] (s3.put (q+1) (.cells [v2] (tag 102))):=by
  simp (disch:=first|omega|(with_unfolding_all exact rfl)|(simp only[new_n,put_n,new_m];omega)|(refine put_m_le ?_;simp only[new_m];omega)) only [K45b0,K45b0r0,Abs.W,reduceIte,Nat.reduceEqDiff,Nat.reduceAdd,decide_true,decide_false,kLoop_def,Nat.reduceSub,List.cons_append,List.nil_append,List.append_nil,List.length_cons,List.length_nil,Env.find_set,h3,h5,g1',g2',s2w,k1,hwm,e3,g5',c2,scn,okA_func,endO_nil,regD_ok,Nat.zero_add]
 have g6':(s3.put (q+1) (.cells [v2] (tag 102))).h.get (q+3)=some (.loop { R with state:=.busy }):=by
  rw [get_put_ne' _ _ _ _ (by omega)];exact (low _ (by omega)).trans s2l
 have h4':=h4
 rw [hs2] at h4'
 have hfin:=call_round (P:=Try.prog) (X:=X) (n:=N) (l:=q+3) (args:=[.int .i64 x.hour,.agg [.int .i64 x.i0,.int .i64 x.i1]]) (r:=R) (r1:=R) (r2:={ R with state:=.busy }) (s:=s) (s1:=s1) (s2:=s3.put (q+1) (.cells [v2] (tag 102))) (e:=.norm) g4 (by rw [hR];rfl) (by rw [hR];exact code45a0) (by rw [hR];exact code45b0) (by rw [hR];exact h1) (by rw [s1g _ (by omega)];exact g4) (by rw [hR]) (by rw [hR];rw [hR] at h4';exact h4') g6'
 have hRR:({ ({ R with state:=.busy }:ALoop) with state:=if goesOn .norm then .ready else .done,pending:=jumpOf .norm }:ALoop)=R:=by rw [hR];rfl
 rw [hRR] at hfin
 refine ⟨_,hfin,⟨?_,⟨v2,?_,?_⟩,get_put_eq _ _ _ _ rfl (by omega),?_,?_,?_⟩,fun c hc=>?_,?_,?_,fun hpm=>?_,?_,?_⟩
 ·rw [get_put_ne' _ _ _ _ (by omega),get_put_ne' _ _ _ _ (by omega)];exact (low _ (by omega)).trans g1'
 ·rw [get_put_ne' _ _ _ _ (by omega)];exact get_put_eq _ _ _ _ rfl (by omega)
 ·rw [List.map_append,List.map_cons,List.map_nil,← hwx]
  exact r3.mono (fun b hb hbn=>by rw [get_put_ne' _ _ _ _ (by omega),get_put_ne' _ _ _ _ (by omega)]) (Nat.le_refl _)
 ·rw [get_put_ne' _ _ _ _ (by omega),get_put_ne' _ _ _ _ (by omega)];exact (low _ (by omega)).trans ((s2g _ (by omega) (by omega)).trans g5)
 ·simp only [put_n];omega
 ·rw [List.length_append,List.length_singleton];omega
 ·rw [get_put_ne' _ _ _ _ (by omega),get_put_ne' _ _ _ _ (by omega)];exact (low _ (by omega)).trans (s2g _ (by omega) (by omega))
 ·simp only [put_n];omega
 ·simp only [put_n];omega
 ·have:=m3 p (by omega) (by rw [new_m];omega)
  simp only [St.put,minN_eq];omega
 ·rw [new_m] at mm3
  simp only [St.put,minN_eq];omega
 ·simp only [St.put,minN_eq];omega
theorem each_ex {N p a b sa sb sz:Nat} {x:BoxNow} {v:AV} {fs:List (Int × Int)} {s:St} {r:ARes}
  (hr:call Try.prog X N (.fn 45) [.func 64 [] [.ptr a 0,.ptr b 0],.func 46 [.ptr p 0] []] s=r) (hN:6≤N) (h0:x.hour=0) (hk:fs.length≤1000) (hx:x.Fits) (hm:0≤x.m0∧x.m0≤1000000∧0≤x.m1∧x.m1≤1000000)
  (hp:p<s.n) (ha:a<s.n∧a≠p) (hb:b<s.n∧b≠p) (hs:s.n+50000≤far)
  (ga:s.h.get a=some (.cells [.ptr p 0] sa)) (gb:s.h.get b=some (.cells [.int .i64 240] sb)) (gp:s.h.get p=some (.cells (x.cells v) sz)) (hR:Rests s.h s.n p v fs) :
  ∃ v' t,r=.val v' t∧Stir p s t 3000∧Abs.Rows t.h s.n t.n 2 (tag 93) ((ices 240 x fs).map fun j=>pairRow (x.warmth j.1 j.2)) v':=by
 obtain ⟨n,rfl⟩:∃ n,N=n+1:=⟨N - 1,by omega⟩
 have hf:far=1000000000:=rfl
 obtain ⟨v',t,e,st,hq⟩:=call_stir (n:=n) (args:=[.func 64 [] [.ptr a 0,.ptr b 0],.func 46 [.ptr p 0] []]) (s:=s) (d:=p) (k:=3000) (Q:=fun v' h n=>Abs.Rows h s.n n 2 (tag 93) ((ices 240 x fs).map fun j=>pairRow (x.warmth j.1 j.2)) v') Try.func45 rfl (fun u uh un um=>by
  rw [← uh] at ga gb gp hR
  rw [← un] at hR ⊢
  rw [enter45]
  have nn1:∀ o,(u.new o).n=u.n+1:=fun _=>rfl
  simp (disch:=first|omega|(with_unfolding_all exact rfl)|(simp only[new_n,put_n,new_m];omega)|(refine put_m_le ?_;simp only[new_m];omega)) only [res45,K45r0,K45r1,K45r2,K45r3,K45,K45a0r0,K45a0,K45b0r0,K45b0,Abs.W,reduceIte,Nat.reduceEqDiff,Nat.reduceAdd,decide_true,decide_false,kLoop_def,Nat.reduceSub,List.cons_append,List.nil_append,List.append_nil,List.length_cons,List.length_nil,boxA_func,nn1]
  obtain ⟨w,hw⟩:∃ w:St,w=(u.new (.cells [.func 46 [.ptr p 0] []] (tag 104))).new (.cells [.nilslice] (tag 102)):=⟨_,rfl⟩
  rw [← hw]
  have wn:w.n=u.n+2:=by rw [hw];rfl
  have wm:w.m=far:=by rw [hw];exact um
  have wg:∀ c,c<u.n→w.h.get c=u.h.get c:=fun c hc=>by rw [hw,get_new_ne _ _ _ (by simp only [new_n];omega),get_new_ne _ _ _ (by omega)]
  have w0:w.h.get u.n=some (.cells [.func 46 [.ptr p 0] []] (tag 104)):=by
   rw [hw,get_new_ne _ _ _ (by simp only [new_n];omega)];exact get_new_eq _ _ _ rfl (by omega)
  have w1:w.h.get (u.n+1)=some (.cells [.nilslice] (tag 102)):=by rw [hw];exact get_new_eq _ _ _ rfl (by simp only [new_n];omega)
  generalize hL:Env.cons 0 _ _=L0
  have f3:L0.find 3=.ptr u.n 0:=by rw [← hL];simp only [find_cons,reduceIte,Nat.reduceEqDiff]
  have f5:L0.find 5=.ptr (u.n+1) 0:=by rw [← hL];simp only [find_cons,reduceIte,Nat.reduceEqDiff]
  have f8:L0.find 8=.func 64 [] [.ptr a 0,.ptr b 0]:=by rw [← hL];simp only [find_cons,reduceIte,Nat.reduceEqDiff]
  obtain ⟨R,hRdef⟩:∃ R:ALoop,R=⟨.ready,none,45,L0,[9,10],(rangeAt Try.f45 0).1,(rangeAt Try.f45 0).2,u.n+2,Try.f45.ntmps,X 45⟩:=⟨_,rfl⟩
  obtain ⟨n2,rfl⟩:∃ n2,n=n2+2:=⟨n - 2,by omega⟩
  have hT:=each_takes n2 (by omega) p u.n sz 240 x R L0 hRdef (by omega) (by omega) f3 f5
  obtain ⟨w2,hw2⟩:∃ w2:St,w2=(w.new .dfr).new (.loop R):=⟨_,rfl⟩
  have w2n:w2.n=u.n+4:=by rw [hw2];show w.n+1+1=_;omega
  have w2m:w2.m=far:=by rw [hw2];exact wm
  have w2g:∀ c,c<u.n+2→w2.h.get c=w.h.get c:=fun c hc=>by rw [hw2,get_new_ne _ _ _ (by simp only [new_n];omega),get_new_ne _ _ _ (by omega)]
  have w2d:w2.h.get (u.n+2)=some .dfr:=by rw [hw2,get_new_ne _ _ _ (by simp only [new_n];omega)];exact get_new_eq _ _ _ wn.symm (by omega)
  have w2l:w2.h.get (u.n+3)=some (.loop R):=by rw [hw2];exact get_new_eq _ _ _ (by simp only [new_n];omega) (by simp only [new_n];omega)
  have w2u:∀ c,c<u.n→w2.h.get c=u.h.get c:=fun c hc=>(w2g c (by omega)).trans (wg c hc)
  have G0:Gathers p u.n (u.n+3) x R [] w2.h w2.n:=⟨(w2g _ (by omega)).trans w0,⟨.nilslice,(w2g _ (by omega)).trans w1,Rows.nil _ _ _ _ _⟩,w2l,w2d,by omega,by simp⟩
  generalize hc:call Try.prog X (n2+2) (.fn 64) [.yield (u.n+3),.ptr a 0,.ptr b 0] w2=r94
  obtain ⟨s2,rfl,G,same,sn,sk,sm,smm⟩:=hours1_ex 240 hc (by omega) hT h0 rfl (by omega) (by omega) hk hx hm (by omega) ⟨by omega,ha.2⟩ ⟨by omega,hb.2⟩ (by omega) (by omega) (by omega) ((w2u a (by omega)).trans ga) ((w2u b (by omega)).trans gb) ((w2u p (by omega)).trans gp) (hR.grow fun c _ hcz=>w2u c hcz) G0
  obtain ⟨G1,⟨v2,G2,G3⟩,G4,G5,G6,G7⟩:=G
  have hcall:callV (call Try.prog X (n2+2)) [.yield (w.n+1)] ((w.new .dfr).new (.loop ⟨.ready,none,45,L0,[9,10],(rangeAt Try.f45 0).1,(rangeAt Try.f45 0).2,w.n,Try.f45.ntmps,X 45⟩)) ((Arg.tmp 8).ev L0)=.val (.tup []) s2:=by
   rw [ev_tmp,f8,callV_func,wn,← hRdef,← hw2]
   exact hc
  have hrange:=range_to_end (ps:=[9,10]) (c:=⟨45,none,Try.f45.ntmps,X 45⟩) rfl hcall (by rw [wn];exact G4) (by rw [hRdef]) (by rw [hRdef])
  rw [wn] at hrange
  have g2':∀ o,((s2.put (u.n+3) o).h.get (u.n+1))=some (.cells [v2] (tag 102)):=fun o=>by rw [get_put_ne' _ _ _ _ (by omega)];exact G2
  have gd':∀ o,(s2.put (u.n+3) o).h.get (u.n+2)=some .dfr:=fun o=>by rw [get_put_ne' _ _ _ _ (by omega)];exact G5
  obtain ⟨k2,c2,sc2⟩:=G3.scalar
  have hE:∀ o,Stir p u ((s2.put (u.n+3) o).kill (u.n+2)) 3000:=fun o=>⟨fun c hc hcp=>by
    rw [get_kill_ne _ _ _ (by omega),get_put_ne' _ _ _ _ (by omega)]
    exact (same c hc hcp).trans (w2u c hc),by show u.n≤s2.n;omega,by show s2.n≤u.n+3000;omega,fun hpm=>by
    have:=sm (by omega)
    simp only [St.kill,St.put,minN_eq];omega,by
    simp only [St.kill,St.put,minN_eq];omega⟩
  simp (disch:=first|omega|(with_unfolding_all exact rfl)|(simp only[new_n,put_n,new_m];omega)|(refine put_m_le ?_;simp only[new_m];omega)) only [res45,K45r0,K45r1,K45r2,K45r3,K45,K45a0r0,K45a0,K45b0r0,K45b0,Abs.W,reduceIte,Nat.reduceEqDiff,Nat.reduceAdd,decide_true,decide_false,kLoop_def,Nat.reduceSub,List.cons_append,List.nil_append,List.append_nil,List.length_cons,List.length_nil,hrange,Env.find_set,f5,g2',k2]
  rw [leave_dfr _ _ _ _ _ (gd' _)]
  simp (disch:=first|omega|(with_unfolding_all exact rfl)|(simp only[new_n,put_n,new_m];omega)|(refine put_m_le ?_;simp only[new_m];omega)) only [res45,K45r0,K45r1,K45r2,K45r3,K45,K45a0r0,K45a0,K45b0r0,K45b0,Abs.W,reduceIte,Nat.reduceEqDiff,Nat.reduceAdd,decide_true,decide_false,kLoop_def,Nat.reduceSub,List.cons_append,List.nil_append,List.append_nil,List.length_cons,List.length_nil,Env.find_set]
  refine ⟨_,_,rfl,hE _,?_,?_⟩
  ·rcases G3.is with ⟨z1,_⟩ | ⟨_,_,_,z2,_⟩
   ·exact absurd (congrArg List.length z1) (by simp [ices])
   ·rw [z2];rfl
  ·exact (G3.mono (fun c hc _=>by rw [get_kill_ne _ _ _ (by omega),get_put_ne' _ _ _ _ (by omega)]) (Nat.le_refl _)).lower (by omega)) (by omega)
 exact ⟨v',t,hr.symm.trans e,st,hq⟩
end Go.Proofs.Ytlfalcghhckanab.walk
set_option maxRecDepth 10000
namespace Go.Abs
theorem boxA_ptr (sz:Nat) (s:St) (b o:Nat):boxA sz s (.ptr b o)=.val (.ptr s.n 0) (s.new (.cells [.ptr b o] sz)):=Eq.trans (Eq.refl _) (Eq.refl _)
end Go.Abs
namespace Go.Proofs.Ytlfalcghhckanab.walk
open Go.Abs Go.Proofs.Ytlfalcghhckanab.code
theorem hours_ex {N p:Nat} {top:Int} {s:St} {r:ARes} (hr:call Try.prog X N (.fn 42) [.ptr p 0,.int .i64 top] s=r) (hN:1≤N) (hs:s.n+100≤far) :
  ∃ t sa sb,r=.val (.func 64 [] [.ptr s.n 0,.ptr (s.n+1) 0]) t∧New s t 2∧t.n=s.n+2∧t.h.get s.n=some (.cells [.ptr p 0] sa)∧t.h.get (s.n+1)=some (.cells [.int .i64 top] sb):=by
 obtain ⟨n,rfl⟩:∃ n,N=n+1:=⟨N - 1,by omega⟩
 have hf:far=1000000000:=rfl
 obtain ⟨w,t,e,st,⟨rfl,hn,sa,sb,h1,h2⟩⟩:=call_new (n:=n) (args:=[.ptr p 0,.int .i64 top]) (s:=s) (k:=2) (Q:=fun w h m=>w=.func 64 [] [.ptr s.n 0,.ptr (s.n+1) 0]∧m=s.n+2∧∃ sa sb,h.get s.n=some (.cells [.ptr p 0] sa)∧h.get (s.n+1)=some (.cells [.int .i64 top] sb)) Try.func42 rfl (fun u uh un um=>by
  rw [← un]
  have nn1:∀ o,(u.new o).n=u.n+1:=fun _=>rfl
  rw [enter42]
  simp (disch:=first|omega|(with_unfolding_all exact rfl)|(simp only[new_n,put_n,new_m];omega)|(refine put_m_le ?_;simp only[new_m];omega)) only [res42,K42r0,K42r1,K42,Abs.W,reduceIte,Nat.reduceEqDiff,Nat.reduceAdd,decide_true,decide_false,kLoop_def,Nat.reduceSub,List.cons_append,List.nil_append,List.append_nil,List.length_cons,List.length_nil,boxA_ptr,boxA_int,kFunc_def,nn1]
  have ga:∀ o1 o2,((u.new o1).new o2).h.get u.n=some o1:=fun o1 o2=>by
   rw [get_new_ne _ _ _ (by simp only [new_n];omega)];exact get_new_eq _ _ _ rfl (by omega)
  exact ⟨_,_,rfl,((Beside.refl u (by omega) um).new _).new _,rfl,rfl,rfl,_,_,ga _ _,get_new_eq _ _ _ rfl (by simp only [new_n];omega)⟩)
 exact ⟨t,sa,sb,hr.symm.trans e,st,hn,h1,h2⟩
def tabOf (B:Box) (fs:List Fill) (i:Nat):List (Int × Int):=(ices 240 B.start ((ofBox i fs).map fun f=>(f.hour,f.grams))).map fun j=>B.start.warmth j.1 j.2
theorem ices_len:∀ (m:Nat) (x:BoxNow) (fs:List (Int × Int)),(ices m x fs).length=m
 | 0,_,_=>rfl
 | m+1,x,fs=>by unfold ices;rw [List.length_cons,ices_len m]
theorem tabOf_len (B:Box) (fs:List Fill) (i:Nat):(tabOf B fs i).length=240:=by unfold tabOf;rw [List.length_map,ices_len]
def Sheet (h:Heap) (lo n:Nat) (vb:AV) (tab:List (Int × Int)) (v:AV):Prop:=∃ b,lo≤b∧b<n∧(∀ k c,vb≠.slice b 0 k c true)∧v=.slice b 0 tab.length tab.length true∧h.get b=some (.cells (tab.map pairRow).flatten (2+tag 93))
structure Sheets (h:Heap) (lo n:Nat) (tabs:List (List (Int × Int))) (vs:List AV) (vb:AV):Prop where
 rows:Abs.Rows h lo n 1 (tag 102) (vs.map fun v=>[v]) vb
 len:vs.length=tabs.length
 each:∀ i (h1:i<vs.length) (h2:i<tabs.length),Sheet h lo n vb tabs[i] vs[i]
theorem Sheets.mono {h h':Heap} {lo n n':Nat} {tabs:List (List (Int × Int))} {vs:List AV} {vb:AV} (r:Sheets h lo n tabs vs vb) (hh:∀ b,lo≤b→b<n→h'.get b=h.get b) (hn:n≤n'):Sheets h' lo n' tabs vs vb :=
 ⟨r.rows.mono hh hn,r.len,fun i h1 h2=>by
  obtain ⟨b,k1,k2,k3,k4,k5⟩:=r.each i h1 h2
  exact ⟨b,k1,by omega,k3,k4,by rw [hh b k1 k2];exact k5⟩⟩
theorem pair_wide (tab:List (Int × Int)):∀ r ∈ tab.map pairRow,r.length=2:=by
 intro r hr
 obtain ⟨f,_,rfl⟩:=List.mem_map.mp hr
 rfl
theorem Sheets.warm {h:Heap} {lo n:Nat} {tabs:List (List (Int × Int))} {vs:List AV} {vb:AV} (r:Sheets h lo n tabs vs vb) (i k:Nat) (hi:i<tabs.length) (hk:k<(tabs[i]).length):WarmAt h n vb i k ((tabs[i])[k]).1 ((tabs[i])[k]).2:=by
 obtain ⟨q1,_,_⟩:=r.rows.scalar
 refine ⟨q1,?_⟩
 have hiv:i<vs.length:=by rw [r.len];exact hi
 obtain ⟨b,k1,k2,k3,k4,k5⟩:=r.each i hiv hi
 obtain ⟨b1,p1,c1,sz1,e1,e2,e3,e4⟩:=r.rows.at_.at_ i (by rw [List.length_map];exact hiv)
 rw [List.getElem_map] at e4
 have hn:nth c1 p1=vs[i]:=by
  obtain ⟨a,t,h1,h2,_⟩:=cut_some e4
  subst h1
  have nsk:∀ (a l:List AV) (k:Nat),nth (a++l) (a.length+k)=nth l k:=by
   intro a
   induction a with
   | nil=>intro l k;rw [List.length_nil,Nat.zero_add,List.nil_append]
   | cons x a ih=>intro l k;rw [List.length_cons,List.cons_append,show a.length+1+k=(a.length+k)+1 by omega,nth_cons,if_neg (by omega)];exact ih l k
  have:=nsk a (([vs[i]]:List AV)++t) 0
  rw [Nat.add_zero,h2] at this
  rw [List.append_assoc,this]
  rfl
 have hcut:=flatten_cut (pair_wide tabs[i]) (i:=k) (by rw [List.length_map];exact hk)
 rw [List.getElem_map] at hcut
 refine ⟨vs[i],b1,p1,c1,sz1,b,k * 2,_,_,e1,k2,e2,e3,hn,?_,?_,k5,hcut⟩
 ·rw [k4];exact fun _=>rfl
 ·rw [k4]
  intro s
  have:=ixs_slice 2 s b 0 (tabs[i]).length (tabs[i]).length true k hk
  rw [Nat.zero_add] at this
  exact this
theorem Box.start_fits {B:Box} (h:B.Ok):B.start.Fits∧0≤B.start.m0∧B.start.m0≤1000000∧0≤B.start.m1∧B.start.m1≤1000000:=by
 obtain ⟨r0,r1,i0,i1,i2,m0,m1,m2,_,_,_,_,_⟩:=h
 refine ⟨⟨?_,?_,?_⟩,?_,?_,?_,?_⟩<;>simp only [Box.start]<;>omega
theorem larder_round (N:Nat) (hN:8≤N) (cx:Ctx) (bs:List Box) (fs:List Fill) (hl hh:Int) (v1 v2 v3 vb:AV) (vs:List AV) (p1 p3 lo:Nat) (u:St) (k:Nat)
  (hR:RowsAt u.h u.n 9 (bs.map Box.cells) v1) (hF:Seq u.h u.n 3 (fs.map Fill.cells) v2) (hkb:bs.length≤6) (hk:fs.length≤20) (hB:∀ b ∈ bs,b.Ok) (hf:∀ f ∈ fs,f.Ok k) (n3:v3≠.bad) (sc1:v1.scalar=true) (sc3:v3.scalar=true)
  (hp1:p1<lo) (hp3:p3<lo) (hul:u.n≤p1∧u.n≤p3) (hne:p1≠p3) (i:Nat) (L:Env) (s:St) (hi:i<bs.length) (hlo:lo≤s.n) (hs:s.n+100000≤far)
  (hsame:∀ c,c<u.n→s.h.get c=u.h.get c) (g1:s.h.get p1=some (.cells [.int .i64 hl,.int .i64 hh,v1,v2,v3] (tag 31))) (g3:s.h.get p3=some (.cells [.int .i64 hl,.int .i64 hh,v1,v2,v3,vb] (tag 78)))
  (hS:Sheets s.h lo s.n ((List.range i).map fun j=>tabOf (bs.getD j ⟨0,0,0,0,0,0,0,0,0⟩) fs j) vs vb) (l1:L.find 1=.ptr p1 0) (l3:L.find 3=.ptr p3 0) (l10:L.find 10=.int .i64 bs.length) (l11:L.find 11=.int .i64 i) :
  ∃ L1 s1 vs' vb',K28l0 (call Try.prog X N) cx L [] s=.done .norm L1 [] s1∧L1.find 1=.ptr p1 0∧L1.find 2=L.find 2∧L1.find 3=.ptr p3 0∧L1.find 10=.int .i64 bs.length∧L1.find 11=.int .i64 ((i:Int)+1) ∧
   (∀ c,c<lo→c≠p3→s1.h.get c=s.h.get c)∧s1.h.get p3=some (.cells [.int .i64 hl,.int .i64 hh,v1,v2,v3,vb'] (tag 78))∧Sheets s1.h lo s1.n ((List.range (i+1)).map fun j=>tabOf (bs.getD j ⟨0,0,0,0,0,0,0,0,0⟩) fs j) vs' vb'∧s.n≤s1.n∧s1.n≤s.n+4000∧(u.n≤s.m→u.n≤s1.m)∧s1.m≤s.m:=by
 have hff:far=1000000000:=rfl
 have e0:decide ((i:Int)<(bs.length:Int))=true:=by simp;omega
 have hRs:RowsAt s.h s.n 9 (bs.map Box.cells) v1:=hR.grow (fun c hc=>hsame c hc) (by omega)
 have hFs:Seq s.h s.n 3 (fs.map Fill.cells) v2:=hF.grow (fun c hc=>hsame c hc) (by omega)
 obtain ⟨k2,c2,sc2⟩:=hF.scalar
 simp (disch:=first|omega|(with_unfolding_all exact rfl)|(simp only[new_n,put_n,new_m];omega)|(refine put_m_le ?_;simp only[new_m];omega)) only [res28,K28r0,K28r1,K28r2,K28r3,K28r4,K28r5,K28r6,K28r7,K28l0,K28r8,K28,Abs.W,reduceIte,Nat.reduceEqDiff,Nat.reduceAdd,decide_true,decide_false,kLoop_def,Nat.reduceSub,List.cons_append,List.nil_append,List.append_nil,List.length_cons,List.length_nil,Env.find_set,l1,l3,l10,l11,e0,g1,Nat.zero_add]
 generalize hc1:call _ _ _ (.fn 41) _ _=r1
 obtain ⟨v',t1,rfl,st1,kept1⟩:=begin_ex bs fs i hi hc1 (by omega) hRs hFs hk n3 (by omega)
 have t1n:=st1.n
 have t1l:=st1.le
 have t1m:=st1.m
 have ksc:=kept1.scalar1
 obtain ⟨B,hBe⟩:∃ B,B=bs[i]:=⟨_,rfl⟩
 have hBok:B.Ok:=by rw [hBe];exact hB _ (List.getElem_mem hi)
 rw [← hBe] at hc1 ⊢
 have hcells:∀ v,B.start.cells v=[.int .i64 B.start.room,.int .i64 B.start.a1,.int .i64 B.start.a2,.int .i64 B.start.m0,.int .i64 B.start.m1,.int .i64 B.start.a5,.int .i64 B.start.a6,.int .i64 B.start.a7,.int .i64 B.start.a8,.int .i64 B.start.hour,.int .i64 B.start.i0,.int .i64 B.start.i1,v]:=fun _=>rfl
 have h1g:∀ c,c<s.n→t1.h.get c=s.h.get c:=st1.same
 have g31:=(h1g p3 (by omega)).trans g3
 obtain ⟨t2,ht2⟩:∃ t2:St,t2=(t1.new (.cells [.int .i64 0,.int .i64 0,.int .i64 0,.int .i64 0,.int .i64 0,.int .i64 0,.int .i64 0,.int .i64 0,.int .i64 0,.int .i64 0,.int .i64 0,.int .i64 0,.nilslice] (tag 95))).put t1.n (.cells (B.start.cells v') (tag 95)):=⟨_,rfl⟩
 have t2n:t2.n=t1.n+1:=by rw [ht2];rfl
 have t2m:t2.m=min t1.m t1.n:=by rw [ht2];simp only [St.put,minN_eq,new_m]
 have t2g:∀ c,c≠t1.n→t2.h.get c=t1.h.get c:=fun c hc=>by rw [ht2,get_put_ne' _ _ _ _ hc,get_new_ne _ _ _ hc]
 have t2p:t2.h.get t1.n=some (.cells (B.start.cells v') (tag 95)):=by rw [ht2];exact get_put_eq _ _ _ _ rfl (by omega)
 have g32:=(t2g p3 (by omega)).trans g31
 rw [hcells] at ht2
 obtain ⟨okb,cb,scb⟩:=hS.rows.scalar
 simp (disch:=first|omega|(with_unfolding_all exact rfl)|(simp only[new_n,put_n,new_m];omega)|(refine put_m_le ?_;simp only[new_m];omega)) only [res28,K28r0,K28r1,K28r2,K28r3,K28r4,K28r5,K28r6,K28r7,K28l0,K28r8,K28,Abs.W,reduceIte,Nat.reduceEqDiff,Nat.reduceAdd,decide_true,decide_false,kLoop_def,Nat.reduceSub,List.cons_append,List.nil_append,List.append_nil,List.length_cons,List.length_nil,Env.find_set,l1,l3,l10,l11,hcells,ksc,g31,okb,Nat.zero_add]
 rw [← ht2]
 generalize hc2:call _ _ _ (.fn 42) _ _=r2
 obtain ⟨t3,sa,sb,rfl,st3,t3n,ga,gb⟩:=hours_ex hc2 (by omega) (by show t2.n+100≤far;omega)
 have t3m:t3.m=far:=st3.m
 have t3g:∀ c,c<t2.n→t3.h.get c=t2.h.get c:=st3.same
 have t3n':t3.n=t2.n+2:=t3n
 simp (disch:=first|omega|(with_unfolding_all exact rfl)|(simp only[new_n,put_n,new_m];omega)|(refine put_m_le ?_;simp only[new_m];omega)) only [res28,K28r0,K28r1,K28r2,K28r3,K28r4,K28r5,K28r6,K28r7,K28l0,K28r8,K28,Abs.W,reduceIte,Nat.reduceEqDiff,Nat.reduceAdd,decide_true,decide_false,kLoop_def,Nat.reduceSub,List.cons_append,List.nil_append,List.append_nil,List.length_cons,List.length_nil,Env.find_set,l1,l3,l10,l11,thenT_val,kFunc_def]
 generalize hc3:call _ _ _ (.fn 45) _ _=r3
 have t3p:=(t3g t1.n (by omega)).trans t2p
 have hgr:∀ f ∈ ofBox i fs,0≤f.grams∧f.grams≤1000000:=fun f hff'=>by
  have:=hf f (List.mem_filter.mp hff').1
  obtain ⟨_,_,_,_,z0,z1⟩:=this
  omega
 have kept3:Kept t3.h (s.n+3) t1.n (ofBox i fs) v':=kept1.mono (fun c h1 h2=>(t3g c (by omega)).trans (t2g c (by omega))) (Nat.le_refl _)
 obtain ⟨hx,hm0,hm1,hm2,hm3⟩:=Box.start_fits hBok
 obtain ⟨v'',t4,rfl,st4,rows4⟩:=each_ex (fs:=(ofBox i fs).map fun f=>(f.hour,f.grams)) hc3 (by omega) rfl (by rw [List.length_map];unfold ofBox;exact Nat.le_trans (List.length_filter_le _ _) (by omega)) hx ⟨hm0,hm1,hm2,hm3⟩ (by show t1.n<t3.n;omega) ⟨by show t2.n<t3.n;omega,by show t2.n≠t1.n;omega⟩ ⟨by show t2.n+1<t3.n;omega,by show t2.n+1≠t1.n;omega⟩ (by show t3.n+50000≤far;omega) ga gb t3p (kept3.rests (.inr (Nat.le_refl _)) (by show t1.n≤t3.n;omega) hgr)
 have t4n:=st4.n
 have t4l:=st4.le
 have t4n':t3.n≤t4.n:=t4n
 have t4l':t4.n≤t3.n+3000:=t4l
 have t4m:t1.n≤t4.m:=st4.m (by show t1.n≤far;omega)
 have t4g:∀ c,c<t3.n→c≠t1.n→t4.h.get c=t3.h.get c:=st4.same
 have g33:=(t3g p3 (by omega)).trans ((t2g p3 (by omega)).trans g31)
 have g34:=(t4g p3 (by omega) (by omega)).trans g33
 have rows4':Abs.Rows t4.h t3.n t4.n 2 (tag 93) ((tabOf B fs i).map pairRow) v'':=by
  have:(tabOf B fs i).map pairRow=(ices 240 B.start ((ofBox i fs).map fun f=>(f.hour,f.grams))).map fun j=>pairRow (B.start.warmth j.1 j.2):=by
   unfold tabOf;rw [List.map_map];rfl
  rw [this];exact rows4
 obtain ⟨b4,b40,b41,hv4,hb4⟩:∃ b,t3.n≤b∧b<t4.n∧v''=.slice b 0 (tabOf B fs i).length (tabOf B fs i).length true∧t4.h.get b=some (.cells ((tabOf B fs i).map pairRow).flatten (2+tag 93)):=by
  rcases rows4'.is with ⟨z1,_⟩ | ⟨b,z1,z2,z3,z4⟩
  ·exact absurd (congrArg List.length z1) (by rw [List.length_map,tabOf_len];simp)
  ·rw [List.length_map] at z3
   exact ⟨b,z1,z2,z3,z4⟩
 obtain ⟨S0,hS0⟩:∃ S0:St,S0=⟨t4.h,t4.n,minN (minN t2.m t3.m) t4.m⟩:=⟨_,rfl⟩
 have S0n:S0.n=t4.n:=by rw [hS0]
 have S0h:S0.h=t4.h:=by rw [hS0]
 have back:∀ c,lo≤c→c<s.n→(S0.new (.cells [v''] 0)).h.get c=s.h.get c:=fun c _ hc=>by
  rw [get_new_ne _ _ _ (by omega),S0h,t4g c (by omega) (by omega),t3g c (by omega),t2g c (by omega),h1g c hc]
 have hS5:=hS.mono back (n':=(S0.new (.cells [v''] 0)).n) (by simp only [new_n];omega)
 have hvl:vs.length=i:=by rw [hS.len,List.length_map,List.length_range]
 obtain ⟨vb',s5,e5,r5,n5,low5,fr5,m5,mm5,hvb'⟩:=append_row (bytes:=24) (row:=[v'']) hS5.rows (get_new_eq _ _ _ rfl (by omega)) rfl (by rw [hv4];rfl) (by rw [List.length_map,hvl];omega) (by kernel_rfl) (by simp only [new_n];omega) (by simp only [new_n];omega)
 rw [hS0] at e5
 have e5':appendA false 1 24 (tag 102) (St.new ⟨t4.h,t4.n,minN (minN t2.m t3.m) t4.m⟩ (.cells [v''] 0)) vb (.slice t4.n 0 1 1 false)=.val vb' s5:=e5
 obtain ⟨okb',cb',scb'⟩:=r5.scalar
 have scn:scalars [vb']=true:=by rw [scb'];rfl
 have g35:s5.h.get p3=some (.cells [.int .i64 hl,.int .i64 hh,v1,v2,v3,vb] (tag 78)):=by
  rw [low5 p3 hp3,get_new_ne _ _ _ (by omega),S0h];exact g34
 have cv4:cellsOf 1 v''=some [v'']:=by rw [hv4];rfl
 have a1:∀ s,aAdd s .i64 (i:Int) 1=.val (.int .i64 ((i:Int)+1)) s:=fun s=>aAdd_i64 s _ _ (by omega)
 simp only [new_n] at n5
 have sall:∀ l,scalars (v1::v2::v3::vb'::l)=scalars l:=fun l=>by
  have e:∀ (x:AV) (l:List AV),x.scalar=true→scalars (x::l)=scalars l:=fun x l hx=>by
   show (match x.scalar with | true=>scalars l | false=>false)=_
   rw [hx]
  rw [e v1 _ sc1,sc2,e v3 _ sc3,scb']
 simp (disch:=first|omega|(with_unfolding_all exact rfl)|(simp only[new_n,put_n,new_m];omega)|(refine put_m_le ?_;simp only[new_m];omega)) only [res28,K28r0,K28r1,K28r2,K28r3,K28r4,K28r5,K28r6,K28r7,K28l0,K28r8,K28,Abs.W,reduceIte,Nat.reduceEqDiff,Nat.reduceAdd,decide_true,decide_false,kLoop_def,Nat.reduceSub,List.cons_append,List.nil_append,List.append_nil,List.length_cons,List.length_nil,Env.find_set,l1,l3,l10,l11,thenT_turn,cv4,e5',g35,cb',scn,Nat.zero_add]
 rw [endT_kept (by simp only [keptAll_cons,keptAll_nil,find_cons,keptV_ptr,g33,g34,sameO_cells,reduceIte,Nat.reduceEqDiff,Bool.and_self])]
 simp (disch:=first|omega|(with_unfolding_all exact rfl)|(simp only[new_n,put_n,new_m];omega)|(refine put_m_le ?_;simp only[new_m];omega)) only [res28,K28r0,K28r1,K28r2,K28r3,K28r4,K28r5,K28r6,K28r7,K28l0,K28r8,K28,Abs.W,reduceIte,Nat.reduceEqDiff,Nat.reduceAdd,decide_true,decide_false,kLoop_def,Nat.reduceSub,List.cons_append,List.nil_append,List.append_nil,List.length_cons,List.length_nil,Env.find_set,l1,l3,l10,l11,endO_nil,regD_ok,a1]
 have keep:∀ c,c<lo→c≠p3→(s5.put p3 (.cells [.int .i64 hl,.int .i64 hh,v1,v2,v3,vb'] (tag 78))).h.get c=s.h.get c:=fun c hc hcp=>by
  rw [get_put_ne' _ _ _ _ hcp,low5 c hc,get_new_ne _ _ _ (by omega),S0h,t4g c (by omega) (by omega),t3g c (by omega),t2g c (by omega),h1g c (by omega)]
 have vbl:∀ b k c,vb=.slice b 0 k c true→b<s.n:=fun b k c hvb=>by
  rcases hS.rows.is with ⟨_,z⟩ | ⟨b',_,z1,z2,_⟩
  ·rw [z] at hvb;cases hvb
  ·rw [z2] at hvb;cases hvb;exact z1
 refine ⟨_,_,vs++[v''],vb',rfl,by simp only [Env.find_set,l1,reduceIte,Nat.reduceEqDiff],by simp only [Env.find_set,reduceIte,Nat.reduceEqDiff],by simp only [Env.find_set,l3,reduceIte,Nat.reduceEqDiff],by simp only [Env.find_set,l10,reduceIte,Nat.reduceEqDiff],by simp only [Env.find_set,reduceIte,Nat.reduceEqDiff],keep,get_put_eq _ _ _ _ rfl (by omega),⟨?_,?_,?_⟩,?_,?_,fun hu=>?_,?_⟩
 ·rw [List.map_append,List.map_cons,List.map_nil]
  exact r5.mono (fun c hc _=>get_put_ne' _ _ _ _ (by omega)) (Nat.le_refl _)
 ·rw [List.length_append,List.length_map,List.length_range,hvl];rfl
 ·intro j h1 h2
  rw [List.length_map,List.length_range] at h2
  rw [List.getElem_map,List.getElem_range]
  by_cases hj:j<i
  ·rw [List.getElem_append_left (by omega)]
   have:=hS5.each j (by omega) (by rw [List.length_map,List.length_range];exact hj)
   rw [List.getElem_map,List.getElem_range] at this
   obtain ⟨b,z1,z2,z3,z4,z5⟩:=this
   have hbs:b<s.n:=by
    have:=hS.each j (by omega) (by rw [List.length_map,List.length_range];exact hj)
    obtain ⟨b',y1,y2,y3,y4,y5⟩:=this
    rw [y4] at z4
    injection z4 with q1
    omega
   refine ⟨b,z1,by simp only [put_n];omega,fun k c hvv=>?_,z4,?_⟩
   ·rw [hvb'] at hvv
    injection hvv with q1
    simp only [new_n] at q1
    omega
   ·rw [get_put_ne' _ _ _ _ (by omega),fr5 b z2 (z3 _ _)];exact z5
  ·have hji:j=i:=by omega
   subst hji
   rw [List.getElem_append_right (by omega)]
   have hB0:bs.getD j ⟨0,0,0,0,0,0,0,0,0⟩=B:=by rw [List.getD_eq_getElem?_getD,List.getElem?_eq_getElem hi];exact hBe.symm
   simp only [hvl,Nat.sub_self,List.getElem_singleton,hB0]
   refine ⟨b4,by omega,by simp only [put_n];omega,fun k c hvv=>?_,hv4,?_⟩
   ·rw [hvb'] at hvv
    injection hvv with q1
    simp only [new_n] at q1
    omega
   ·rw [get_put_ne' _ _ _ _ (by omega),fr5 b4 (by simp only [new_n];omega) (fun hvv=>by have:=vbl _ _ _ hvv;omega),get_new_ne _ _ _ (by omega),S0h];exact hb4
 ·simp only [put_n];omega
 ·simp only [put_n];omega
 ·have hm0:u.n≤(S0.new (.cells [v''] 0)).m:=by
   rw [new_m,hS0]
   simp only [minN_eq]
   omega
  have:=m5 u.n (by omega) hm0
  simp only [St.put,minN_eq];omega
 ·rw [new_m,hS0] at mm5
  simp only [minN_eq] at mm5
  simp only [St.put,minN_eq];omega
end Go.Proofs.Ytlfalcghhckanab.walk
set_option maxRecDepth 10000
namespace Go.Proofs.Ytlfalcghhckanab.walk
open Go.Abs Go.Proofs.Ytlfalcghhckanab.code
theorem scal_cons (x:AV) (l:List AV) (h:x.scalar=true):scalars (x::l)=scalars l:=by
 show (match x.scalar with | true=>scalars l | false=>false)=_
 rw [h]
theorem plains_mem:∀ {l:List AV} {v:AV},plains l=true→v ∈ l→plain v=true
 | [],v,_,h=>by cases h
 | a::l,v,hp,h=>by
  unfold plains at hp
  split at hp
  ·rename_i ha
   rcases List.mem_cons.mp h with e | h
   ·subst e;exact ha
   ·exact plains_mem hp h
  ·cases hp
def noBox:Box:=⟨0,0,0,0,0,0,0,0,0⟩
def tabsOf (bs:List Box) (fs:List Fill) (k:Nat):List (List (Int × Int)):=(List.range k).map fun j=>tabOf (bs.getD j noBox) fs j
theorem larderOf_ex {N:Nat} {s:St} {r:ARes} {hl hh:Int} {v1 v2 v3:AV} (bs:List Box) (fs:List Fill) (k:Nat) (hr:call Try.prog X N (.fn 28) [.agg [.int .i64 hl,.int .i64 hh,v1,v2,v3]] s=r) (hN:9≤N)
  (hR:RowsAt s.h s.n 9 (bs.map Box.cells) v1) (hF:Seq s.h s.n 3 (fs.map Fill.cells) v2) (hkb:bs.length≤6) (hk:fs.length≤20) (hB:∀ b ∈ bs,b.Ok) (hf:∀ f ∈ fs,f.Ok k) (n3:v3≠.bad) (sc1:v1.scalar=true) (sc3:v3.scalar=true) (hs:s.n+200000≤far) :
  ∃ vs vb t,r=.val (.agg [.int .i64 hl,.int .i64 hh,v1,v2,v3,vb]) t∧New s t 30000∧Sheets t.h (s.n+3) t.n (tabsOf bs fs bs.length) vs vb:=by
 obtain ⟨n,rfl⟩:∃ n,N=n+1:=⟨N - 1,by omega⟩
 have hff:far=1000000000:=rfl
 obtain ⟨w,t,e,st,vs,vb,rfl,hq⟩:=call_new' (n:=n) (args:=[.agg [.int .i64 hl,.int .i64 hh,v1,v2,v3]]) (s:=s) (k:=30000) (Q:=fun w h m=>∃ vs vb,w=.agg [.int .i64 hl,.int .i64 hh,v1,v2,v3,vb]∧Sheets h (s.n+3) m (tabsOf bs fs bs.length) vs vb) Try.func28 rfl (fun u uh un um=>by
  rw [← uh,← un] at hR hF
  rw [← un]
  have ok1:∀ t,okA (.val v1 t)=.val v1 t:=fun t=>okA_ne hR.ne
  have len1:=hR.len
  rw [List.length_map] at len1
  obtain ⟨ok2,c2,sc2⟩:=hF.scalar
  have c1:=cellsOf_one v1 sc1
  have c3:=cellsOf_one v3 sc3
  have sall:∀ l,scalars (v1::v2::v3::l)=scalars l:=fun l=>by rw [scal_cons _ _ sc1,sc2,scal_cons _ _ sc3]
  have sh:shapeT Try.prog 78=some (some 6):=by kernel_rfl
  have nn1:∀ o,(u.new o).n=u.n+1:=fun _=>rfl
  have nn2:∀ o1 o2,((u.new o1).new o2).n=u.n+2:=fun _ _=>rfl
  rw [enter28]
  simp (disch:=first|omega|(with_unfolding_all exact rfl)|(simp only[new_n,put_n,new_m];omega)|(refine put_m_le ?_;simp only[new_m];omega)) only [res28,K28r0,K28r1,K28r2,K28r3,K28r4,K28r5,K28r6,K28r7,K28r8,K28,Abs.W,reduceIte,Nat.reduceEqDiff,Nat.reduceAdd,decide_true,decide_false,kLoop_def,Nat.reduceSub,List.cons_append,List.nil_append,List.append_nil,List.length_cons,List.length_nil,sall,ok1,len1,Nat.zero_add]
  generalize hlp:loopN _ rounds _ _ _ _ _=r1
  obtain ⟨e,L1,s1,rfl,rfl,f2,f3,vs,vb,same,g1,g2,g3,hS,n1,k1,m1,mm1⟩:=loop_of hlp
   (fun i L t=>L.find 1=.ptr u.n 0∧L.find 2=.ptr (u.n+1) 0∧L.find 3=.ptr (u.n+2) 0∧L.find 10=.int .i64 bs.length∧L.find 11=.int .i64 i∧∃ vs vb,(∀ c,c<u.n→t.h.get c=u.h.get c)∧t.h.get u.n=some (.cells [.int .i64 hl,.int .i64 hh,v1,v2,v3] (tag 31)) ∧
    t.h.get (u.n+1)=some (.cells [.int .i64 0,.int .i64 0,.nilslice,.nilslice,.nilslice,.nilslice] (tag 78))∧t.h.get (u.n+2)=some (.cells [.int .i64 hl,.int .i64 hh,v1,v2,v3,vb] (tag 78))∧Sheets t.h (u.n+3) t.n (tabsOf bs fs i) vs vb∧u.n+3≤t.n∧t.n≤u.n+3+4000 * i∧u.n≤t.m∧t.m≤far)
   (fun e L t=>e=.exit 0∧L.find 2=.ptr (u.n+1) 0∧L.find 3=.ptr (u.n+2) 0∧∃ vs vb,(∀ c,c<u.n→t.h.get c=u.h.get c)∧t.h.get u.n=some (.cells [.int .i64 hl,.int .i64 hh,v1,v2,v3] (tag 31)) ∧
    t.h.get (u.n+1)=some (.cells [.int .i64 0,.int .i64 0,.nilslice,.nilslice,.nilslice,.nilslice] (tag 78))∧t.h.get (u.n+2)=some (.cells [.int .i64 hl,.int .i64 hh,v1,v2,v3,vb] (tag 78))∧Sheets t.h (u.n+3) t.n (tabsOf bs fs bs.length) vs vb∧u.n+3≤t.n∧t.n≤u.n+3+4000 * bs.length∧u.n≤t.m∧t.m≤far)
   bs.length (by unfold rounds;omega)
   ⟨by simp only [find_cons,reduceIte,Nat.reduceEqDiff],by simp only [find_cons,reduceIte,Nat.reduceEqDiff,new_n],by simp only [find_cons,reduceIte,Nat.reduceEqDiff,new_n],by simp only [find_cons,reduceIte,Nat.reduceEqDiff],by simp only [find_cons,reduceIte,Nat.reduceEqDiff];rfl,[],.nilslice,fun c hc=>by
    rw [get_put_ne' _ _ _ _ (by simp only [new_n];omega),get_new_ne _ _ _ (by simp only [new_n];omega),get_new_ne _ _ _ (by simp only [new_n];omega),get_new_ne _ _ _ (by omega)],by
    rw [get_put_ne' _ _ _ _ (by simp only [new_n];omega),get_new_ne _ _ _ (by simp only [new_n];omega),get_new_ne _ _ _ (by simp only [new_n];omega)];exact get_new_eq _ _ _ rfl (by omega),by
    rw [get_put_ne' _ _ _ _ (by simp only [new_n];omega),get_new_ne _ _ _ (by simp only [new_n];omega)];exact get_new_eq _ _ _ rfl (by simp only [new_n];omega),
    get_put_eq _ _ _ _ rfl (by first | omega | (simp only [new_n];omega)),⟨Rows.nil _ _ _ _ _,rfl,fun i h1 _=>absurd h1 (Nat.not_lt_zero _)⟩,Nat.le_refl _,by simp only [put_n,new_n];omega,by simp only [St.put,minN_eq,new_m,um];first | omega | (simp only [new_n];omega),by simp only [St.put,minN_eq,new_m,um];omega⟩
   (fun i L t hi ⟨q1,q2,q3,q10,q11,vs,vb,same,g1,g2,g3,hS,n1,k1,m1,mm1⟩=>by
    by_cases hlt:i<bs.length
    ·obtain ⟨L1,s1,vs',vb',p0,pa,pb,pc,pd,pe,pf,pg,ph,pi,pj,pk,pl⟩:=larder_round n (by omega) ⟨28,none,Try.f28.ntmps,X 28⟩ bs fs hl hh v1 v2 v3 vb vs u.n (u.n+2) (u.n+3) u k hR hF hkb hk hB hf n3 sc1 sc3 (by omega) (by omega) ⟨Nat.le_refl _,by omega⟩ (by omega) i L t hlt n1 (by omega) same g1 g3 hS q1 q3 q10 q11
     exact .inl ⟨hlt,L1,s1,p0,pa,by rw [pb,q2],pc,pd,by rw [pe];rfl,vs',vb',fun c hc=>(pf c (by omega) (by omega)).trans (same c hc),(pf _ (by omega) (by omega)).trans g1,(pf _ (by omega) (by omega)).trans g2,pg,ph,by omega,by omega,pk m1,by omega⟩
    ·have hib:i=bs.length:=by omega
     subst hib
     have e0:decide ((bs.length:Int)<(bs.length:Int))=false:=by simp
     refine .inr ⟨.exit 0,L.set 12 (.bool false),t,by simp,?_,rfl,by simp only [Env.find_set,q2,reduceIte,Nat.reduceEqDiff],by simp only [Env.find_set,q3,reduceIte,Nat.reduceEqDiff],vs,vb,same,g1,g2,g3,hS,n1,k1,m1,mm1⟩
     simp (disch:=first|omega|(with_unfolding_all exact rfl)|(simp only[new_n,put_n,new_m];omega)|(refine put_m_le ?_;simp only[new_m];omega)) only [res28,K28r0,K28r1,K28r2,K28r3,K28r4,K28r5,K28r6,K28r7,K28l0,K28r8,K28,Abs.W,reduceIte,Nat.reduceEqDiff,Nat.reduceAdd,decide_true,decide_false,kLoop_def,Nat.reduceSub,List.cons_append,List.nil_append,List.append_nil,List.length_cons,List.length_nil,Env.find_set,q1,q3,q10,q11,e0])
  obtain ⟨okb,cb,scb⟩:=hS.rows.scalar
  have sallb:∀ l,scalars (v1::v2::v3::vb::l)=scalars l:=fun l=>by rw [sall,scb]
  simp (disch:=first|omega|(with_unfolding_all exact rfl)|(simp only[new_n,put_n,new_m];omega)|(refine put_m_le ?_;simp only[new_m];omega)) only [res28,K28r0,K28r1,K28r2,K28r3,K28r4,K28r5,K28r6,K28r7,K28r8,K28,Abs.W,reduceIte,Nat.reduceEqDiff,Nat.reduceAdd,decide_true,decide_false,kLoop_def,Nat.reduceSub,List.cons_append,List.nil_append,List.append_nil,List.length_cons,List.length_nil,Env.find_set,f2,f3,g2,g3,sallb,Nat.zero_add]
  refine ⟨.agg [.int .i64 hl,.int .i64 hh,v1,v2,v3,vb],_,leave_cell _ _ _ _ sh ?_,⟨fun c hc=>?_,?_,?_,?_,?_⟩,⟨vs,vb,rfl,?_⟩,fun hp=>⟨vs,vb,rfl,?_⟩⟩
  ·simp (disch:=first|omega|(with_unfolding_all exact rfl)|(simp only[new_n,put_n,new_m];omega)|(refine put_m_le ?_;simp only[new_m];omega)) only [Abs.W,reduceIte,Nat.reduceEqDiff,Nat.reduceAdd,decide_true,decide_false,kLoop_def,Nat.reduceSub,List.cons_append,List.nil_append,List.append_nil,List.length_cons,List.length_nil,f2]
  ·rw [get_put_ne' _ _ _ _ (by omega)];exact same c hc
  ·simp only [put_n];omega
  ·simp only [put_n];omega
  ·simp only [St.put,minN_eq];omega
  ·simp only [St.put,minN_eq];omega
  ·exact hS.mono (fun c hc _=>get_put_ne' _ _ _ _ (by omega)) (Nat.le_refl _)
  ·have hpb:plain vb=true:=by
    exact plains_mem (l:=[.int .i64 hl,.int .i64 hh,v1,v2,v3,vb]) hp (by simp)
   have hvs:vs=[]:=by
    rcases hS.rows.is with ⟨z,_⟩ | ⟨_,_,_,z,_⟩
    ·exact List.map_eq_nil_iff.mp z
    ·rw [z] at hpb;cases hpb
   have hvb:vb=.nilslice:=by
    rcases hS.rows.is with ⟨_,z⟩ | ⟨_,_,_,z,_⟩
    ·exact z
    ·rw [z] at hpb;cases hpb
   have hl0:=hS.len
   rw [hvs] at hl0 ⊢
   rw [hvb]
   exact ⟨Rows.nil _ _ _ _ _,hl0,fun i h1 _=>absurd h1 (Nat.not_lt_zero _)⟩)
 exact ⟨vs,vb,t,hr.symm.trans e,st,hq⟩
end Go.Proofs.Ytlfalcghhckanab.walk
set_option maxRecDepth 10000
namespace Go.Proofs.Ytlfalcghhckanab.walk
open Go.Abs Go.Proofs.Ytlfalcghhckanab.code
def warmW (tabs:List (List (Int × Int))) (hour box:Int):Int × Int:=(tabs.getD box.toNat []).getD hour.toNat (0,0)
def warmAt (tabs:List (List (Int × Int))) (ts:List Stay) (hl hh hour:Int):Int × Int:=aroundOf ts hour hl hh (warmW tabs hour)
def warms (tabs:List (List (Int × Int))) (ts:List Stay) (hl hh born:Int) (m:Nat):List (Int × Int):=(List.range m).map fun i:Nat=>warmAt tabs ts hl hh (born+(i:Int))
theorem Sheets.hits {h:Heap} {lo n:Nat} {tabs:List (List (Int × Int))} {vs:List AV} {vb:AV} (r:Sheets h lo n tabs vs vb) (ht:∀ t ∈ tabs,t.length=240) (hour box:Int) (h0:0≤hour) (h1:hour<240) (b0:0≤box) (b1:box<tabs.length) :
  WarmAt h n vb box hour (warmW tabs hour box).1 (warmW tabs hour box).2:=by
 obtain ⟨i,rfl⟩:∃ i:Nat,box=i:=⟨box.toNat,by omega⟩
 obtain ⟨k,rfl⟩:∃ k:Nat,hour=k:=⟨hour.toNat,by omega⟩
 have hi:i<tabs.length:=by omega
 have hk:k<(tabs[i]).length:=by rw [ht _ (List.getElem_mem hi)];omega
 have:=r.warm i k hi hk
 have e:warmW tabs k i=(tabs[i])[k]:=by
  unfold warmW
  simp only [Int.toNat_natCast,List.getD_eq_getElem?_getD,List.getElem?_eq_getElem hi,Option.getD_some,List.getElem?_eq_getElem hk]
 rw [e];exact this
structure Takes1 (N l n0 k:Nat) (h0:Heap) (J:List (Int × Int)→Heap→Nat→Prop):Prop where
 take:∀ ws (s:St) (w:Int × Int),J ws s.h s.n→(∀ c,c<n0→s.h.get c=h0.get c)→ws.length<240→n0≤s.n→s.n+10000≤far →
  ∃ s',call Try.prog X N (.yield l) [.agg [.int .i64 w.1,.int .i64 w.2]] s=.val (.bool true) s'∧J (ws++[w]) s'.h s'.n∧(∀ c,c<n0→s'.h.get c=s.h.get c)∧s.n≤s'.n∧s'.n≤s.n+k∧(n0≤s.m→n0≤s'.m)∧s'.m≤s.m∧s'.m≤l
theorem warmths1_ex {N l n0 k p1 p2 p3 z1 z2 z3:Nat} {hl hh born keeps before:Int} {v1 v2 v3 v4 vb:AV} {s:St} {r:ARes} {J:List (Int × Int)→Heap→Nat→Prop} (tabs:List (List (Int × Int))) (ts:List Stay) (vs:List AV) (lo:Nat) (m:Nat)
  (hr:call Try.prog X N (.fn 68) [.yield l,.ptr p1 0,.ptr p2 0,.ptr p3 0] s=r) (hN:4≤N) (hT:Takes1 (N - 1) l n0 k s.h J) (hb0:0≤born) (hm:before=born+m∨before≤born∧m=0) (hb2:before≤240) (hm2:m≤240)
  (hp1:p1<n0) (hp2:p2<n0) (hp3:p3<n0) (hn:n0≤s.n) (hln:l<s.n) (hs:s.n+k * 240+k+30000≤far)
  (g1:s.h.get p1=some (.cells [.int .i64 born,.int .i64 keeps,v4] z1)) (g2:s.h.get p2=some (.cells [.int .i64 before] z2)) (g3:s.h.get p3=some (.cells [.int .i64 hl,.int .i64 hh,v1,v2,v3,vb] z3))
  (hR:RowsAt s.h n0 3 (ts.map Stay.cells) v4) (hk:ts.length≤8) (hS:Sheets s.h lo n0 tabs vs vb) (ht:∀ t ∈ tabs,t.length=240) (hts:∀ t ∈ ts,0≤t.box∧t.box<tabs.length) (hJ:J [] s.h s.n) :
  ∃ s',r=.val (.tup []) s'∧J (warms tabs ts hl hh born m) s'.h s'.n∧(∀ c,c<n0→s'.h.get c=s.h.get c)∧s.n≤s'.n∧s'.n≤s.n+k * m∧(n0≤s.m→n0≤s'.m)∧s'.m≤s.m:=by
 obtain ⟨n,rfl⟩:∃ n,N=n+1:=⟨N - 1,by omega⟩
 have hf:far=1000000000:=rfl
 rw [Nat.add_sub_cancel] at hT
 obtain ⟨w,t,mm,e,⟨rfl,q1,q2,q3,q4,q5,q6⟩,hm'⟩:=call_any (n:=n) (args:=[.yield l,.ptr p1 0,.ptr p2 0,.ptr p3 0]) (s:=s) (Q:=fun v h n m'=>v=.tup []∧J (warms tabs ts hl hh born m) h n∧(∀ c,c<n0→h.get c=s.h.get c)∧s.n≤n∧n≤s.n+k * m∧n0≤m'∧(m=0∨m'≤l)) Try.func68 rfl (fun u uh un um=>by
  rw [← uh] at g1 g2 g3 hR hS
  have hJ':J [] u.h u.n:=by rw [uh,un];exact hJ
  rw [enter68]
  simp (disch:=first|omega|(with_unfolding_all exact rfl)|(simp only[new_n,put_n,new_m];omega)|(refine put_m_le ?_;simp only[new_m];omega)) only [res68,K68r0,K68r1,K68r2,K68r3,K68,Abs.W,reduceIte,Nat.reduceEqDiff,Nat.reduceAdd,decide_true,decide_false,kLoop_def,Nat.reduceSub,List.cons_append,List.nil_append,List.append_nil,List.length_cons,List.length_nil,g1,Nat.zero_add]
  generalize hlp:loopN _ rounds _ _ _ _ _=r1
  have hkm:∀ i,i≤m→k * i≤k * 240:=fun i hi=>Nat.mul_le_mul_left k (by omega)
  obtain ⟨e,L1,s1,rfl,rfl,j1,j2,j3,j4,j5,j6⟩:=loop_of hlp
   (fun i L t=>L.find 0=.yield l∧L.find 1=.ptr p1 0∧L.find 2=.ptr p2 0∧L.find 3=.ptr p3 0∧L.find 5=.int .i64 (born+(i:Int))∧J (warms tabs ts hl hh born i) t.h t.n∧(∀ c,c<n0→t.h.get c=u.h.get c)∧u.n≤t.n∧t.n≤u.n+k * i∧n0≤t.m∧(i=0∨t.m≤l))
   (fun e L t=>e=.exit 0∧J (warms tabs ts hl hh born m) t.h t.n∧(∀ c,c<n0→t.h.get c=u.h.get c)∧u.n≤t.n∧t.n≤u.n+k * m∧n0≤t.m∧(m=0∨t.m≤l)) m (by unfold rounds;omega)
   ⟨by simp only [find_cons,reduceIte,Nat.reduceEqDiff],by simp only [find_cons,reduceIte,Nat.reduceEqDiff],by simp only [find_cons,reduceIte,Nat.reduceEqDiff],by simp only [find_cons,reduceIte,Nat.reduceEqDiff],by simp only [find_cons,reduceIte,Nat.reduceEqDiff];simp,hJ',fun _ _=>rfl,Nat.le_refl _,Nat.le_add_right _ _,by omega,.inl rfl⟩
   (fun i L t hi ⟨f0,f1,f2,f3,f5,JJ,same,nn,nk,pm,lm⟩=>by
    have hki:=hkm i hi
    have g1':=(same p1 hp1).trans g1
    have g2':=(same p2 hp2).trans g2
    have g3':=(same p3 hp3).trans g3
    by_cases hlt:i<m
    ·have e0:decide (born+(i:Int)<before)=true:=by simp;omega
     have har:=around_ok n (by omega) ts born keeps hl hh (born+(i:Int)) v1 v2 v3 v4 vb (warmW tabs (born+(i:Int))) t (hR.grow same (by omega)) hk (by omega) (fun q hq _=>((hS.hits ht _ q.box (by omega) (by omega) (hts q hq).1 (hts q hq).2).grow same (by omega)))
     obtain ⟨s2,e2,J2,o2,n2,k2,m2,mm2,ml2⟩:=hT.take (warms tabs ts hl hh born i) t (warmAt tabs ts hl hh (born+(i:Int))) JJ (fun c hc=>by rw [same c hc,uh]) (by unfold warms;rw [List.length_map,List.length_range];omega) (by omega) (by omega)
     unfold warmAt at e2
     have a1:∀ s,aAdd s .i64 (born+(i:Int)) 1=.val (.int .i64 (born+(i:Int)+1)) s:=fun s=>aAdd_i64 s _ _ (by omega)
     refine .inl ⟨hlt,(((L.set 10 (.bool true)).set 19 (.bool false)).set 5 (.int .i64 (born+(i:Int)+1))),s2,?_,?_⟩
     ·simp (disch:=first|omega|(with_unfolding_all exact rfl)|(simp only[new_n,put_n,new_m];omega)|(refine put_m_le ?_;simp only[new_m];omega)) only [res68,K68r0,K68r1,K68r2,K68r3,K68l0,K68,Abs.W,reduceIte,Nat.reduceEqDiff,Nat.reduceAdd,decide_true,decide_false,kLoop_def,Nat.reduceSub,List.cons_append,List.nil_append,List.append_nil,List.length_cons,List.length_nil,Env.find_set,f0,f1,f2,f3,f5,g1',g2',g3',e0,har,e2,a1,Nat.zero_add]
     ·refine ⟨by simp only [Env.find_set,f0,reduceIte,Nat.reduceEqDiff],by simp only [Env.find_set,f1,reduceIte,Nat.reduceEqDiff],by simp only [Env.find_set,f2,reduceIte,Nat.reduceEqDiff],by simp only [Env.find_set,f3,reduceIte,Nat.reduceEqDiff],by simp only [Env.find_set,reduceIte,Nat.reduceEqDiff];congr 1;omega,?_,fun c hc=>(o2 c hc).trans (same c hc),by omega,by rw [Nat.mul_succ];omega,m2 pm,.inr ml2⟩
      have:warms tabs ts hl hh born (i+1)=warms tabs ts hl hh born i++[warmAt tabs ts hl hh (born+(i:Int))]:=by
       unfold warms;rw [List.range_succ,List.map_append];rfl
      rw [this];exact J2
    ·have him:i=m:=by omega
     subst him
     have e0:decide (born+(i:Int)<before)=false:=decide_eq_false (by omega)
     refine .inr ⟨.exit 0,L.set 10 (.bool false),t,by simp,?_,rfl,JJ,same,nn,nk,pm,lm⟩
     simp (disch:=first|omega|(with_unfolding_all exact rfl)|(simp only[new_n,put_n,new_m];omega)|(refine put_m_le ?_;simp only[new_m];omega)) only [res68,K68r0,K68r1,K68r2,K68r3,K68l0,K68,Abs.W,reduceIte,Nat.reduceEqDiff,Nat.reduceAdd,decide_true,decide_false,kLoop_def,Nat.reduceSub,List.cons_append,List.nil_append,List.append_nil,List.length_cons,List.length_nil,Env.find_set,f0,f1,f2,f3,f5,g1',g2',g3',e0,Nat.zero_add])
  simp (disch:=first|omega|(with_unfolding_all exact rfl)|(simp only[new_n,put_n,new_m];omega)|(refine put_m_le ?_;simp only[new_m];omega)) only [res68,K68r0,K68r1,K68r2,K68r3,K68,Abs.W,reduceIte,Nat.reduceEqDiff,Nat.reduceAdd,decide_true,decide_false,kLoop_def,Nat.reduceSub,List.cons_append,List.nil_append,List.append_nil,List.length_cons,List.length_nil,leave_nil]
  refine ⟨_,_,rfl,⟨rfl,j1,fun c hc=>by rw [j2 c hc,uh],by omega,by omega,j5,j6⟩,fun _ hle=>?_⟩
  rcases j6 with h0 | h1
  ·subst h0
   exact ⟨by trivial,hJ,by first | (intros;trivial) | (intros;rfl),Nat.le_refl _,Nat.le_add_right _ _,j5,.inl rfl⟩
  ·omega)
 refine ⟨t,hr.symm.trans e,q1,q2,q3,q4,?_,?_⟩
 ·rcases hm' with ⟨_,hm'⟩ | ⟨_,hm'⟩<;>omega
 ·rcases hm' with ⟨_,hm'⟩ | ⟨_,hm'⟩<;>omega
end Go.Proofs.Ytlfalcghhckanab.walk
set_option maxRecDepth 10000
namespace Go.Proofs.Ytlfalcghhckanab.walk
open Go.Abs Go.Proofs.Ytlfalcghhckanab.code
def total (f:Int × Int→Int):List (Int × Int)→Int
 | []=>0
 | w::ws=>f w+total f ws
theorem total_snoc (f:Int × Int→Int) (w:Int × Int):∀ ws,total f (ws++[w])=total f ws+f w
 | []=>by simp [total]
 | x::ws=>by rw [List.cons_append];unfold total;rw [total_snoc f w ws];omega
theorem total_range (f:Int × Int→Int) (hf:∀ w,0≤f w∧f w≤1000):∀ ws:List (Int × Int),0≤total f ws∧total f ws≤1000 * ws.length
 | []=>by simp [total]
 | x::ws=>by
  have h1:=total_range f hf ws
  have h2:=hf x
  unfold total
  rw [List.length_cons]
  push_cast
  omega
theorem lossFrom_range (t:Int):∀ (rs:List Rate) (cur:Int),(∀ r ∈ rs,r.Ok)→0≤cur∧cur≤1000→0≤lossFrom t cur rs∧lossFrom t cur rs≤1000
 | [],cur,_,h=>h
 | r::rs,cur,hr,h=>by
  unfold lossFrom
  by_cases e:t<r.above
  ·rw [if_pos e];exact h
  ·rw [if_neg e]
   have:=hr r (List.mem_cons_self ..)
   exact lossFrom_range t rs r.loss (fun x hx=>hr x (List.mem_cons_of_mem _ hx)) ⟨this.l0,this.l1⟩
def lostLo (rs:List Rate) (ws:List (Int × Int)):Int:=total (fun w=>lossFrom w.1 0 rs) ws
def lostHi (rs:List Rate) (ws:List (Int × Int)):Int:=total (fun w=>lossFrom w.2 0 rs) ws
structure Sums (q:Nat) (rs:List Rate) (larder:AV) (R:ALoop) (ws:List (Int × Int)) (h:Heap) (n:Nat):Prop where
 told:h.get q=some (.cells [.func 49 [larder] []] (tag 104))
 out:h.get (q+1)=some (.cells [.int .i64 0,.int .i64 0] (tag 26))
 all:h.get (q+2)=some (.cells [.int .i64 (lostLo rs ws),.int .i64 (lostHi rs ws)] (tag 26))
 loop:h.get (q+4)=some (.loop R)
 dfr:h.get (q+3)=some .dfr
 n:q+5≤n
 few:ws.length≤240
theorem sum_takes (N:Nat) (hN:3≤N) (q:Nat) (h0:Heap) (R:ALoop) (L0:Env) (rs:List Rate) (hl hh:Int) (v1 v2 v3 vb:AV) (hR:R=⟨.ready,none,47,L0,[9],(rangeAt Try.f47 0).1,(rangeAt Try.f47 0).2,q+3,Try.f47.ntmps,X 47⟩)
  (hRt:RowsAt h0 q 2 (rs.map Rate.cells) v3) (hk:rs.length≤6) (hr:∀ r ∈ rs,r.Ok) (h3:L0.find 3=.ptr q 0) (h5:L0.find 5=.ptr (q+2) 0):Takes1 (N+1) (q+4) q 2 h0 (Sums q rs (.agg [.int .i64 hl,.int .i64 hh,v1,v2,v3,vb]) R):=by
 have hf:far=1000000000:=rfl
 refine ⟨?_⟩
 intro ws s w ⟨g1,g2,g3,g4,g5,g6,g7⟩ hsame hwl hqn hs
 obtain ⟨w0,w1⟩:=w
 have b0:=lossFrom_range w0 rs 0 hr ⟨by omega,by omega⟩
 have b1:=lossFrom_range w1 rs 0 hr ⟨by omega,by omega⟩
 have c0:0≤lostLo rs ws∧lostLo rs ws≤1000 * ws.length:=total_range _ (fun w=>lossFrom_range w.1 rs 0 hr ⟨by omega,by omega⟩) ws
 have c1:0≤lostHi rs ws∧lostHi rs ws≤1000 * ws.length:=total_range _ (fun w=>lossFrom_range w.2 rs 0 hr ⟨by omega,by omega⟩) ws
 have d0:lostLo rs (ws++[(w0,w1)])=lostLo rs ws+lossFrom w0 0 rs:=total_snoc _ _ _
 have d1:lostHi rs (ws++[(w0,w1)])=lostHi rs ws+lossFrom w1 0 rs:=total_snoc _ _ _
 obtain ⟨s1,hs1⟩:∃ s1:St,s1=(s.new (.cells [.int .i64 0,.int .i64 0] (tag 93))).put s.n (.cells [.int .i64 w0,.int .i64 w1] (tag 93)):=⟨_,rfl⟩
 have s1n:s1.n=s.n+1:=by rw [hs1];rfl
 have s1g:∀ c,c≠s.n→s1.h.get c=s.h.get c:=fun c hc=>by rw [hs1,get_put_ne' _ _ _ _ hc,get_new_ne _ _ _ hc]
 have s1m:s1.m=min s.m s.n:=by rw [hs1];simp only [St.put,minN_eq,new_m]
 have s1w:s1.h.get s.n=some (.cells [.int .i64 w0,.int .i64 w1] (tag 93)):=by rw [hs1];exact get_put_eq _ _ _ _ rfl (by omega)
 have h1:K47a0 (call Try.prog X N) ⟨47,some (q+4),Try.f47.ntmps,X 47⟩ (setParams L0 [9] [.agg [.int .i64 w0,.int .i64 w1]]) [] s=.done .norm ((L0.set 9 (.agg [.int .i64 w0,.int .i64 w1])).set 6 (.ptr s.n 0)) [] s1:=by
  rw [hs1]
  simp (disch:=first|omega|(with_unfolding_all exact rfl)|(simp only[new_n,put_n,new_m];omega)|(refine put_m_le ?_;simp only[new_m];omega)) only [K47a0,K47a0r0,Abs.W,reduceIte,Nat.reduceEqDiff,Nat.reduceAdd,decide_true,decide_false,kLoop_def,Nat.reduceSub,List.cons_append,List.nil_append,List.append_nil,List.length_cons,List.length_nil,setParams1,Env.find_set,Nat.reduceEqDiff]
 obtain ⟨s2,hs2⟩:∃ s2:St,s2=s1.put (q+4) (.loop { R with state:=.busy }):=⟨_,rfl⟩
 have s2n:s2.n=s.n+1:=by rw [hs2];exact s1n
 have s2g:∀ c,c≠s.n→c≠q+4→s2.h.get c=s.h.get c:=fun c hc hc3=>by rw [hs2,get_put_ne' _ _ _ _ hc3];exact s1g c hc
 have s2l:s2.h.get (q+4)=some (.loop { R with state:=.busy }):=by rw [hs2];exact get_put_eq _ _ _ _ rfl (by omega)
 have s2w:s2.h.get s.n=some (.cells [.int .i64 w0,.int .i64 w1] (tag 93)):=by rw [hs2,get_put_ne' _ _ _ _ (by omega)];exact s1w
 have s2m:s2.m=min (min s.m s.n) (q+4):=by rw [hs2];simp only [St.put,minN_eq,s1m]
 have g1':=(s2g q (by omega) (by omega)).trans g1
 have g3':=(s2g (q+2) (by omega) (by omega)).trans g3
 have hls:=loss_ok N (by omega) rs hl hh w0 w1 v1 v2 v3 vb s2 (hRt.grow (fun c hc=>(s2g c (by omega) (by omega)).trans (hsame c hc)) (by omega)) (by omega) (by omega)
 have a1:∀ s,aAdd s .i64 (lostLo rs ws) (lossFrom w0 0 rs)=.val (.int .i64 (lostLo rs ws+lossFrom w0 0 rs)) s:=fun s=>aAdd_i64 s _ _ (by omega)
 have a2:∀ s,aAdd s .i64 (lostHi rs ws) (lossFrom w1 0 rs)=.val (.int .i64 (lostHi rs ws+lossFrom w1 0 rs)) s:=fun s=>aAdd_i64 s _ _ (by omega)
 have h4:∃ s3,K47b0 (call Try.prog X N) ⟨47,some (q+4),Try.f47.ntmps,X 47⟩ ((L0.set 9 (.agg [.int .i64 w0,.int .i64 w1])).set 6 (.ptr s.n 0)) [] s2=.done .norm (((L0.set 9 (.agg [.int .i64 w0,.int .i64 w1])).set 6 (.ptr s.n 0)).set 7 (.ptr s2.n 0)) [] s3 ∧
   (∀ c,c<s2.n→c≠q+2→s3.h.get c=s2.h.get c)∧s3.h.get (q+2)=some (.cells [.int .i64 (lostLo rs (ws++[(w0,w1)])),.int .i64 (lostHi rs (ws++[(w0,w1)]))] (tag 26))∧s3.n=s2.n+1∧(q≤s2.m→q≤s3.m)∧s3.m≤s2.m:=by
  simp (disch:=first|omega|(with_unfolding_all exact rfl)|(simp only[new_n,put_n,new_m];omega)|(refine put_m_le ?_;simp only[new_m];omega)) only [K47b0,K47b0r0,K47b0r1,K47b0r2,Abs.W,reduceIte,Nat.reduceEqDiff,Nat.reduceAdd,decide_true,decide_false,kLoop_def,Nat.reduceSub,List.cons_append,List.nil_append,List.append_nil,List.length_cons,List.length_nil,Env.find_set,h3,h5,g1',g3',s2w,hls,okA_func,ixa2_0,ixa2_1,a1,a2,Nat.zero_add]
  refine ⟨_,rfl,fun c hc hcq=>?_,?_,rfl,fun hq=>?_,?_⟩
  ·rw [get_put_ne' _ _ _ _ hcq,get_put_ne' _ _ _ _ hcq,get_put_ne' _ _ _ _ (by omega),get_new_ne _ _ _ (by omega)]
  ·rw [d0,d1];exact get_put_eq _ _ _ _ rfl (by omega)
  ·simp only [St.put,minN_eq,new_m];omega
  ·simp only [St.put,minN_eq,new_m];omega
 obtain ⟨s3,h4,s3g,s3q,s3n,s3m,s3mm⟩:=h4
 have g6':s3.h.get (q+4)=some (.loop { R with state:=.busy }):=(s3g _ (by omega) (by omega)).trans s2l
 have h4':=h4
 rw [hs2] at h4'
 have hfin:=call_round (P:=Try.prog) (X:=X) (n:=N) (l:=q+4) (args:=[.agg [.int .i64 w0,.int .i64 w1]]) (r:=R) (r1:=R) (r2:={ R with state:=.busy }) (s:=s) (s1:=s1) (s2:=s3) (e:=.norm) g4 (by rw [hR];rfl) (by rw [hR];exact code47a0) (by rw [hR];exact code47b0) (by rw [hR];exact h1) (by rw [s1g _ (by omega)];exact g4) (by rw [hR]) (by rw [hR];rw [hR] at h4';exact h4') g6'
 have hRR:({ ({ R with state:=.busy }:ALoop) with state:=if goesOn .norm then .ready else .done,pending:=jumpOf .norm }:ALoop)=R:=by rw [hR];rfl
 rw [hRR] at hfin
 refine ⟨_,hfin,⟨?_,?_,?_,get_put_eq _ _ _ _ rfl (by omega),?_,?_,?_⟩,fun c hc=>?_,?_,?_,fun hpm=>?_,?_,?_⟩
 ·rw [get_put_ne' _ _ _ _ (by omega)];exact (s3g _ (by omega) (by omega)).trans g1'
 ·rw [get_put_ne' _ _ _ _ (by omega)];exact (s3g _ (by omega) (by omega)).trans ((s2g _ (by omega) (by omega)).trans g2)
 ·rw [get_put_ne' _ _ _ _ (by omega)];exact s3q
 ·rw [get_put_ne' _ _ _ _ (by omega)];exact (s3g _ (by omega) (by omega)).trans ((s2g _ (by omega) (by omega)).trans g5)
 ·simp only [put_n];omega
 ·rw [List.length_append,List.length_singleton];omega
 ·rw [get_put_ne' _ _ _ _ (by omega)];exact (s3g _ (by omega) (by omega)).trans (s2g _ (by omega) (by omega))
 ·simp only [put_n];omega
 ·simp only [put_n];omega
 ·have:=s3m (by omega)
  simp only [St.put,minN_eq];omega
 ·simp only [St.put,minN_eq];omega
 ·simp only [St.put,minN_eq];omega
end Go.Proofs.Ytlfalcghhckanab.walk
set_option maxRecDepth 10000
namespace Go.Proofs.Ytlfalcghhckanab.walk
open Go.Abs Go.Proofs.Ytlfalcghhckanab.code
theorem sum_ok {N p1 p2 p3 z1 z2 z3:Nat} {hl hh born keeps before:Int} {v1 v2 v3 v4 vb:AV} {s:St} (tabs:List (List (Int × Int))) (ts:List Stay) (rs:List Rate) (vs:List AV) (lo:Nat) (m:Nat) (hN:7≤N) (hb0:0≤born) (hm:before=born+m∨before≤born∧m=0) (hb2:before≤240) (hm2:m≤240)
  (hp1:p1<s.n) (hp2:p2<s.n) (hp3:p3<s.n) (hs:s.n+50000≤far)
  (g1:s.h.get p1=some (.cells [.int .i64 born,.int .i64 keeps,v4] z1)) (g2:s.h.get p2=some (.cells [.int .i64 before] z2)) (g3:s.h.get p3=some (.cells [.int .i64 hl,.int .i64 hh,v1,v2,v3,vb] z3))
  (hR:RowsAt s.h s.n 3 (ts.map Stay.cells) v4) (hk:ts.length≤8) (hS:Sheets s.h lo s.n tabs vs vb) (ht:∀ t ∈ tabs,t.length=240) (hts:∀ t ∈ ts,0≤t.box∧t.box<tabs.length)
  (hRt:RowsAt s.h s.n 2 (rs.map Rate.cells) v3) (hkr:rs.length≤6) (hr:∀ r ∈ rs,r.Ok) :
  call Try.prog X N (.fn 47) [.func 68 [] [.ptr p1 0,.ptr p2 0,.ptr p3 0],.func 49 [.agg [.int .i64 hl,.int .i64 hh,v1,v2,v3,vb]] []] s =
   .val (.agg [.int .i64 (lostLo rs (warms tabs ts hl hh born m)),.int .i64 (lostHi rs (warms tabs ts hl hh born m))]) s:=by
 obtain ⟨n,rfl⟩:∃ n,N=n+1:=⟨N - 1,by omega⟩
 refine call_plain' Try.func47 (fun u uh un um=>?_) rfl
 have hff:far=1000000000:=rfl
 rw [← uh] at g1 g2 g3
 rw [← uh,← un] at hR hS hRt
 have sh:shapeT Try.prog 26=some (some 2):=by kernel_rfl
 rw [enter47]
 simp (disch:=first|omega|(with_unfolding_all exact rfl)|(simp only[new_n,put_n,new_m];omega)|(refine put_m_le ?_;simp only[new_m];omega)) only [res47,K47r0,K47r1,K47r2,K47r3,K47,K47a0r0,K47a0,K47b0r0,K47b0r1,K47b0r2,K47b0,Abs.W,reduceIte,Nat.reduceEqDiff,Nat.reduceAdd,decide_true,decide_false,kLoop_def,Nat.reduceSub,List.cons_append,List.nil_append,List.append_nil,List.length_cons,List.length_nil,boxA_func]
 obtain ⟨w,hw⟩:∃ w:St,w=((u.new (.cells [.func 49 [.agg [.int .i64 hl,.int .i64 hh,v1,v2,v3,vb]] []] (tag 104))).new (.cells [.int .i64 0,.int .i64 0] (tag 26))).new (.cells [.int .i64 0,.int .i64 0] (tag 26)):=⟨_,rfl⟩
 rw [← hw]
 have wn:w.n=u.n+3:=by rw [hw];rfl
 have wm:w.m=far:=by rw [hw];exact um
 have wg:∀ c,c<u.n→w.h.get c=u.h.get c:=fun c hc=>by rw [hw,get_new_ne _ _ _ (by simp only [new_n];omega),get_new_ne _ _ _ (by simp only [new_n];omega),get_new_ne _ _ _ (by omega)]
 have w0:w.h.get u.n=some (.cells [.func 49 [.agg [.int .i64 hl,.int .i64 hh,v1,v2,v3,vb]] []] (tag 104)):=by
  rw [hw,get_new_ne _ _ _ (by simp only [new_n];omega),get_new_ne _ _ _ (by simp only [new_n];omega)];exact get_new_eq _ _ _ rfl (by omega)
 have w1:w.h.get (u.n+1)=some (.cells [.int .i64 0,.int .i64 0] (tag 26)):=by
  rw [hw,get_new_ne _ _ _ (by simp only [new_n];omega)];exact get_new_eq _ _ _ rfl (by simp only [new_n];omega)
 have w2:w.h.get (u.n+2)=some (.cells [.int .i64 0,.int .i64 0] (tag 26)):=by rw [hw];exact get_new_eq _ _ _ rfl (by simp only [new_n];omega)
 generalize hL:Env.cons 0 _ _=L0
 have f3:L0.find 3=.ptr u.n 0:=by rw [← hL];simp only [find_cons,reduceIte,Nat.reduceEqDiff]
 have f4:L0.find 4=.ptr (u.n+1) 0:=by rw [← hL];simp only [find_cons,reduceIte,Nat.reduceEqDiff,new_n]
 have f5:L0.find 5=.ptr (u.n+2) 0:=by rw [← hL];simp only [find_cons,reduceIte,Nat.reduceEqDiff,new_n]
 have f8:L0.find 8=.func 68 [] [.ptr p1 0,.ptr p2 0,.ptr p3 0]:=by rw [← hL];simp only [find_cons,reduceIte,Nat.reduceEqDiff]
 obtain ⟨R,hRdef⟩:∃ R:ALoop,R=⟨.ready,none,47,L0,[9],(rangeAt Try.f47 0).1,(rangeAt Try.f47 0).2,u.n+3,Try.f47.ntmps,X 47⟩:=⟨_,rfl⟩
 obtain ⟨n2,rfl⟩:∃ n2,n=n2+2:=⟨n - 2,by omega⟩
 obtain ⟨x2,hx2⟩:∃ w2:St,w2=(w.new .dfr).new (.loop R):=⟨_,rfl⟩
 have x2n:x2.n=u.n+5:=by rw [hx2];show w.n+1+1=_;omega
 have x2m:x2.m=far:=by rw [hx2];exact wm
 have x2g:∀ c,c<u.n+3→x2.h.get c=w.h.get c:=fun c hc=>by rw [hx2,get_new_ne _ _ _ (by simp only [new_n];omega),get_new_ne _ _ _ (by omega)]
 have x2d:x2.h.get (u.n+3)=some .dfr:=by rw [hx2,get_new_ne _ _ _ (by simp only [new_n];omega)];exact get_new_eq _ _ _ wn.symm (by omega)
 have x2l:x2.h.get (u.n+4)=some (.loop R):=by rw [hx2];exact get_new_eq _ _ _ (by simp only [new_n];omega) (by simp only [new_n];omega)
 have x2u:∀ c,c<u.n→x2.h.get c=u.h.get c:=fun c hc=>(x2g c (by omega)).trans (wg c hc)
 have hT:=sum_takes n2 (by omega) u.n x2.h R L0 rs hl hh v1 v2 v3 vb hRdef (hRt.grow x2u (Nat.le_refl _)) hkr hr f3 f5
 have G0:Sums u.n rs (.agg [.int .i64 hl,.int .i64 hh,v1,v2,v3,vb]) R [] x2.h x2.n:=⟨(x2g _ (by omega)).trans w0,(x2g _ (by omega)).trans w1,(x2g _ (by omega)).trans w2,x2l,x2d,by omega,by simp⟩
 generalize hc:call Try.prog X (n2+2) (.fn 68) [.yield (u.n+4),.ptr p1 0,.ptr p2 0,.ptr p3 0] x2=r94
 obtain ⟨s2,rfl,G,same,sn,sk,sm,smm⟩:=warmths1_ex tabs ts vs lo m hc (by omega) hT hb0 hm hb2 hm2 (by omega) (by omega) (by omega) (by omega) (by omega) (by omega) ((x2u p1 (by omega)).trans g1) ((x2u p2 (by omega)).trans g2) ((x2u p3 (by omega)).trans g3) (hR.grow x2u (Nat.le_refl _)) hk (hS.mono (fun c _ hc=>x2u c hc) (Nat.le_refl _)) ht hts G0
 obtain ⟨G1,G2,G3,G4,G5,G6,G7⟩:=G
 have hcall:callV (call Try.prog X (n2+2)) [.yield (w.n+1)] ((w.new .dfr).new (.loop ⟨.ready,none,47,L0,[9],(rangeAt Try.f47 0).1,(rangeAt Try.f47 0).2,w.n,Try.f47.ntmps,X 47⟩)) ((Arg.tmp 8).ev L0)=.val (.tup []) s2:=by
  rw [ev_tmp,f8,callV_func,wn,← hRdef,← hx2]
  exact hc
 have hrange:=range_to_end (ps:=[9]) (c:=⟨47,none,Try.f47.ntmps,X 47⟩) rfl hcall (by rw [wn];exact G4) (by rw [hRdef]) (by rw [hRdef])
 rw [wn] at hrange
 have g2':∀ o,((s2.put (u.n+4) o).h.get (u.n+1))=some (.cells [.int .i64 0,.int .i64 0] (tag 26)):=fun o=>by rw [get_put_ne' _ _ _ _ (by omega)];exact G2
 have g3':∀ o,((s2.put (u.n+4) o).h.get (u.n+2))=some (.cells [.int .i64 (lostLo rs (warms tabs ts hl hh born m)),.int .i64 (lostHi rs (warms tabs ts hl hh born m))] (tag 26)):=fun o=>by rw [get_put_ne' _ _ _ _ (by omega)];exact G3
 have gd':∀ o o2,((s2.put (u.n+4) o).put (u.n+1) o2).h.get (u.n+3)=some .dfr:=fun o o2=>by rw [get_put_ne' _ _ _ _ (by omega),get_put_ne' _ _ _ _ (by omega)];exact G5
 simp (disch:=first|omega|(with_unfolding_all exact rfl)|(simp only[new_n,put_n,new_m];omega)|(refine put_m_le ?_;simp only[new_m];omega)) only [res47,K47r0,K47r1,K47r2,K47r3,K47,K47a0r0,K47a0,K47b0r0,K47b0r1,K47b0r2,K47b0,Abs.W,reduceIte,Nat.reduceEqDiff,Nat.reduceAdd,decide_true,decide_false,kLoop_def,Nat.reduceSub,List.cons_append,List.nil_append,List.append_nil,List.length_cons,List.length_nil,hrange,Env.find_set,f4,f5,g2',g3',Nat.zero_add]
 rw [leave_dfr _ _ _ _ _ (gd' _ _)]
 refine ⟨_,leave_cell _ _ _ _ sh ?_,?_⟩
 ·rw [f4,load_ptr,get_kill_ne _ _ _ (by omega),get_put_eq _ _ _ _ rfl (by omega)]
  simp (disch:=first|omega|(with_unfolding_all exact rfl)|(simp only[new_n,put_n,new_m];omega)|(refine put_m_le ?_;simp only[new_m];omega)) only [Abs.W,reduceIte,Nat.reduceEqDiff,Nat.reduceAdd,decide_true,decide_false,kLoop_def,Nat.reduceSub,List.cons_append,List.nil_append,List.append_nil,List.length_cons,List.length_nil]
 ·have:=sm (by omega)
  simp only [St.kill,St.put,minN_eq];omega
end Go.Proofs.Ytlfalcghhckanab.walk
