/- What is known holds of whatever keeps all that is said; facts. -/
import Derived.Test.YtoolodjbfphkjaaM4
import Derived.Test.YtoolodjbfphkjaaM5
import Derived.Test.YtoolodjbfphkjaaCodes
import Derived.Test.YtoolodjbfphkjaaM1
import Derived.Test.YtoolodjbfphkjaaWalkAll
set_option linter.unusedSimpArgs false
set_option maxHeartbeats 16000000
set_option linter.unusedVariables false
set_option maxRecDepth 10000
namespace Go.Proofs.Ytoolodjbfphkjaa.walk
open Go.Abs Go.Proofs.Ytoolodjbfphkjaa.code
end Go.Proofs.Ytoolodjbfphkjaa.walk
set_option maxRecDepth 10000
namespace Go.Abs
end Go.Abs
namespace Go.Proofs.Ytoolodjbfphkjaa.walk
open Go.Abs Go.Proofs.Ytoolodjbfphkjaa.code
theorem scB_of {h:Heap} {n:Nat} {b:Bench} {v1 v2 v3 v4:AV} (hB:BenchAt h n b v1 v2 v3 v4) (s:St):scalars [v1,v2,v3,v4,.int .i64 (b.days:Int)]=true:=by rw [scals_cons (by have:=scal_ln (hB.m.len s);simp [scalars,this]),scals_cons (by have:=scal_ln (hB.w.len s);simp [scalars,this]),scals_cons (by have:=scal_ln (hB.s.len s);simp [scalars,this]),scals_cons (by have:=scal_ln (hB.t.len s);simp [scalars,this])];rfl
end Go.Proofs.Ytoolodjbfphkjaa.walk
set_option maxRecDepth 10000
namespace Go.Proofs.Ytoolodjbfphkjaa.walk
open Go.Abs Go.Proofs.Ytoolodjbfphkjaa.code
def selW (b:Bench) (l:List Nat):List Weigh:=(l.filter fun i=>decide (i<b.ws.length)).map fun i=>wAt b i
def selT (b:Bench) (l:List Nat):List Trial:=(l.filter fun i=>!decide (i<b.ws.length)).map fun i=>tAt b (i - b.ws.length)
theorem selW_snoc (b:Bench) (l:List Nat) (i:Nat):selW b (l++[i])=if i<b.ws.length then selW b l++[wAt b i] else selW b l:=by
 unfold selW
 rw [List.filter_append]
 by_cases h:i<b.ws.length
 ·rw [if_pos h];simp [h]
 ·rw [if_neg h];simp [h]
theorem selT_snoc (b:Bench) (l:List Nat) (i:Nat):selT b (l++[i])=if i<b.ws.length then selT b l else selT b l++[tAt b (i - b.ws.length)]:=by
 unfold selT
 rw [List.filter_append]
 by_cases h:i<b.ws.length
 ·rw [if_pos h];simp [h]
 ·rw [if_neg h];simp [h]
def onlyT:Nat→Nat
 | 0=>tag 70
 | _=>tag 72
def onlyR (ws:List Weigh) (ts:List Trial):Nat→List (List AV)
 | 0=>ws.map Weigh.cells
 | 1=>ts.map Trial.cells
 | _=>[]
structure OnlyJ (u t:St) (b:Bench) (v1 v2 v3 v4:AV) (ws:List Weigh) (ts:List Trial) (p2 p5 lo k:Nat) (bs:Nat→Nat) (vs:Nat→AV):Prop where
 g2:t.h.get p2=some (.cells [v1,v2,v3,v4,.int .i64 b.days] (tag 28))
 g5:t.h.get p5=some (.cells [v1,vs 0,v3,vs 1,.int .i64 b.days] (tag 28))
 ls:Lists t.h t.n lo (fun _=>4) onlyT (onlyR ws ts) bs vs
 be:Beside u t k
 pl:u.n≤p2∧p2<p5∧p5<lo∧lo≤t.n
theorem only_round (N:Nat) (cx:Ctx) {b:Bench} {v1 v2 v3 v4 vl:AV} {u t:St} {L:Env} {l:List Nat} {ws:List Weigh} {ts:List Trial} {p2 p5 lo k i:Nat} {bs:Nat→Nat} {vs:Nat→AV} (ok:b.Ok) (hB:BenchAt u.h u.n b v1 v2 v3 v4) (hl:RowsAt u.h u.n 1 (intRows (l.map Int.ofNat)) vl) (hli:i<l.length) (hl50:l.length≤50) (hx:l[i]<b.ws.length+b.ts.length) (hs:u.n+k+1000≤far)
  (hJ:OnlyJ u t b v1 v2 v3 v4 ws ts p2 p5 lo k bs vs) (hwl:ws.length≤50) (htl:ts.length≤50) (q1:L.find 1=vl) (q2:L.find 2=.ptr p2 0) (q5:L.find 5=.ptr p5 0) (q6:L.find 6=.int .i64 i) :
  ∃ L1 t1 bs1 vs1,K11l0 (call Try.prog X N) cx L [] t=.done .norm L1 [] t1∧L1.find 1=vl∧L1.find 2=.ptr p2 0∧L1.find 4=L.find 4∧L1.find 5=.ptr p5 0∧L1.find 6=.int .i64 (i+1:Nat) ∧
   OnlyJ u t1 b v1 v2 v3 v4 (if l[i]<b.ws.length then ws++[wAt b l[i]] else ws) (if l[i]<b.ws.length then ts else ts++[tAt b (l[i] - b.ws.length)]) p2 p5 lo (k+2) bs1 vs1∧∀ c,c<lo→c≠p5→t1.h.get c=t.h.get c:=by
 have hf:far=1000000000:=rfl
 obtain ⟨g2,g5,ls,be,pl1,pl2,pl3,pl4⟩:=hJ
 have tn:=be.n
 have tl:=be.le
 have c1:=ok.w1
 have c2:=ok.t1
 have ll:=hl.len
 rw [intRows_len,List.length_map] at ll
 have e0:decide ((i:Int)<(l.length:Int))=true:=decide_eq_true (by omega)
 obtain ⟨xi,pi,ci,zi,a1,a2,a3,a4⟩:=intRow_at hl (i:=i) (by rw [List.length_map];exact hli)
 rw [show (l.map Int.ofNat).getD i 0=((l[i]:Nat):Int) by simp [List.getD,hli]] at a4
 have a3':=(be.same _ a1).trans a3
 have kl:∀ t,okA (.val vl t)=.val vl t:=fun t=>okA_ne hl.ne
 have k2:∀ t,okA (.val v2 t)=.val v2 t:=fun t=>okA_ne hB.w.ne
 have k4:∀ t,okA (.val v4 t)=.val v4 t:=fun t=>okA_ne hB.t.ne
 have l2:=hB.w.len
 rw [List.length_map] at l2
 have w0:=(ls.at_ 0).okA
 have w1:=(ls.at_ 1).okA
 have ad:∀ s,aAdd s .i64 (i:Int) 1=.val (.int .i64 ((i:Int)+1)) s:=fun s=>aAdd_i64 s _ _ (by omega)
 generalize l[i]=x at *
 by_cases h:x<b.ws.length
 ·have e1:decide ((x:Int)<(b.ws.length:Int))=true:=decide_eq_true (by omega)
  rw [if_pos h,if_pos h]
  obtain ⟨x0,o0,cs,sz,r1,r2,r3,r4⟩:=hB.w.at_ x (by rw [List.length_map];exact h)
  rw [List.getElem_map,wAt_at h] at r4
  have r3':=(be.same _ r1).trans r3
  obtain ⟨M,hM⟩:∃ M,M=wAt b x:=⟨_,rfl⟩
  rw [← hM] at r4 ⊢
  unfold Weigh.cells at r4
  simp (disch:=first|omega|(with_unfolding_all exact rfl)|(simp only[new_n,put_n,new_m];omega)|(refine put_m_le ?_;simp only[new_m];omega)) only [res11,K11r0,K11r1,K11r2,K11r3,K11r4,K11r5,K11r6,K11r7,K11r8,K11r9,K11,K11l0,Abs.W,reduceIte,Nat.reduceEqDiff,Nat.reduceAdd,decide_true,decide_false,kLoop_def,Nat.reduceSub,List.cons_append,List.nil_append,List.append_nil,List.length_cons,List.length_nil,efs,Nat.zero_add,Nat.add_zero,q1,q2,q5,q6,g2,g5,kl,k2,l2,ll,e0,e1,w0,a2,a3',a4,r2,r3',r4]
  obtain ⟨y,hy⟩:∃ y:St,y=t.new (.cells [.int .i64 M.a,.int .i64 M.b,.int .i64 M.lo,.int .i64 M.hi] 0):=⟨_,rfl⟩
  rw [← hy]
  have yn:y.n=t.n+1:=by rw [hy];rfl
  have ym:y.m=t.m:=by rw [hy];rfl
  have yg:∀ c,c<t.n→y.h.get c=t.h.get c:=fun c hc=>by rw [hy];exact get_new_ne _ _ _ (by omega)
  have yp:y.h.get t.n=some (.cells [.int .i64 M.a,.int .i64 M.b,.int .i64 M.lo,.int .i64 M.hi] 0):=by rw [hy];exact get_new_eq _ _ _ rfl (by omega)
  have l6:Lists y.h y.n lo (fun _=>4) onlyT (onlyR ws ts) bs vs:=ls.mono (fun j hj=>yg _ hj) (by omega)
  obtain ⟨s7,v7,e7,l7,s7n,s7g,s7m,s7l⟩:=l6.push 0 (bytes:=32) yp rfl rfl (by show ((onlyR ws ts 0).length+1) * 32≤1000000;simp only [onlyR,List.length_map];omega) (by kernel_rfl) (by omega) (by omega)
  have e7':appendA false 4 32 (tag 70) y (vs 0) (.slice t.n 0 1 1 false)=.val v7 s7:=e7
  have bsl:=ls.lo 0
  have g7:∀ c,c<lo→s7.h.get c=t.h.get c:=fun c h1=>(s7g c (by omega) (by omega)).trans (yg c (by omega))
  have q25:=(g7 p5 (by omega)).trans g5
  have sc7:=(l7.at_ 0).scal
  rw [upd_at] at sc7
  obtain ⟨sc71,sc72⟩:=sc7
  simp (disch:=first|omega|(with_unfolding_all exact rfl)|(simp only[new_n,put_n,new_m];omega)|(refine put_m_le ?_;simp only[new_m];omega)) only [res11,K11r0,K11r1,K11r2,K11r3,K11r4,K11r5,K11r6,K11r7,K11r8,K11r9,K11,Abs.W,reduceIte,Nat.reduceEqDiff,Nat.reduceAdd,decide_true,decide_false,kLoop_def,Nat.reduceSub,List.cons_append,List.nil_append,List.append_nil,List.length_cons,List.length_nil,efs,e7',q5,q25,q6,ad,sc71,sc72,Nat.zero_add]
  have hfun:upd (onlyR ws ts) 0 (onlyR ws ts 0++[[.int .i64 M.a,.int .i64 M.b,.int .i64 M.lo,.int .i64 M.hi]])=onlyR (ws++[M]) ts:=by
   funext j
   match j with
   | 0=>first | rfl | (show ws.map Weigh.cells++[_]=(ws++[M]).map Weigh.cells;rw [List.map_append];rfl)
   | 1=>first | rfl | (show ts.map Trial.cells++[_]=(ts++[M]).map Trial.cells;rw [List.map_append];rfl)
   | n+2=>rfl
  rw [hfun] at l7
  have ex:∀ c,c≠p5→(s7.put p5 (.cells [v1,v7,v3,vs 1,.int .i64 b.days] (tag 28))).h.get c=s7.h.get c:=fun c hc=>get_put_ne' _ _ _ _ hc
  refine ⟨_,_,upd bs 0 y.n,upd vs 0 v7,rfl,by simp only [efs,q1,reduceIte,Nat.reduceEqDiff],by simp only [efs,q2,reduceIte,Nat.reduceEqDiff],by simp only [efs,reduceIte,Nat.reduceEqDiff],by simp only [efs,q5,reduceIte,Nat.reduceEqDiff],by simp only [efs,reduceIte,Nat.reduceEqDiff];rfl,⟨?_,?_,?_,?_,?_⟩,fun c h1 h2=>(ex c h2).trans (g7 c h1)⟩
  ·rw [ex p2 (by omega),g7 p2 (by omega)];exact g2
  ·rw [get_put_eq _ _ _ _ rfl (by omega),upd_at _ _ _,upd_ne _ _ _ (by omega)]
  ·exact l7.mono (fun i _=>ex _ (by have:=l7.lo i;omega)) (Nat.le_refl _)
  ·have m7:=s7m u.n (by omega) (by rw [ym];exact be.m)
   have f7:s7.m≤far:=by have:=be.far;omega
   exact (⟨fun c hc=>(g7 c (by omega)).trans (be.same c hc),by omega,by omega,m7,f7⟩:Beside u s7 (k+2)).put _ (by omega)
  ·exact ⟨pl1,pl2,pl3,by simp only [put_n];omega⟩
 ·have e1:decide ((x:Int)<(b.ws.length:Int))=false:=decide_eq_false (by omega)
  rw [if_neg h,if_neg h]
  have h':x - b.ws.length<b.ts.length:=by omega
  obtain ⟨z,hz⟩:∃ z,z=x - b.ws.length:=⟨_,rfl⟩
  have sb:∀ s,aSub s .i64 (x:Int) (b.ws.length:Int)=.val (.int .i64 (z:Int)) s:=fun s=>by rw [aSub_i64 s _ _ (by omega)];congr 2;omega
  rw [← hz] at h' ⊢
  obtain ⟨x0,o0,cs,sz,r1,r2,r3,r4⟩:=hB.t.at_ z (by rw [List.length_map];exact h')
  rw [List.getElem_map,tAt_at h'] at r4
  have r3':=(be.same _ r1).trans r3
  obtain ⟨M,hM⟩:∃ M,M=tAt b z:=⟨_,rfl⟩
  rw [← hM] at r4 ⊢
  unfold Trial.cells at r4
  simp (disch:=first|omega|(with_unfolding_all exact rfl)|(simp only[new_n,put_n,new_m];omega)|(refine put_m_le ?_;simp only[new_m];omega)) only [res11,K11r0,K11r1,K11r2,K11r3,K11r4,K11r5,K11r6,K11r7,K11r8,K11r9,K11,K11l0,Abs.W,reduceIte,Nat.reduceEqDiff,Nat.reduceAdd,decide_true,decide_false,kLoop_def,Nat.reduceSub,List.cons_append,List.nil_append,List.append_nil,List.length_cons,List.length_nil,efs,Nat.zero_add,Nat.add_zero,q1,q2,q5,q6,g2,g5,kl,k2,k4,l2,ll,e0,e1,w1,a2,a3',a4,r2,r3',r4,sb]
  obtain ⟨y,hy⟩:∃ y:St,y=t.new (.cells [.int .i64 M.scale,.int .i64 M.day,.int .i64 M.mass,.int .i64 M.shown] 0):=⟨_,rfl⟩
  rw [← hy]
  have yn:y.n=t.n+1:=by rw [hy];rfl
  have ym:y.m=t.m:=by rw [hy];rfl
  have yg:∀ c,c<t.n→y.h.get c=t.h.get c:=fun c hc=>by rw [hy];exact get_new_ne _ _ _ (by omega)
  have yp:y.h.get t.n=some (.cells [.int .i64 M.scale,.int .i64 M.day,.int .i64 M.mass,.int .i64 M.shown] 0):=by rw [hy];exact get_new_eq _ _ _ rfl (by omega)
  have l6:Lists y.h y.n lo (fun _=>4) onlyT (onlyR ws ts) bs vs:=ls.mono (fun j hj=>yg _ hj) (by omega)
  obtain ⟨s7,v7,e7,l7,s7n,s7g,s7m,s7l⟩:=l6.push 1 (bytes:=32) yp rfl rfl (by show ((onlyR ws ts 1).length+1) * 32≤1000000;simp only [onlyR,List.length_map];omega) (by kernel_rfl) (by omega) (by omega)
  have e7':appendA false 4 32 (tag 72) y (vs 1) (.slice t.n 0 1 1 false)=.val v7 s7:=e7
  have bsl:=ls.lo 1
  have g7:∀ c,c<lo→s7.h.get c=t.h.get c:=fun c h1=>(s7g c (by omega) (by omega)).trans (yg c (by omega))
  have q25:=(g7 p5 (by omega)).trans g5
  have sc7:=(l7.at_ 1).scal
  rw [upd_at] at sc7
  obtain ⟨sc71,sc72⟩:=sc7
  simp (disch:=first|omega|(with_unfolding_all exact rfl)|(simp only[new_n,put_n,new_m];omega)|(refine put_m_le ?_;simp only[new_m];omega)) only [res11,K11r0,K11r1,K11r2,K11r3,K11r4,K11r5,K11r6,K11r7,K11r8,K11r9,K11,Abs.W,reduceIte,Nat.reduceEqDiff,Nat.reduceAdd,decide_true,decide_false,kLoop_def,Nat.reduceSub,List.cons_append,List.nil_append,List.append_nil,List.length_cons,List.length_nil,efs,e7',q5,q25,q6,ad,sc71,sc72,Nat.zero_add]
  have hfun:upd (onlyR ws ts) 1 (onlyR ws ts 1++[[.int .i64 M.scale,.int .i64 M.day,.int .i64 M.mass,.int .i64 M.shown]])=onlyR ws (ts++[M]):=by
   funext j
   match j with
   | 0=>first | rfl | (show ws.map Weigh.cells++[_]=(ws++[M]).map Weigh.cells;rw [List.map_append];rfl)
   | 1=>first | rfl | (show ts.map Trial.cells++[_]=(ts++[M]).map Trial.cells;rw [List.map_append];rfl)
   | n+2=>rfl
  rw [hfun] at l7
  have ex:∀ c,c≠p5→(s7.put p5 (.cells [v1,vs 0,v3,v7,.int .i64 b.days] (tag 28))).h.get c=s7.h.get c:=fun c hc=>get_put_ne' _ _ _ _ hc
  refine ⟨_,_,upd bs 1 y.n,upd vs 1 v7,rfl,by simp only [efs,q1,reduceIte,Nat.reduceEqDiff],by simp only [efs,q2,reduceIte,Nat.reduceEqDiff],by simp only [efs,reduceIte,Nat.reduceEqDiff],by simp only [efs,q5,reduceIte,Nat.reduceEqDiff],by simp only [efs,reduceIte,Nat.reduceEqDiff];rfl,⟨?_,?_,?_,?_,?_⟩,fun c h1 h2=>(ex c h2).trans (g7 c h1)⟩
  ·rw [ex p2 (by omega),g7 p2 (by omega)];exact g2
  ·rw [get_put_eq _ _ _ _ rfl (by omega),upd_ne _ _ _ (by omega),upd_at _ _ _]
  ·exact l7.mono (fun i _=>ex _ (by have:=l7.lo i;omega)) (Nat.le_refl _)
  ·have m7:=s7m u.n (by omega) (by rw [ym];exact be.m)
   have f7:s7.m≤far:=by have:=be.far;omega
   exact (⟨fun c hc=>(g7 c (by omega)).trans (be.same c hc),by omega,by omega,m7,f7⟩:Beside u s7 (k+2)).put _ (by omega)
  ·exact ⟨pl1,pl2,pl3,by simp only [put_n];omega⟩
theorem isAt_rows {h:Heap} {n b w tg lo:Nat} {rows:List (List AV)} {v:AV} (r:IsAt h n b w tg rows v) (hl:lo≤b):Abs.Rows h lo n w tg rows v:=⟨r.wide,r.is.imp id fun ⟨_,h2,h3,h4⟩=>⟨b,hl,h2,h3,h4⟩⟩
theorem isAt_nil {h:Heap} {n b w tg:Nat} {rows:List (List AV)} {v:AV} (r:IsAt h n b w tg rows v) (hp:plain v=true) (h':Heap) (lo n':Nat):Abs.Rows h' lo n' w tg rows v:=by
 rcases r.is with ⟨h1,h2⟩ | ⟨_,_,h3,_⟩
 ·subst h1;subst h2
  exact Rows.nil _ _ _ _ _
 ·subst h3;cases hp
theorem only_ex {N:Nat} {b:Bench} {v1 v2 v3 v4 vl:AV} {l:List Nat} {s:St} {r:ARes} (hr:call Try.prog X N (.fn 11) [.agg (benchV v1 v2 v3 v4 b.days),vl] s=r) (hN:1≤N) (ok:b.Ok) (hB:BenchAt s.h s.n b v1 v2 v3 v4) (hl:RowsAt s.h s.n 1 (intRows (l.map Int.ofNat)) vl) (hl20:l.length≤20) (hx:∀ x ∈ l,x<b.ws.length+b.ts.length) (hs:s.n+5000≤far) :
  ∃ w1 w3 t,r=.val (.agg [v1,w1,v3,w3,.int .i64 b.days]) t∧New s t 200∧Abs.Rows t.h s.n t.n 4 (onlyT 0) ((selW b l).map Weigh.cells) w1∧Abs.Rows t.h s.n t.n 4 (onlyT 1) ((selT b l).map Trial.cells) w3:=by
 obtain ⟨n,rfl⟩:∃ n,N=n+1:=⟨N - 1,by omega⟩
 have hf:far=1000000000:=rfl
 obtain ⟨v,t,e,st,w1,w3,rfl,hw1,hw3⟩:=call_new' (n:=n) (args:=[.agg (benchV v1 v2 v3 v4 b.days),vl]) (s:=s) (k:=200) (Q:=fun v h n=>∃ w1 w3,v=.agg [v1,w1,v3,w3,.int .i64 b.days]∧Abs.Rows h s.n n 4 (onlyT 0) ((selW b l).map Weigh.cells) w1∧Abs.Rows h s.n n 4 (onlyT 1) ((selT b l).map Trial.cells) w3) Try.func11 rfl (fun u uh un um=>by
  rw [← uh,← un] at hB hl
  have scB:=scB_of hB u
  have scN:scalars [v1,.nilslice,v3,.nilslice,.int .i64 (b.days:Int)]=true:=by
   rw [scals_cons (by have:=scal_ln (hB.m.len u);simp [scalars,this]),scals_cons rfl,scals_cons (by have:=scal_ln (hB.s.len u);simp [scalars,this])];rfl
  rw [enter11]
  simp (disch:=first|omega|(with_unfolding_all exact rfl)|(simp only[new_n,put_n,new_m];omega)|(refine put_m_le ?_;simp only[new_m];omega)) only [res11,K11r0,K11r1,K11r2,K11r3,K11r4,K11r5,K11r6,K11r7,K11r8,K11r9,K11,Abs.W,reduceIte,Nat.reduceEqDiff,Nat.reduceAdd,decide_true,decide_false,kLoop_def,Nat.reduceSub,List.cons_append,List.nil_append,List.append_nil,List.length_cons,List.length_nil,efs,Nat.zero_add,scB]
  simp only [new_n,put_n]
  generalize hlp:loopN _ rounds _ _ _ _ _=rl
  obtain ⟨w,L0,hw,hL0,hlp'⟩:=loop_start hlp
  have wn:w.n=u.n+3:=by rw [hw];rfl
  have wE:Beside u w 3:=by rw [hw];exact (((((((Beside.refl u (by omega) um).new _).new _).new _).put _ (by omega)).put _ (by omega)).put _ (by omega))
  have w2:w.h.get u.n=some (.cells [v1,v2,v3,v4,.int .i64 b.days] (tag 28)):=by
   rw [hw,get_put_ne' _ _ _ _ (by omega),get_put_ne' _ _ _ _ (by omega),get_put_ne' _ _ _ _ (by omega),get_new_ne _ _ _ (by simp only [new_n];omega),get_new_ne _ _ _ (by simp only [new_n];omega)]
   exact get_new_eq _ _ _ rfl (by omega)
  have w4:w.h.get (u.n+1)=some (.cells [.nilslice,.nilslice,.nilslice,.nilslice,.int .i64 0] (tag 28)):=by
   rw [hw,get_put_ne' _ _ _ _ (by omega),get_put_ne' _ _ _ _ (by omega),get_put_ne' _ _ _ _ (by omega),get_new_ne _ _ _ (by simp only [new_n];omega)]
   exact get_new_eq _ _ _ rfl (by simp only [new_n];omega)
  have w5:w.h.get (u.n+2)=some (.cells [v1,.nilslice,v3,.nilslice,.int .i64 b.days] (tag 28)):=by rw [hw];exact get_put_eq _ _ _ _ rfl (by omega)
  have hJ0:OnlyJ u w b v1 v2 v3 v4 (selW b (l.take 0)) (selT b (l.take 0)) u.n (u.n+2) (u.n+3) (3+2 * 0) (fun i=>far+1+i) (fun _=>.nilslice) :=
   ⟨w2,w5,Lists.nil (fun i=>by
    match i with
    | 0=>rfl
    | 1=>rfl
    | n+2=>rfl) (by omega),wE,⟨by omega,by omega,by omega,by omega⟩⟩
  have ll:=hl.len
  rw [intRows_len,List.length_map] at ll
  have kl:∀ t,okA (.val vl t)=.val vl t:=fun t=>okA_ne hl.ne
  have selw:∀ i,(selW b (l.take i)).length≤20:=fun i=>by
   unfold selW
   rw [List.length_map]
   exact Nat.le_trans (List.length_filter_le _ _) (by rw [List.length_take];omega)
  have selt:∀ i,(selT b (l.take i)).length≤20:=fun i=>by
   unfold selT
   rw [List.length_map]
   exact Nat.le_trans (List.length_filter_le _ _) (by rw [List.length_take];omega)
  obtain ⟨e,L1,s1,rfl,rfl,f4,f5,bs,vs,hJ,x4⟩:=loop_of hlp' (fun i L' t'=>L'.find 1=vl∧L'.find 2=.ptr u.n 0∧L'.find 4=.ptr (u.n+1) 0∧L'.find 5=.ptr (u.n+2) 0∧L'.find 6=.int .i64 i∧(∃ bs vs,OnlyJ u t' b v1 v2 v3 v4 (selW b (l.take i)) (selT b (l.take i)) u.n (u.n+2) (u.n+3) (3+2 * i) bs vs)∧t'.h.get (u.n+1)=some (.cells [.nilslice,.nilslice,.nilslice,.nilslice,.int .i64 0] (tag 28)))
   (fun e L' t'=>e=.exit 0∧L'.find 4=.ptr (u.n+1) 0∧L'.find 5=.ptr (u.n+2) 0∧∃ bs vs,OnlyJ u t' b v1 v2 v3 v4 (selW b l) (selT b l) u.n (u.n+2) (u.n+3) (3+2 * l.length) bs vs∧t'.h.get (u.n+1)=some (.cells [.nilslice,.nilslice,.nilslice,.nilslice,.int .i64 0] (tag 28))) l.length (by unfold rounds;omega)
   ⟨by rw [hL0];simp only [find_cons,efs,reduceIte,Nat.reduceEqDiff],by rw [hL0];simp only [find_cons,efs,reduceIte,Nat.reduceEqDiff],by rw [hL0];simp only [find_cons,efs,reduceIte,Nat.reduceEqDiff],by rw [hL0];simp only [find_cons,efs,reduceIte,Nat.reduceEqDiff],by rw [hL0];simp only [find_cons,efs,reduceIte,Nat.reduceEqDiff];rfl,⟨_,_,hJ0⟩,w4⟩
   (fun i L' t' hi ⟨q1,q2,q4,q5,q6,⟨bs,vs,hJ⟩,x4⟩=>by
    by_cases hlt:i<l.length
    ·obtain ⟨L2,t2,bs1,vs1,p1,p2,p3,p4,p5,p6,p7,p8⟩:=only_round n ⟨11,none,Try.f11.ntmps,X 11⟩ ok hB hl hlt (by omega) (hx _ (List.getElem_mem hlt)) (by omega) hJ (by have:=selw i;omega) (by have:=selt i;omega) q1 q2 q5 q6
     have e1:l.take (i+1)=l.take i++[l[i]]:=List.take_succ_eq_append_getElem hlt
     refine .inl ⟨hlt,L2,t2,p1,p2,p3,p4.trans q4,p5,p6,⟨bs1,vs1,?_⟩,?_⟩
     ·rw [e1,selW_snoc,selT_snoc]
      exact p7
     ·exact (p8 _ (by omega) (by omega)).trans x4
    ·obtain rfl:i=l.length:=by omega
     have e1:decide ((l.length:Int)<(l.length:Int))=false:=by simp
     rw [List.take_length] at hJ
     refine .inr ⟨.exit 0,L'.set 13 (.bool false),t',by simp,?_,rfl,?_,?_,bs,vs,hJ,x4⟩
     ·simp (disch:=first|omega|(with_unfolding_all exact rfl)|(simp only[new_n,put_n,new_m];omega)|(refine put_m_le ?_;simp only[new_m];omega)) only [res11,K11r0,K11r1,K11r2,K11r3,K11r4,K11r5,K11r6,K11r7,K11r8,K11r9,K11,K11l0,Abs.W,reduceIte,Nat.reduceEqDiff,Nat.reduceAdd,decide_true,decide_false,kLoop_def,Nat.reduceSub,List.cons_append,List.nil_append,List.append_nil,List.length_cons,List.length_nil,efs,q1,q6,kl,ll,e1,Nat.zero_add]
     ·simp only [efs,q4,reduceIte,Nat.reduceEqDiff]
     ·simp only [efs,q5,reduceIte,Nat.reduceEqDiff])
  have sc0:=(hJ.ls.at_ 0).scal.1
  have sc1:=(hJ.ls.at_ 1).scal.1
  have scE:scalars [v1,vs 0,v3,vs 1,.int .i64 (b.days:Int)]=true:=by
   rw [scals_cons (by have:=scal_ln (hB.m.len u);simp [scalars,this]),scals_cons sc0,scals_cons (by have:=scal_ln (hB.s.len u);simp [scalars,this]),scals_cons sc1];rfl
  have g5:=hJ.g5
  have sh5:shapeT Try.prog 28=some (some 5):=by kernel_rfl
  have bn:=hJ.be.n
  simp (disch:=first|omega|(with_unfolding_all exact rfl)|(simp only[new_n,put_n,new_m];omega)|(refine put_m_le ?_;simp only[new_m];omega)) only [res11,K11r0,K11r1,K11r2,K11r3,K11r4,K11r5,K11r6,K11r7,K11r8,K11r9,K11,Abs.W,reduceIte,Nat.reduceEqDiff,Nat.reduceAdd,decide_true,decide_false,kLoop_def,Nat.reduceSub,List.cons_append,List.nil_append,List.append_nil,List.length_cons,List.length_nil,efs,f4,f5,g5,x4,scE,Nat.zero_add]
  have be:=hJ.be.put (.cells [v1,vs 0,v3,vs 1,.int .i64 b.days] (tag 28)) (show u.n≤u.n+1 by omega)
  have eg:∀ c,c≠u.n+1→(s1.put (u.n+1) (.cells [v1,vs 0,v3,vs 1,.int .i64 b.days] (tag 28))).h.get c=s1.h.get c:=fun c hc=>get_put_ne' _ _ _ _ hc
  refine ⟨.agg [v1,vs 0,v3,vs 1,.int .i64 b.days],_,leave_cell _ _ _ _ sh5 ?_,be.mono (by omega),⟨vs 0,vs 1,rfl,?_,?_⟩,fun hp=>⟨vs 0,vs 1,rfl,?_,?_⟩⟩
  ·rw [f4,load_ptr,get_put_eq _ _ _ _ rfl (by omega),loadO_cells,partS_some]
   rfl
  ·exact isAt_rows ((hJ.ls.at_ 0).mono (fun _=>eg _ (by have:=hJ.ls.lo 0;omega)) (Nat.le_refl _)) (by have:=hJ.ls.lo 0;omega)
  ·exact isAt_rows ((hJ.ls.at_ 1).mono (fun _=>eg _ (by have:=hJ.ls.lo 1;omega)) (Nat.le_refl _)) (by have:=hJ.ls.lo 1;omega)
  ·exact isAt_nil (hJ.ls.at_ 0) (by simp [plain,plains] at hp;cases h1:plain v1<;>cases h2:plain (vs 0)<;>cases h3:plain v3<;>cases h4:plain (vs 1)<;>simp_all) _ _ _
  ·exact isAt_nil (hJ.ls.at_ 1) (by simp [plain,plains] at hp;cases h1:plain v1<;>cases h2:plain (vs 0)<;>cases h3:plain v3<;>cases h4:plain (vs 1)<;>simp_all) _ _ _)
 exact ⟨w1,w3,t,hr.symm.trans e,st,hw1,hw3⟩
end Go.Proofs.Ytoolodjbfphkjaa.walk
set_option maxRecDepth 10000
namespace Go.Proofs.Ytoolodjbfphkjaa.walk
open Go.Abs Go.Proofs.Ytoolodjbfphkjaa.code
def knL (b:Bench):List (List Gap)→List Nat→Option (List (List Gap))
 | T,[]=>some T
 | T,i::r=>if refB T (resAt b i)=true then none else knL b (withT (big b) T (resAt b i)) r
theorem knL_snoc (b:Bench):∀ (l:List Nat) (T:List (List Gap)) (i:Nat),knL b T (l++[i])=match knL b T l with
  | none=>none
  | some T'=>if refB T' (resAt b i)=true then none else some (withT (big b) T' (resAt b i))
 | [],T,i=>by
  show (if refB T (resAt b i)=true then none else some (withT (big b) T (resAt b i)))=_
  rfl
 | x::l,T,i=>by
  show (if refB T (resAt b x)=true then none else knL b (withT (big b) T (resAt b x)) (l++[i]))=match (if refB T (resAt b x)=true then none else knL b (withT (big b) T (resAt b x)) l) with
   | none=>none
   | some T'=>if refB T' (resAt b i)=true then none else some (withT (big b) T' (resAt b i))
  by_cases h:refB T (resAt b x)=true
  ·rw [if_pos h,if_pos h]
  ·rw [if_neg h,if_neg h];exact knL_snoc b l _ i
def onlyB (b:Bench) (l:List Nat):Bench:=⟨b.ms,selW b l,b.ss,selT b l,b.days⟩
theorem selW_app (b:Bench) (l1 l2:List Nat):selW b (l1++l2)=selW b l1++selW b l2:=by unfold selW;rw [List.filter_append,List.map_append]
theorem selT_app (b:Bench) (l1 l2:List Nat):selT b (l1++l2)=selT b l1++selT b l2:=by unfold selT;rw [List.filter_append,List.map_append]
theorem selW_low {b:Bench} {l:List Nat} (h:∀ x ∈ l,x<b.ws.length):selW b l=l.map (wAt b)∧selT b l=[]:=by
 unfold selW selT
 rw [List.filter_eq_self.mpr fun x hx=>decide_eq_true (h x hx),List.filter_eq_nil_iff.mpr fun x hx=>by simp [h x hx]]
 exact ⟨rfl,rfl⟩
theorem selW_high {b:Bench} {l:List Nat} (h:∀ x ∈ l,b.ws.length≤x):selW b l=[]∧selT b l=l.map fun i=>tAt b (i - b.ws.length):=by
 unfold selW selT
 have h1:l.filter (fun i=>decide (i<b.ws.length))=[]:=List.filter_eq_nil_iff.mpr fun x hx=>by
  have:=h x hx
  simp;omega
 have h2:l.filter (fun i=>!decide (i<b.ws.length))=l:=List.filter_eq_self.mpr fun x hx=>by
  have:=h x hx
  simp;omega
 rw [h1,h2]
 exact ⟨rfl,rfl⟩
theorem grow_split {m:Nat}:∀ {l:List Nat},l.Pairwise (·<·)→∃ l1 l2,l=l1++l2∧(∀ x ∈ l1,x<m)∧∀ x ∈ l2,m≤x
 | [],_=>⟨[],[],rfl,fun _ h=>(by cases h),fun _ h=>(by cases h)⟩
 | x::l,h=>by
  obtain ⟨h1,h2⟩:=List.pairwise_cons.mp h
  by_cases hx:x<m
  ·obtain ⟨l1,l2,e,a1,a2⟩:=grow_split (m:=m) h2
   refine ⟨x::l1,l2,by rw [e];rfl,fun y hy=>?_,a2⟩
   rcases List.mem_cons.mp hy with rfl | hy
   ·exact hx
   ·exact a1 y hy
  ·refine ⟨[],x::l,rfl,fun _ h=>(by cases h),fun y hy=>?_⟩
   rcases List.mem_cons.mp hy with rfl | hy
   ·omega
   ·have:=h1 y hy;omega
theorem only_many {b:Bench} {l:List Nat} (h:l.Pairwise (·<·)):resMany (onlyB b l)=l.length:=by
 obtain ⟨l1,l2,rfl,a1,a2⟩:=grow_split (m:=b.ws.length) h
 show (selW b (l1++l2)).length+(selT b (l1++l2)).length=_
 rw [selW_app,selT_app,(selW_low a1).1,(selW_low a1).2,(selW_high a2).1,(selW_high a2).2,List.append_nil,List.nil_append,List.length_map,List.length_map,List.length_append]
theorem only_at {b:Bench} {l:List Nat} (h:l.Pairwise (·<·)) {k:Nat} (hk:k<l.length):resAt (onlyB b l) k=resAt b l[k]:=by
 obtain ⟨l1,l2,rfl,a1,a2⟩:=grow_split (m:=b.ws.length) h
 have eW:(onlyB b (l1++l2)).ws=l1.map (wAt b):=by
  show selW b (l1++l2)=_
  rw [selW_app,(selW_low a1).1,(selW_high a2).1,List.append_nil]
 have eT:(onlyB b (l1++l2)).ts=l2.map fun i=>tAt b (i - b.ws.length):=by
  show selT b (l1++l2)=_
  rw [selT_app,(selW_low a1).2,(selW_high a2).2,List.nil_append]
 have lW:(onlyB b (l1++l2)).ws.length=l1.length:=by rw [eW,List.length_map]
 unfold resAt
 by_cases h1:k<l1.length
 ·rw [if_pos (by rw [lW];exact h1),List.getElem_append_left h1,if_pos (a1 _ (List.getElem_mem h1))]
  congr 1
  unfold wAt
  rw [eW]
  simp [List.getD,h1]
  rfl
 ·have h2:k - l1.length<l2.length:=by rw [List.length_append] at hk;omega
  have h3:l1.length≤k:=by omega
  have hge:=a2 _ (List.getElem_mem h2)
  rw [if_neg (by rw [lW];exact h1),List.getElem_append_right h3,if_neg (by omega)]
  have e:tAt (onlyB b (l1++l2)) (k - (onlyB b (l1++l2)).ws.length)=tAt b (l2[k - l1.length] - b.ws.length):=by
   rw [lW]
   show (onlyB b (l1++l2)).ts.getD (k - l1.length) _=_
   rw [eT]
   simp [List.getD,h2]
  rw [e]
  rfl
theorem big_only (b:Bench) (l:List Nat):big (onlyB b l)=big b:=rfl
theorem giv_only (b:Bench) (l:List Nat):∀ i x y,givE (onlyB b l) i x y=givE b i x y
 | 0,_,_=>rfl
 | i+1,x,y=>by
  rw [givE_succ,givE_succ]
  have e:givE (onlyB b l) i=givE b i:=funext fun x=>funext fun y=>giv_only b l i x y
  rw [e]
  rfl
def tab0 (b:Bench):List (List Gap):=tabOf (big b) (givE b (givMany b))
theorem tab0_only (b:Bench) (l:List Nat):tab0 (onlyB b l)=tab0 b:=by
 unfold tab0
 have e:givE (onlyB b l) (givMany (onlyB b l))=givE b (givMany b):=funext fun x=>funext fun y=>giv_only b l _ x y
 rw [e,big_only]
theorem only_take {b:Bench} {l:List Nat} (h:l.Pairwise (·<·)):∀ k,k≤l.length→knT (onlyB b l) k=knL b (tab0 b) (l.take k)
 | 0,_=>by
  show some (tab0 (onlyB b l))=_
  rw [tab0_only];rfl
 | k+1,hk=>by
  have e:=only_take (b:=b) h k (by omega)
  rw [List.take_add_one,List.getElem?_eq_getElem (by omega),show (some l[k]).toList=[l[k]] from rfl,knL_snoc,← e,← only_at h (by omega)]
  rfl
theorem only_kn {b:Bench} {l:List Nat} (h:l.Pairwise (·<·)):knT (onlyB b l) (resMany (onlyB b l))=knL b (tab0 b) l:=by
 rw [only_many h,only_take h _ (Nat.le_refl _),List.take_length]
def chs (n:Nat):Nat→Nat→List (List Nat)
 | 0,_=>[[]]
 | m+1,from_=>(List.range' from_ (n - from_)).flatMap fun i=>(chs n m (i+1)).map (i::·)
theorem chs_ok (n:Nat):∀ (m from_:Nat) (c:List Nat),c ∈ chs n m from_→c.length=m∧c.Pairwise (·<·)∧∀ x ∈ c,from_≤x∧x<n
 | 0,_,c,h=>by
  have:c=[]:=List.mem_singleton.mp h
  subst this
  exact ⟨rfl,List.Pairwise.nil,fun _ h=>(by cases h)⟩
 | m+1,from_,c,h=>by
  obtain ⟨i,hi,hc⟩:=List.mem_flatMap.mp h
  obtain ⟨d,hd,rfl⟩:=List.mem_map.mp hc
  obtain ⟨h1,h2,h3⟩:=chs_ok n m (i+1) d hd
  have hi':from_≤i∧i<n:=by
   rw [List.mem_range'_1] at hi
   omega
  refine ⟨by simp [h1],List.pairwise_cons.mpr ⟨fun x hx=>by have:=(h3 x hx).1;omega,h2⟩,fun x hx=>?_⟩
  rcases List.mem_cons.mp hx with rfl | hx
  ·exact hi'
  ·have:=h3 x hx;omega
theorem chs_far (n:Nat) {m from_:Nat} (hm:0<m) (h:n<from_+m):chs n m from_=[]:=by
 rcases hc:chs n m from_ with _ | ⟨c,r⟩
 ·rfl
 ·exfalso
  obtain ⟨h1,h2,h3⟩:=chs_ok n m from_ c (by rw [hc];exact List.mem_cons_self ..)
  have:c.length≤n - from_:=by
   have hs:∀ {l:List Nat} {a b:Nat},l.Pairwise (·<·)→(∀ x ∈ l,a≤x∧x<b)→l.length≤b - a:=fun {l}=>by
    induction l with
    | nil=>intros;simp
    | cons y l ih =>
     intro a b p q
     obtain ⟨p1,p2⟩:=List.pairwise_cons.mp p
     have:=q y (List.mem_cons_self ..)
     have:=ih (a:=y+1) (b:=b) p2 fun x hx=>⟨p1 x hx,(q x (List.mem_cons_of_mem _ hx)).2⟩
     simp
     omega
   exact hs h2 h3
  omega
def bad (b:Bench) (T:List (List Gap)) (c:List Nat):Bool:=(knL b T c).isNone
def srch (b:Bench) (n:Nat):Nat→List (List Gap)→Nat→Option (List Nat)
 | 0,T,from_=>(List.range' from_ (n - from_)).findSome? fun i=>if refB T (resAt b i)=true then some [i] else none
 | m+1,T,from_=>(List.range' from_ (n - (m+1) - from_)).findSome? fun i=>(srch b n m (withT (big b) T (resAt b i)) (i+1)).map (i::·)
theorem find_flat {α β:Type} (p:β→Bool) (f:α→List β):∀ l:List α,(l.flatMap f).find? p=l.findSome? fun a=>(f a).find? p
 | []=>rfl
 | a::l=>by
  rw [List.flatMap_cons,List.find?_append,List.findSome?_cons,find_flat p f l]
  cases (f a).find? p<;>rfl
theorem find_cons_map (p:List Nat→Bool) (i:Nat):∀ l:List (List Nat),(l.map (i::·)).find? p=(l.find? fun c=>p (i::c)).map (i::·)
 | []=>rfl
 | c::l=>by
  rw [List.map_cons,List.find?_cons,List.find?_cons]
  cases h:p (i::c) with
  | true=>rfl
  | false=>exact find_cons_map p i l
theorem find_some_congr {α β:Type} {f g:α→Option β}:∀ {l:List α},(∀ a ∈ l,f a=g a)→l.findSome? f=l.findSome? g
 | [],_=>rfl
 | a::l,h=>by
  rw [List.findSome?_cons,List.findSome?_cons,h a (List.mem_cons_self ..),find_some_congr fun x hx=>h x (List.mem_cons_of_mem _ hx)]
theorem find_some_none {α β:Type} {f:α→Option β} {l:List α} (h:∀ a ∈ l,f a=none):l.findSome? f=none:=by
 rw [List.findSome?_eq_none_iff];exact h
theorem range'_app (a n m:Nat):List.range' a (n+m)=List.range' a n++List.range' (a+n) m:=by
 exact (List.range'_append_1 ..).symm
theorem srch_is (b:Bench) (n:Nat):∀ (m:Nat) (T:List (List Gap)) (from_:Nat),(∀ j,j≤m→∀ c ∈ chs n j from_,bad b T c=false)→srch b n m T from_=(chs n (m+1) from_).find? (bad b T)
 | 0,T,from_,_=>by
  show _=((List.range' from_ (n - from_)).flatMap fun i=>(chs n 0 (i+1)).map (i::·)).find? (bad b T)
  rw [find_flat]
  refine find_some_congr fun i _=>?_
  show _=([[i]]:List (List Nat)).find? (bad b T)
  have e:bad b T [i]=refB T (resAt b i):=by
   unfold bad knL
   cases refB T (resAt b i)<;>rfl
  rw [List.find?_cons,e]
  cases refB T (resAt b i)<;>rfl
 | m+1,T,from_,h=>by
  show _=((List.range' from_ (n - from_)).flatMap fun i=>(chs n (m+1) (i+1)).map (i::·)).find? (bad b T)
  rw [find_flat]
  have hone:∀ i,from_≤i→i<n→refB T (resAt b i)=false:=fun i h1 h2=>by
   have:=h 1 (by omega) [i] (List.mem_flatMap.mpr ⟨i,by rw [List.mem_range'_1];omega,List.mem_map.mpr ⟨[],List.mem_singleton.mpr rfl,rfl⟩⟩)
   unfold bad knL at this
   cases hr:refB T (resAt b i) with
   | false=>rfl
   | true=>rw [hr] at this;cases this
  have step:∀ i,from_≤i→i<n→((chs n (m+1) (i+1)).map (i::·)).find? (bad b T)=(srch b n m (withT (big b) T (resAt b i)) (i+1)).map (i::·):=fun i h1 h2=>by
   rw [find_cons_map]
   have hr:=hone i h1 h2
   have e:(fun c=>bad b T (i::c))=bad b (withT (big b) T (resAt b i)):=funext fun c=>by
    unfold bad
    rw [knL,hr]
    rfl
   rw [e,srch_is b n m _ (i+1) fun j hj c hc=>?_]
   have:=h (j+1) (by omega) (i::c) (List.mem_flatMap.mpr ⟨i,by rw [List.mem_range'_1];omega,List.mem_map.mpr ⟨c,hc,rfl⟩⟩)
   rw [← congrFun e c]
   exact this
  have hle:n - from_=(n - (m+1) - from_)+(n - from_ - (n - (m+1) - from_)):=by omega
  rw [hle,range'_app,List.findSome?_append]
  have h1:(List.range' (from_+(n - (m+1) - from_)) (n - from_ - (n - (m+1) - from_))).findSome? (fun i=>((chs n (m+1) (i+1)).map (i::·)).find? (bad b T))=none:=find_some_none fun i hi=>by
   rw [List.mem_range'_1] at hi
   rw [chs_far n (by omega) (by omega)]
   rfl
  rw [h1,Option.or_none]
  show (List.range' from_ (n - (m+1) - from_)).findSome? _=_
  refine find_some_congr fun i hi=>?_
  rw [List.mem_range'_1] at hi
  exact (step i hi.1 (by omega)).symm
theorem range_mem (n:Nat):∀ k,k≤n→List.range' (n - k) k ∈ chs n k (n - k)
 | 0,_=>List.mem_singleton.mpr rfl
 | k+1,hk=>by
  have e:List.range' (n - (k+1)) (k+1)=(n - (k+1))::List.range' (n - k) k:=by
   rw [List.range'_succ,show n - (k+1)+1=n - k by omega]
  rw [e]
  refine List.mem_flatMap.mpr ⟨n - (k+1),by rw [List.mem_range'_1];omega,List.mem_map.mpr ⟨_,?_,rfl⟩⟩
  rw [show n - (k+1)+1=n - k by omega]
  exact range_mem n k (by omega)
theorem knT_all (b:Bench):∀ k,k≤resMany b→knT b k=knL b (tab0 b) (List.range k)
 | 0,_=>rfl
 | k+1,h=>by
  rw [List.range_succ,knL_snoc,← knT_all b k (by omega)]
  rfl
end Go.Proofs.Ytoolodjbfphkjaa.walk
set_option maxRecDepth 10000
namespace Go.Abs
structure Sl (no:Nat→Prop) (h:Heap) (n w:Nat) (rows:List (List AV)) (v:AV):Prop where
 wide:∀ r ∈ rows,r.length=w
 is:(rows=[]∧v=.nilslice)∨∃ b o cap e c sz,b<n∧no b∧(rows.length≤cap∧(e=true→0<cap))∧v=.slice b o rows.length cap e∧h.get b=some (.cells c sz)∧cut o (rows.length * w) c=some rows.flatten
theorem Sl.nil (no:Nat→Prop) (h:Heap) (n w:Nat):Sl no h n w [] .nilslice:=⟨fun _ hr=>(by cases hr),.inl ⟨rfl,rfl⟩⟩
theorem Sl.seq {no:Nat→Prop} {h:Heap} {n w:Nat} {rows:List (List AV)} {v:AV} (r:Sl no h n w rows v):Seq h n w rows v :=
 ⟨r.wide,r.is.imp id fun ⟨b,o,cap,e,c,sz,h1,_,_,h4,h5,h6⟩=>⟨b,o,cap,e,c,sz,h1,h4,h5,h6⟩⟩
theorem Sl.at_ {no:Nat→Prop} {h:Heap} {n w:Nat} {rows:List (List AV)} {v:AV} (r:Sl no h n w rows v):RowsAt h n w rows v:=r.seq.at_
theorem Sl.okA {no:Nat→Prop} {h:Heap} {n w:Nat} {rows:List (List AV)} {v:AV} (r:Sl no h n w rows v) (t:St):Abs.okA (.val v t)=.val v t:=okA_ne r.at_.ne
theorem Sl.len {no:Nat→Prop} {h:Heap} {n w:Nat} {rows:List (List AV)} {v:AV} (r:Sl no h n w rows v) (s:St):lenSlA s v=.val (.int .i64 rows.length) s:=r.at_.len s
theorem Sl.move {no no':Nat→Prop} {h h':Heap} {n n' w:Nat} {rows:List (List AV)} {v:AV} (r:Sl no h n w rows v) (hh:∀ b,b<n→no b→h'.get b=h.get b∧no' b) (hn:n≤n'):Sl no' h' n' w rows v :=
 ⟨r.wide,r.is.imp id fun ⟨b,o,cap,e,c,sz,h1,h2,h3,h4,h5,h6⟩=>⟨b,o,cap,e,c,sz,by omega,(hh b h1 h2).2,h3,h4,by rw [(hh b h1 h2).1];exact h5,h6⟩⟩
theorem Sl.grow {no:Nat→Prop} {h h':Heap} {n n' w:Nat} {rows:List (List AV)} {v:AV} (r:Sl no h n w rows v) (hh:∀ b,b<n→h'.get b=h.get b) (hn:n≤n'):Sl no h' n' w rows v:=r.move (fun b h1 h2=>⟨hh b h1,h2⟩) hn
theorem Sl.scal {no:Nat→Prop} {h:Heap} {n w:Nat} {rows:List (List AV)} {v:AV} (r:Sl no h n w rows v):scalars [v]=true∧cellsOf 1 v=some [v]∧∀ l,scalars (v::l)=scalars l:=by
 rcases r.is with ⟨_,h2⟩ | ⟨b,o,cap,e,c,sz,_,_,_,h2,_⟩<;>subst h2<;>exact ⟨rfl,rfl,fun _=>rfl⟩
theorem Sl.kept {no:Nat→Prop} {h h':Heap} {n w:Nat} {rows:List (List AV)} {v:AV} (r:Sl no h n w rows v) (hh:∀ b,b<n→no b→h'.get b=h.get b):keptV h h' v=true:=by
 rcases r.is with ⟨_,h2⟩ | ⟨b,o,cap,e,c,sz,h1,h3,_,h2,h4,_⟩
 ·subst h2;rfl
 ·subst h2;rw [keptV_slice,hh b h1 h3,h4,sameO_cells]
theorem Sl.apart {no:Nat→Prop} {h:Heap} {n w c p:Nat} {rows:List (List AV)} {v:AV} (r:Sl no h n w rows v) (hc:¬ no c):apartA v (.ptr c p)=true:=by
 rcases r.is with ⟨_,h2⟩ | ⟨b,o,cap,e,q,sz,h1,h3,_,h2,h4,_⟩
 ·subst h2;rfl
 ·subst h2;exact apart_slice (fun e=>hc (e▸h3))
theorem take_snoc {α:Type} {l:List α} {i:Nat} (h:i<l.length):l.take (i+1)=l.take i++[l[i]]:=by rw [List.take_add_one];simp [h]
theorem Sl.get {no:Nat→Prop} {h:Heap} {n w:Nat} {rows:List (List AV)} {v:AV} (r:Sl no h n w rows v) {i:Nat} (hi:i<rows.length):∃ b p c sz,b<n∧no b∧(∀ s,ixsA w s v (.int .i64 (i:Int))=.val (.ptr b p) s)∧h.get b=some (.cells c sz)∧Abs.cut p w c=some rows[i]:=by
 rcases r.is with ⟨h1,_⟩ | ⟨b,o,cap,e,c,sz,h1,h2,h3,h4,h5,h6⟩
 ·subst h1;simp at hi
 ·subst h4
  exact ⟨b,o+i * w,c,sz,h1,h2,fun s=>ixs_slice _ _ _ _ _ _ _ _ hi,h5,cut_cut h6 (flatten_cut r.wide hi)⟩
theorem flatten_take {w:Nat}:∀ {rows:List (List AV)} {i:Nat},(∀ r ∈ rows,r.length=w)→i≤rows.length→(rows.take i).flatten=rows.flatten.take (i * w)
 | [],i,_,h=>by simp at h;subst h;simp
 | r::rs,0,_,_=>by simp
 | r::rs,i+1,hw,h=>by
  have h1:=hw r (List.mem_cons_self ..)
  rw [List.take_succ_cons,List.flatten_cons,List.flatten_cons,flatten_take (fun x hx=>hw x (List.mem_cons_of_mem _ hx)) (by simpa using h),show (i+1) * w=r.length+i * w by rw [h1,Nat.succ_mul];omega,List.take_length_add_append]
theorem cut_less {o k j:Nat} {c F:List AV} (h:cut o k c=some F) (hj:j≤k):cut o j c=some (F.take j):=by
 obtain ⟨a,t,h3,h4,h5⟩:=cut_some h
 have e:F=F.take j++F.drop j:=(List.take_append_drop j F).symm
 have l:(F.take j).length=j:=by rw [List.length_take];omega
 rw [h3,← h4,List.append_assoc]
 have:=cut_skip a (F++t) 0 j
 rw [Nat.add_zero] at this
 rw [this,cut_zero]
 conv=>lhs;rw [e,List.append_assoc]
 have h6:=cut1_app (F.take j) (F.drop j++t)
 rw [l] at h6
 exact h6
theorem Sl.to {no:Nat→Prop} {h:Heap} {n w i:Nat} {rows:List (List AV)} {v:AV} (r:Sl no h n w rows v) (hi:i≤rows.length):∃ v',(∀ s,sliceVal w none (some (.int .i64 (i:Int))) s v=.val v' s)∧Sl no h n w (rows.take i) v':=by
 have wd:∀ x ∈ rows.take i,x.length=w:=fun x hx=>r.wide x (List.mem_of_mem_take hx)
 rcases r.is with ⟨h1,h2⟩ | ⟨b,o,cap,e,c,sz,q1,q2,q3,q4,q5,q6⟩
 ·subst h1;subst h2
  have:i=0:=by simpa using hi
  subst this
  exact ⟨.nilslice,fun s=>rfl,wd,.inl ⟨rfl,rfl⟩⟩
 ·subst q4
  have ln:(rows.take i).length=i:=by rw [List.length_take];omega
  have e1:boundsA rows.length cap none (some (.int .i64 (i:Int)))=some (0,i):=by
   unfold boundsA hiA loA
   simp only [boundA_nat _ _ _ (by have:=q3.1;omega:i≤cap)]
  have q7:cut o (i * w) c=some (rows.take i).flatten:=by
   rw [flatten_take r.wide hi]
   exact cut_less q6 (Nat.mul_le_mul_right _ hi)
  by_cases hc:cap=0
  ·subst hc
   have hr:rows=[]:=List.length_eq_zero_iff.mp (by have:=q3.1;omega)
   subst hr
   have:i=0:=by simpa using hi
   subst this
   cases e with
   | false =>
    refine ⟨.slice b o (0 - 0) 0 false,fun s=>?_,wd,.inr ⟨b,o,0,false,c,sz,q1,q2,⟨by simp,fun h=>(by cases h)⟩,by simp,q5,q6⟩⟩
    unfold sliceVal
    simp only [Nat.ble_eq_true_of_le q3.1,e1,Nat.zero_mul,Nat.add_zero]
    rfl
   | true=>exact absurd (q3.2 rfl) (Nat.lt_irrefl 0)
  ·refine ⟨.slice b o i cap e,fun s=>?_,wd,.inr ⟨b,o,cap,e,c,sz,q1,q2,⟨by have:=q3.1;omega,q3.2⟩,by rw [ln],q5,by rw [ln];exact q7⟩⟩
   unfold sliceVal
   simp only [Nat.ble_eq_true_of_le q3.1,e1,nbeq_f hc,Nat.zero_mul,Nat.add_zero,Nat.sub_zero]
theorem Sl.of_blk {no:Nat→Prop} {h:Heap} {n b w tg:Nat} {rows:List (List AV)} {v:AV} (r:Blk h n b w tg rows v) (hb:no b) (h0:rows≠[]):Sl no h n w rows v:=by
 obtain ⟨e,sz,h1,h2,h3,h4⟩:=r.is
 exact ⟨r.wide,.inr ⟨b,0,rows.length,e,_,sz,h2,hb,⟨Nat.le_refl _,fun _=>List.length_pos_iff.mpr h0⟩,h1,h3,by rw [cut_zero,← flatten_len r.wide,cut1_all]⟩⟩
end Go.Abs
set_option maxRecDepth 10000
namespace Go.Proofs.Ytoolodjbfphkjaa.walk
open Go.Abs Go.Proofs.Ytoolodjbfphkjaa.code
theorem rowInt {h:Heap} {n:Nat} {l:List Int} {v:AV} (r:RowsAt h n 1 (intRows l) v) {i:Nat} (hi:i<l.length):∃ b p c sz,b<n∧(∀ s,ixsA 1 s v (.int .i64 (i:Int))=.val (.ptr b p) s)∧h.get b=some (.cells c sz)∧nth c p=.int .i64 l[i]:=by
 obtain ⟨b,p,c,sz,h1,h2,h3,h4⟩:=intRow_at r hi
 refine ⟨b,p,c,sz,h1,h2,h3,?_⟩
 rw [h4]
 simp [List.getD,hi]
theorem rowLen {h:Heap} {n:Nat} {l:List Int} {v:AV} (r:RowsAt h n 1 (intRows l) v) (s:St):lenSlA s v=.val (.int .i64 l.length) s:=by have:=r.len s;rwa [intRows_len] at this
theorem intRows_scal (l:List Int):scalars (intRows l).flatten=true:=scalars_flatten fun r hr=>by
 unfold intRows at hr
 obtain ⟨x,_,rfl⟩:=List.mem_map.mp hr
 rfl
theorem nth_get:∀ {l:List AV} {i:Nat} (h:i<l.length),nth l i=l[i]
 | x::l,0,_=>rfl
 | x::l,i+1,h=>nth_get (l:=l) (i:=i) (by simpa using h)
theorem scalars_app:∀ {a b:List AV},scalars a=true→scalars b=true→scalars (a++b)=true
 | [],_,_,h=>h
 | x::a,b,h1,h2=>by
  have e:∀ (x:AV) (l:List AV),scalars (x::l)=(match x.scalar with | true=>scalars l | false=>false):=fun _ _=>rfl
  rw [List.cons_append,e]
  rw [e] at h1
  cases hx:x.scalar with
  | true=>rw [hx] at h1;exact scalars_app h1 h2
  | false=>rw [hx] at h1;cases h1
def TabI (h:Heap) (n b:Nat) (no:Nat→Prop) (M:List (List Int)) (v:AV):Prop :=
 ∃ (vs:List AV) (e:Bool) (sz:Nat),vs.length=M.length∧0<M.length∧b<n∧v=.slice b 0 vs.length vs.length e∧h.get b=some (.cells vs sz)∧(e=true→szOf sz=1)∧scalars vs=true∧∀ j (h1:j<vs.length) (h2:j<M.length),Sl (fun x=>x≠b∧no x) h n 1 (intRows M[j]) vs[j]
section
variable {h h':Heap} {n n' b:Nat} {no no':Nat→Prop} {M:List (List Int)} {v:AV}
theorem TabI.move (a:TabI h n b no M v) (hb:h'.get b=h.get b) (hh:∀ c,c<n→no c→h'.get c=h.get c∧no' c) (hn:n≤n'):TabI h' n' b no' M v:=by
 obtain ⟨vs,e,sz,h1,h2,h3,h4,h5,h6,h7,h8⟩:=a
 exact ⟨vs,e,sz,h1,h2,by omega,h4,hb.trans h5,h6,h7,fun j j1 j2=>(h8 j j1 j2).move (fun c hc hl=>⟨(hh c hc hl.2).1,hl.1,(hh c hc hl.2).2⟩) hn⟩
theorem TabI.okA (a:TabI h n b no M v) (t:St):Abs.okA (.val v t)=.val v t:=by obtain ⟨vs,e,sz,h1,h2,h3,rfl,_⟩:=a;rfl
theorem TabI.plain (a:TabI h n b no M v):Abs.plain v=false:=by obtain ⟨vs,e,sz,h1,h2,h3,rfl,_⟩:=a;rfl
theorem TabI.len (a:TabI h n b no M v) (s:St):lenSlA s v=.val (.int .i64 (M.length:Int)) s:=by obtain ⟨vs,e,sz,h1,h2,h3,rfl,_⟩:=a;rw [← h1];rfl
theorem TabI.get (a:TabI h n b no M v) {j:Nat} (hj:j<M.length):∃ w p c sz,Sl (fun x=>x≠b∧no x) h n 1 (intRows M[j]) w∧(∀ s,ixsA 1 s v (.int .i64 (j:Int))=.val (.ptr b p) s)∧h.get b=some (.cells c sz)∧nth c p=w:=by
 obtain ⟨vs,e,sz,h1,h2,h3,rfl,h5,h6,h7,h8⟩:=a
 have hr:j<vs.length:=by omega
 exact ⟨vs[j],0+j * 1,vs,sz,h8 j hr hj,fun s=>ixs_slice 1 s b 0 _ _ e j hr,h5,by rw [Nat.zero_add,Nat.mul_one];exact nth_get hr⟩
end
theorem TabI.app {s:St} {b b':Nat} {no no':Nat→Prop} {M M':List (List Int)} {v v':AV} (a:TabI s.h s.n b no M v) (a':TabI s.h s.n b' no' M' v') (hno:∀ x,no' x→x≠b'→x≠b∧no x) (hl:M.length+M'.length≤1000) (hs:s.n+10≤far) :
  ∃ w s',appendA false 1 24 (tag 22) s v v'=.val w s'∧TabI s'.h s'.n s.n no (M++M') w∧s'.n=s.n+1∧(∀ c,c<s.n→c≠b→s'.h.get c=s.h.get c)∧min s.m b≤s'.m∧s'.m≤s.m:=by
 have hf:far=1000000000:=rfl
 obtain ⟨vs,e,sz,h1,h2,h3,rfl,h5,h6,h7,h8⟩:=a
 obtain ⟨ws,e',sz',k1,k2,k3,rfl,k5,k6,k7,k8⟩:=a'
 have e1:firstA 1 ws.length s (.slice b' 0 ws.length ws.length e')=some ws:=by
  show (match s.h.get b' with | some (.cells c _)=>Abs.cut 0 (ws.length * 1) c | some (.fam c _ q _)=>Abs.cut 0 (ws.length * 1) (c.take q) | _=>none)=_
  rw [k5]
  simp only [Nat.mul_one]
  rw [cut_zero,cut1_all]
 have hA:∀ x,appendA false 1 24 (tag 22) s x (.slice b' 0 ws.length ws.length e')=growA 1 24 (tag 22) ws.length ws s x:=fun x=>by
  unfold appendA
  simp only [lenA,e1,Nat.mul_one,Nat.beq_refl,k7]
 have e2:Nat.ble (vs.length+ws.length) vs.length=false:=by
  cases h:Nat.ble (vs.length+ws.length) vs.length with
  | false=>rfl
  | true=>have:=Nat.le_of_ble_eq_true h;omega
 have e3:Nat.ble ((vs.length+ws.length) * 24) limit=true:=Nat.ble_eq_true_of_le (by unfold limit;omega)
 have fin:∀ s':St,s'.n=s.n+1→(∀ c,c<s.n→c≠b→s'.h.get c=s.h.get c)→(∃ z,s'.h.get s.n=some (.cells (vs++ws) z)∧szOf z=1)→TabI s'.h s'.n s.n no (M++M') (.slice s.n 0 (vs.length+ws.length) (vs.length+ws.length) true):=fun s' q1 q2 ⟨z,q3,q4⟩=>by
  refine ⟨vs++ws,true,z,by simp [h1,k1],by simp;omega,by omega,by rw [List.length_append],q3,fun _=>q4,scalars_app h7 k7,fun j j1 j2=>?_⟩
  by_cases ej:j<vs.length
  ·rw [List.getElem_append_left ej,List.getElem_append_left (by omega)]
   exact (h8 j ej (by omega)).move (fun c hc hl=>⟨q2 c hc hl.1,by omega,hl.2⟩) (by omega)
  ·rw [List.getElem_append_right (by omega),List.getElem_append_right (by omega)]
   have:=k8 (j - vs.length) (by rw [List.length_append] at j1;omega) (by rw [List.length_append] at j2;omega)
   simp only [h1] at this ⊢
   exact this.move (fun c hc hl=>⟨q2 c hc (hno c hl.2 hl.1).1,by omega,(hno c hl.2 hl.1).2⟩) (by omega)
 rw [hA]
 cases e with
 | false =>
  refine ⟨.slice s.n 0 (vs.length+ws.length) (vs.length+ws.length) true,s.new (.cells (vs++ws) (1+tag 22)),?_,fin _ rfl (fun c hc _=>get_new_ne _ _ _ (by omega)) ⟨_,get_new_eq _ _ _ rfl (by omega),by kernel_rfl⟩,rfl,fun c hc _=>get_new_ne _ _ _ (by omega),by rw [new_m];omega,by rw [new_m];omega⟩
  unfold growA
  simp only [h5,e2,e3,Nat.mul_one]
  rw [cut_zero,cut1_all]
 | true =>
  refine ⟨.slice s.n 0 (vs.length+ws.length) (vs.length+ws.length) true,(s.kill b).new (.cells (vs++ws) (if 0=0∧sz=1+tag 22 then sz else 1)),?_,fin _ rfl (fun c hc hb=>?_) ⟨_,get_new_eq _ _ _ rfl (by show s.n<_;omega),?_⟩,rfl,fun c hc hb=>?_,?_,?_⟩
  ·unfold growA
   simp only [h5,e2,e3,Nat.mul_one,h6 rfl,Nat.zero_add,true_and,and_self,if_true,List.drop_zero]
  ·rw [get_new_ne _ _ _ (by show c≠s.n;omega),get_kill_ne _ _ _ hb]
  ·split
   ·exact h6 rfl
   ·kernel_rfl
  ·rw [get_new_ne _ _ _ (by show c≠s.n;omega),get_kill_ne _ _ _ hb]
  ·rw [new_m];simp only [St.kill,minN_eq];omega
  ·rw [new_m];simp only [St.kill,minN_eq];omega
def AccI (h:Heap) (n b:Nat) (no:Nat→Prop) (M:List (List Int)) (v:AV):Prop:=(M=[]∧v=.nilslice)∨TabI h n b no M v
theorem AccI.okA {h:Heap} {n b:Nat} {no:Nat→Prop} {M:List (List Int)} {v:AV} (a:AccI h n b no M v) (t:St):Abs.okA (.val v t)=.val v t:=by
 rcases a with ⟨_,rfl⟩ | a
 ·rfl
 ·exact a.okA t
theorem AccI.app {s:St} {b b':Nat} {no no':Nat→Prop} {M M':List (List Int)} {v v':AV} (a:AccI s.h s.n b no M v) (a':TabI s.h s.n b' no' M' v') (hno:∀ x,no' x→x≠b'→(b<s.n→x≠b)∧no x) (hl:M.length+M'.length≤1000) (hs:s.n+10≤far) :
  ∃ w s',appendA false 1 24 (tag 22) s v v'=.val w s'∧TabI s'.h s'.n s.n no (M++M') w∧s'.n=s.n+1∧(∀ c,c<s.n→c≠b→s'.h.get c=s.h.get c)∧min s.m b≤s'.m∧s'.m≤s.m:=by
 have hf:far=1000000000:=rfl
 rcases a with ⟨rfl,rfl⟩ | a
 ·obtain ⟨ws,e',sz',k1,k2,k3,rfl,k5,k6,k7,k8⟩:=a'
  have e1:firstA 1 ws.length s (.slice b' 0 ws.length ws.length e')=some ws:=by
   show (match s.h.get b' with | some (.cells c _)=>Abs.cut 0 (ws.length * 1) c | some (.fam c _ q _)=>Abs.cut 0 (ws.length * 1) (c.take q) | _=>none)=_
   rw [k5]
   simp only [Nat.mul_one]
   rw [cut_zero,cut1_all]
  have e2:Nat.beq ws.length 0=false:=nbeq_f (by omega)
  have e3:Nat.ble (ws.length * 24) limit=true:=Nat.ble_eq_true_of_le (by unfold limit;simp at hl;omega)
  refine ⟨.slice s.n 0 ws.length ws.length true,s.new (.cells ws (1+tag 22)),?_,?_,rfl,fun c hc _=>get_new_ne _ _ _ (by omega),by rw [new_m];omega,by rw [new_m];omega⟩
  ·unfold appendA
   simp only [lenA,e1,Nat.mul_one,Nat.beq_refl,k7]
   unfold growA
   simp only [e2,e3]
  ·rw [List.nil_append]
   refine ⟨ws,true,1+tag 22,k1,k2,by rw [new_n];omega,rfl,get_new_eq _ _ _ rfl (by omega),fun _=>by kernel_rfl,k7,fun j j1 j2=>?_⟩
   exact (k8 j j1 j2).move (fun c hc hl=>⟨get_new_ne _ _ _ (by omega),by omega,(hno c hl.2 hl.1).2⟩) (by rw [new_n];omega)
 ·have hb:b<s.n:=by obtain ⟨_,_,_,_,_,h3,_⟩:=a;exact h3
  exact a.app a' (fun x h1 h2=>⟨(hno x h1 h2).1 hb,(hno x h1 h2).2⟩) hl hs
end Go.Proofs.Ytoolodjbfphkjaa.walk
set_option maxRecDepth 10000
namespace Go.Proofs.Ytoolodjbfphkjaa.walk
open Go.Abs Go.Proofs.Ytoolodjbfphkjaa.code
theorem app_more {no:Nat→Prop} {s:St} {p sz:Nat} {x:Int} {l:List Int} {y:AV} (hY:Sl no s.h s.n 1 (intRows l) y) (hp:s.h.get p=some (.cells [.int .i64 x] sz)) (hpn:p<s.n) (hl:l.length≤1000) (hs:s.n+10≤far) :
  ∃ v s',appendA false 1 8 (tag 3) s (.slice p 0 1 1 false) y=.val v s'∧Sl (fun z=>z=p∨z=s.n) s'.h s'.n 1 (intRows (x::l)) v∧s.n≤s'.n∧s'.n≤s.n+1∧(∀ c,c<s.n→s'.h.get c=s.h.get c)∧min s.m p≤s'.m∧s'.m≤s.m:=by
 have hf:far=1000000000:=rfl
 have hfl:=flatten_len hY.wide
 have hw:∀ r ∈ intRows (x::l),r.length=1:=fun r hr=>by
  unfold intRows at hr
  obtain ⟨z,_,rfl⟩:=List.mem_map.mp hr
  rfl
 have hcons:(intRows (x::l)).flatten=AV.int .i64 x::(intRows l).flatten:=rfl
 have e1:lenA y=some (intRows l).length∧firstA 1 (intRows l).length s y=some (intRows l).flatten:=by
  rcases hY.is with ⟨h1,h2⟩ | ⟨b,o,cap,e,c,zz,h1,_,h2,h3,h4,h5⟩
  ·rw [h1,h2];exact ⟨rfl,rfl⟩
  ·subst h3
   refine ⟨rfl,?_⟩
   show (match s.h.get b with | some (.cells c _)=>Abs.cut o ((intRows l).length * 1) c | some (.fam c _ q _)=>Abs.cut o ((intRows l).length * 1) (c.take q) | _=>none)=_
   rw [h4]
   exact h5
 have hA:appendA false 1 8 (tag 3) s (.slice p 0 1 1 false) y=growA 1 8 (tag 3) (intRows l).length (intRows l).flatten s (.slice p 0 1 1 false):=by
  unfold appendA
  simp only [e1.1,e1.2,hfl,Nat.beq_refl,intRows_scal]
 have hil:=intRows_len l
 have e2:Nat.ble ((1+(intRows l).length) * 8) limit=true:=Nat.ble_eq_true_of_le (by unfold limit;omega)
 rw [hA]
 by_cases h0:l=[]
 ·subst h0
  refine ⟨.slice p 0 1 1 false,s.put p (.cells [.int .i64 x] sz),?_,⟨hw,.inr ⟨p,0,1,false,[.int .i64 x],sz,hpn,.inl rfl,⟨Nat.le_refl _,fun h=>(by cases h)⟩,rfl,get_put_eq _ _ _ _ rfl (by omega),rfl⟩⟩,Nat.le_refl _,by rw [put_n];omega,fun c hc=>?_,by simp only [St.put,minN_eq];omega,by simp only [St.put,minN_eq];omega⟩
  ·unfold growA
   simp only [hp]
   rfl
  ·by_cases e:c=p
   ·subst e;rw [get_put_eq _ _ _ _ rfl (by omega)];exact hp.symm
   ·rw [get_put_ne' _ _ _ _ e]
 ·have hl0:0<l.length:=List.length_pos_iff.mpr h0
  have e3:Nat.ble (1+(intRows l).length) 1=false:=by
   cases h:Nat.ble (1+(intRows l).length) 1 with
   | false=>rfl
   | true=>have:=Nat.le_of_ble_eq_true h;omega
  have hlen:(intRows (x::l)).length=1+(intRows l).length:=by rw [intRows_len,intRows_len,List.length_cons];omega
  refine ⟨.slice s.n 0 (1+(intRows l).length) (1+(intRows l).length) true,s.new (.cells (.int .i64 x::(intRows l).flatten) (1+tag 3)),?_,⟨hw,.inr ⟨s.n,0,1+(intRows l).length,true,_,_,by rw [new_n];omega,.inr rfl,⟨by rw [hlen];exact Nat.le_refl _,fun _=>by omega⟩,by rw [hlen],get_new_eq _ _ _ rfl (by omega),?_⟩⟩,by rw [new_n];omega,by rw [new_n];omega,fun c hc=>get_new_ne _ _ _ (by omega),by rw [new_m];omega,by rw [new_m];omega⟩
  ·unfold growA
   simp only [hp,e2,e3,Nat.zero_mul]
   rfl
  ·rw [cut_zero,Nat.mul_one,hcons,hlen]
   have:=cut1_all (AV.int .i64 x::(intRows l).flatten)
   rw [List.length_cons,hfl,Nat.mul_one,Nat.add_comm] at this
   exact this
def toI (M:List (List Nat)):List (List Int):=M.map fun c=>c.map Int.ofNat
theorem toI_app (A B:List (List Nat)):toI (A++B)=toI A++toI B:=List.map_append
theorem toI_len (M:List (List Nat)):(toI M).length=M.length:=List.length_map ..
theorem AccI.len {h:Heap} {n b:Nat} {no:Nat→Prop} {M:List (List Int)} {v:AV} (a:AccI h n b no M v) (s:St):lenSlA s v=.val (.int .i64 (M.length:Int)) s:=by
 rcases a with ⟨rfl,rfl⟩ | a
 ·rfl
 ·exact a.len s
theorem AccI.tab {h:Heap} {n b:Nat} {no:Nat→Prop} {M:List (List Int)} {v:AV} (a:AccI h n b no M v) (hm:0<M.length):TabI h n b no M v:=by
 rcases a with ⟨rfl,rfl⟩ | a
 ·cases hm
 ·exact a
theorem chs_step (n m from_:Nat) (h:from_<n):chs n (m+1) from_=(chs n m (from_+1)).map (from_::·)++chs n (m+1) (from_+1):=by
 show (List.range' from_ (n - from_)).flatMap _=_++(List.range' (from_+1) (n - (from_+1))).flatMap _
 rw [show n - from_=(n - (from_+1))+1 by omega,List.range'_succ,List.flatMap_cons]
theorem chs_few (n:Nat):∀ (k m from_:Nat),n - from_=k→(chs n m from_).length≤2 ^ k
 | k,0,_,_=>by
  show 1≤2 ^ k
  exact Nat.one_le_two_pow
 | 0,m+1,from_,h=>by
  rw [chs_far n (by omega) (show n<from_+(m+1) by omega)]
  simp
 | k+1,m+1,from_,h=>by
  rw [chs_step n m from_ (by omega),List.length_append,List.length_map,Nat.pow_succ]
  have h1:=chs_few n k m (from_+1) (by omega)
  have h2:=chs_few n k (m+1) (from_+1) (by omega)
  omega
def chSz:Nat→Nat
 | 0=>10
 | m+1=>10+6 * (700+chSz m)
def ChAt (n m:Nat):Prop:=∀ {N from_:Nat} {s:St} {r:ARes},call Try.prog X N (.fn 10) [.int .i64 (from_:Int),.int .i64 (n:Int),.int .i64 (m:Int)] s=r→m+1≤N→from_≤6→s.n+2 * chSz m+1000≤far →
  ∃ b w t,r=.val w t∧New s t (chSz m)∧AccI t.h t.n b (fun x=>s.n≤x) (toI (chs n m from_)) w∧s.n≤b∧(b<t.n∨far<b)
theorem ch_leaf (n:Nat):ChAt n 0:=by
 intro N from_ s r hr hN h6 hs
 obtain ⟨N,rfl⟩:∃ m,N=m+1:=⟨N - 1,by omega⟩
 have hf:far=1000000000:=rfl
 have e10:chSz 0=10:=rfl
 rw [e10] at hs ⊢
 obtain ⟨w',t,e,st,b,hq⟩:=call_new (n:=N) (args:=[.int .i64 (from_:Int),.int .i64 (n:Int),.int .i64 ((0:Nat):Int)]) (s:=s) (k:=10) (Q:=fun w h m=>∃ b,AccI h m b (fun x=>s.n≤x) (toI (chs n 0 from_)) w∧s.n≤b∧b<m) Try.func10 rfl (fun u uh un um=>by
  rw [← un]
  have z0:decide ((0:Int)=0)=true:=rfl
  have z1:((0:Nat):Int)=0:=rfl
  rw [enter10,z1]
  simp (disch:=first|omega|(with_unfolding_all exact rfl)|(simp only[new_n,put_n,new_m];omega)|(refine put_m_le ?_;simp only[new_m];omega)) only [res10,K10r0,K10r1,K10r2,K10r3,K10r4,K10r5,K10r6,K10r7,K10r8,K10r9,K10r10,K10l0,K10r11,K10l1,K10r12,K10,Abs.W,reduceIte,Nat.reduceEqDiff,Nat.reduceAdd,decide_true,decide_false,kLoop_def,Nat.reduceSub,List.cons_append,List.nil_append,List.append_nil,List.length_cons,List.length_nil,efs,z0]
  refine ⟨_,_,rfl,⟨fun c hc=>?_,by simp only [new_n];omega,by simp only [new_n];omega,by simp only [new_m];omega,by simp only [new_m];omega⟩,rfl,u.n,.inr ⟨[.nilslice],false,_,rfl,by simp [toI,chs],by simp only [new_n];omega,rfl,get_new_eq _ _ _ rfl (by omega),fun h=>(by cases h),rfl,fun j h1 h2=>?_⟩,Nat.le_refl _,by simp only [new_n];omega⟩
  ·rw [get_new_ne _ _ _ (by omega)]
  ·have:j=0:=by simpa using h1
   subst this
   exact Sl.nil _ _ _ _)
 exact ⟨b,w',t,hr.symm.trans e,st,hq.1,hq.2.1,.inl hq.2.2⟩
theorem ch_inner (N:Nat) {cx:Ctx} {w:St} {i lo b9 c0 b0:Nat} {A M:List (List Int)} {v7 v9:AV} {L:Env} {r:R} (hr:loopN K10l0 rounds (call Try.prog X N) cx L [] w=r) (hA:AccI w.h w.n b0 (fun x=>lo≤x) A v7) (hb0:lo≤b0) (hb0':b0<c0∨far<b0) (hc0:lo≤c0∧c0≤w.n) (hM:AccI w.h w.n b9 (fun x=>c0≤x) M v9) (hb9:c0≤b9) (hlM:M.length≤64) (hAl:A.length≤500) (hMl:∀ c ∈ M,c.length≤10) (hi:i≤100) (hm:w.m≤far) (hs:w.n+1000≤far)
  (q7:L.find 7=v7) (q8:L.find 8=.int .i64 (i:Nat)) (q9:L.find 9=v9) (q10:L.find 10=.int .i64 (0:Nat)) :
  ∃ L1 t v7' b',r=.done (.exit 2) L1 [] t∧AccI t.h t.n b' (fun x=>lo≤x) (A++M.map fun c=>(i:Int)::c) v7'∧lo≤b'∧(b'<t.n∨far<b')∧(∀ c,c<lo→t.h.get c=w.h.get c)∧w.n≤t.n∧t.n≤w.n+640∧min w.m lo≤t.m∧t.m≤far∧L1.find 7=v7'∧∀ c,c<7∨c=8→L1.find c=L.find c:=by
 have hf:far=1000000000:=rfl
 have k9:=hM.okA
 have l9:=hM.len
 obtain ⟨e,L1,t,rfl,rfl,v7',b',h1,h2,h3,h4,h5,h6,h7,h8,h9,h10⟩:=loop_of hr (fun k L' t'=>∃ v7' b',AccI t'.h t'.n b' (fun x=>lo≤x) (A++(M.take k).map fun c=>(i:Int)::c) v7'∧lo≤b'∧((b'<c0∨far<b')∨(w.n≤b'∧b'<t'.n))∧(∀ c,c0≤c→c<w.n→t'.h.get c=w.h.get c)∧(∀ c,c<lo→t'.h.get c=w.h.get c)∧w.n≤t'.n∧t'.n≤w.n+10 * k∧min w.m lo≤t'.m∧t'.m≤far∧L'.find 7=v7'∧L'.find 10=.int .i64 (k:Nat)∧∀ c,c<7∨c=8∨c=9→L'.find c=L.find c)
  (fun e L' t'=>e=.exit 2∧∃ v7' b',AccI t'.h t'.n b' (fun x=>lo≤x) (A++M.map fun c=>(i:Int)::c) v7'∧lo≤b'∧(b'<t'.n∨far<b')∧(∀ c,c<lo→t'.h.get c=w.h.get c)∧w.n≤t'.n∧t'.n≤w.n+640∧min w.m lo≤t'.m∧t'.m≤far∧L'.find 7=v7'∧∀ c,c<7∨c=8→L'.find c=L.find c) M.length (by unfold rounds;omega)
  ⟨v7,b0,by simpa using hA,hb0,.inl hb0',fun _ _ _=>rfl,fun _ _=>rfl,Nat.le_refl _,Nat.le_refl _,by omega,hm,q7,q10,fun _ _=>rfl⟩
  (fun k L' t hk ⟨va,ba,hT,jb1,jb2,jc,jl,jn1,jn2,jm1,jm2,p7,p10,q⟩=>by
   have p8:=(q 8 (by omega)).trans q8
   have p9:=(q 9 (by omega)).trans q9
   by_cases hlt:k<M.length
   ·have e0:decide ((k:Int)<(M.length:Int))=true:=decide_eq_true (by omega)
    have ad:∀ s,aAdd s .i64 (k:Int) 1=.val (.int .i64 ((k:Int)+1)) s:=fun s=>aAdd_i64 s _ _ (by omega)
    have hMt:=hM.tab (by omega)
    have hb9w:b9<w.n:=by obtain ⟨_,_,_,_,_,h3,_⟩:=hMt;exact h3
    have hM':TabI t.h t.n b9 (fun x=>c0≤x) M v9:=hMt.move (jc b9 hb9 hb9w) (fun c hc h=>⟨jc c h hc,h⟩) jn1
    obtain ⟨vk,pk,ck,zk,S1,S2,S3,S4⟩:=hM'.get hlt
    have hml:=hMl M[k] (List.getElem_mem hlt)
    have k7:=hT.okA
    have kk:=S1.okA
    obtain ⟨y,hy⟩:∃ y:St,y=t.new (.cells [.int .i64 (i:Int)] 0):=⟨_,rfl⟩
    have yn:y.n=t.n+1:=by rw [hy];rfl
    have ym:y.m=t.m:=by rw [hy];rfl
    have yg:∀ c,c<t.n→y.h.get c=t.h.get c:=fun c hc=>by rw [hy,get_new_ne _ _ _ (by omega)]
    have yp:y.h.get t.n=some (.cells [.int .i64 (i:Int)] 0):=by rw [hy];exact get_new_eq _ _ _ rfl (by omega)
    obtain ⟨v39,s2,e39,S39,n2,n2',g2,m2,m2'⟩:=app_more (S1.grow yg (by omega:t.n≤y.n)) yp (by omega) (by omega) (by omega)
    have sv:=S39.scal
    obtain ⟨x,hx⟩:∃ x:St,x=s2.new (.cells [v39] 0):=⟨_,rfl⟩
    have xn:x.n=s2.n+1:=by rw [hx];rfl
    have xm:x.m=s2.m:=by rw [hx];rfl
    have xg:∀ c,c<s2.n→x.h.get c=s2.h.get c:=fun c hc=>by rw [hx,get_new_ne _ _ _ (by omega)]
    have xp:x.h.get s2.n=some (.cells [v39] 0):=by rw [hx];exact get_new_eq _ _ _ rfl (by omega)
    have xt:∀ c,c<t.n→x.h.get c=t.h.get c:=fun c hc=>(xg c (by omega)).trans ((g2 c (by omega)).trans (yg c hc))
    have hTx:AccI x.h x.n ba (fun x=>lo≤x) (A++(M.take k).map fun c=>(i:Int)::c) va:=by
     rcases hT with h | h
     ·exact .inl h
     ·have hbt:ba<t.n:=by obtain ⟨_,_,_,_,_,h3,_⟩:=h;exact h3
      exact .inr (h.move (xt ba hbt) (fun c hc h=>⟨xt c hc,h⟩) (by omega))
    have h1:TabI x.h x.n s2.n (fun z=>t.n≤z) [(i:Int)::M[k]] (.slice s2.n 0 1 1 false):=by
     refine ⟨[v39],false,0,rfl,by simp,by omega,rfl,xp,fun h=>(by cases h),sv.1,fun j h1 h2=>?_⟩
     have:j=0:=by simpa using h1
     subst this
     exact S39.move (fun b hb h=>⟨xg b hb,by omega,by omega⟩) (by omega)
    have hlen:(A++(M.take k).map fun c=>(i:Int)::c).length≤564:=by rw [List.length_append,List.length_map,List.length_take];omega
    obtain ⟨w7,s4,e41,T4,n4,g4,m4,m4'⟩:=hTx.app h1 (fun z hz _=>⟨fun h=>by rcases jb2 with (h | h) | ⟨_,h⟩<;>omega,by omega⟩) (by simp only [List.length_singleton];omega) (by omega)
    rw [hy] at e39
    rw [hx] at e41
    have esn:(A++(M.take (k+1)).map fun c=>(i:Int)::c)=(A++(M.take k).map fun c=>(i:Int)::c)++[(i:Int)::M[k]]:=by
     rw [take_snoc hlt,List.map_append,List.append_assoc];rfl
    refine .inl ⟨hlt,_,s4,by
     simp (disch:=first|omega|(with_unfolding_all exact rfl)|(simp only[new_n,put_n,new_m];omega)|(refine put_m_le ?_;simp only[new_m];omega)) only [K10l0,K10r8,K10r9,K10r10,Abs.W,reduceIte,Nat.reduceEqDiff,Nat.reduceAdd,decide_true,decide_false,kLoop_def,Nat.reduceSub,List.cons_append,List.nil_append,List.append_nil,List.length_cons,List.length_nil,efs,p7,p8,p9,p10,k9,l9,e0,k7,kk,S2,S3,S4,e39,sv.1,sv.2.1,sv.2.2,e41,ad,Nat.zero_add,Nat.add_zero]
     rfl,w7,x.n,by rw [esn];exact .inr T4,by omega,.inr ⟨by omega,by omega⟩,fun c h1 h2=>?_,fun c hc=>?_,by omega,by omega,by omega,by omega,?_,?_,fun c hc=>?_⟩
    ·exact (g4 c (by omega) (by rcases jb2 with (h | h) | ⟨h,_⟩<;>omega)).trans ((xt c (by omega)).trans (jc c h1 h2))
    ·exact (g4 c (by omega) (by omega)).trans ((xt c (by omega)).trans (jl c hc))
    ·simp only [efs,reduceIte,Nat.reduceEqDiff]
    ·simp only [efs,reduceIte,Nat.reduceEqDiff];rfl
    ·simp only [efs]
     repeat rw [if_neg (by omega)]
     exact q c hc
   ·obtain rfl:k=M.length:=by omega
    have e0:decide ((M.length:Int)<(M.length:Int))=false:=by simp
    rw [List.take_length] at hT
    refine .inr ⟨.exit 2,L'.set 29 (.bool false),t,by simp,?_,rfl,va,ba,hT,jb1,?_,jl,jn1,by omega,jm1,jm2,?_,fun c hc=>?_⟩
    ·simp (disch:=first|omega|(with_unfolding_all exact rfl)|(simp only[new_n,put_n,new_m];omega)|(refine put_m_le ?_;simp only[new_m];omega)) only [K10l0,K10r8,Abs.W,reduceIte,Nat.reduceEqDiff,Nat.reduceAdd,decide_true,decide_false,kLoop_def,Nat.reduceSub,List.cons_append,List.nil_append,List.append_nil,List.length_cons,List.length_nil,efs,p9,p10,k9,l9,e0]
    ·rcases jb2 with (h | h) | ⟨_,h⟩
     ·exact .inl (by omega)
     ·exact .inr h
     ·exact .inl h
    ·simp only [efs,p7,reduceIte,Nat.reduceEqDiff]
    ·simp only [efs]
     rw [if_neg (by omega)]
     exact q c (by omega))
 exact ⟨L1,t,v7',b',rfl,h1,h2,h3,h4,h5,h6,h7,h8,h9,h10⟩
def chUp (n m from_ j:Nat):List (List Nat):=(List.range' from_ j).flatMap fun i=>(chs n m (i+1)).map (i::·)
theorem chUp_succ (n m from_ j:Nat):chUp n m from_ (j+1)=chUp n m from_ j++(chs n m (from_+j+1)).map ((from_+j)::·):=by
 unfold chUp
 rw [range'_app,List.flatMap_append]
 congr 1
 show (List.range' (from_+j) 1).flatMap _=_
 rw [List.range'_one,List.flatMap_singleton]
theorem chUp_all (n m from_:Nat):chUp n m from_ (n - from_)=chs n (m+1) from_:=rfl
theorem chUp_few (n m from_ j:Nat) (h6:n≤6) (hj:j≤n - from_):(chUp n m from_ j).length≤64:=by
 have h:=chs_few n (n - from_) (m+1) from_ rfl
 have h2:2 ^ (n - from_)≤64:=Nat.pow_le_pow_right (by omega:0<2) (show n - from_≤6 by omega)
 rw [← chUp_all] at h
 have h3:(chUp n m from_ (n - from_)).length=(chUp n m from_ j).length+((List.range' (from_+j) (n - from_ - j)).flatMap fun i=>(chs n m (i+1)).map (i::·)).length:=by
  have e:n - from_=j+(n - from_ - j):=by omega
  have:chUp n m from_ (n - from_)=chUp n m from_ j++(List.range' (from_+j) (n - from_ - j)).flatMap fun i=>(chs n m (i+1)).map (i::·):=by
   unfold chUp
   rw [← List.flatMap_append,← range'_app,← e]
  rw [this,List.length_append]
 omega
theorem toI_cons (i:Nat) (M:List (List Nat)):toI (M.map (i::·))=(toI M).map fun c=>(i:Int)::c:=by
 unfold toI
 rw [List.map_map,List.map_map]
 rfl
theorem ch_step (n m:Nat) (hn6:n≤6) (hm6:m≤6) (ih:ChAt n m):ChAt n (m+1):=by
 intro N from_ s r hr hN h6 hs
 obtain ⟨N,rfl⟩:∃ k,N=k+1:=⟨N - 1,by omega⟩
 have hf:far=1000000000:=rfl
 have es:chSz (m+1)=10+6 * (700+chSz m):=rfl
 obtain ⟨w',t,e,st,b,hq⟩:=call_new' (n:=N) (args:=[.int .i64 (from_:Int),.int .i64 (n:Int),.int .i64 ((m+1:Nat):Int)]) (s:=s) (k:=chSz (m+1)) (Q:=fun w h k=>∃ b,AccI h k b (fun x=>s.n≤x) (toI (chs n (m+1) from_)) w∧s.n≤b∧(b<k∨far<b)) Try.func10 rfl (fun u uh un um=>by
  rw [← un]
  have e0:decide (((m+1:Nat):Int)=0)=false:=decide_eq_false (by omega)
  have sb:∀ s,aSub s .i64 ((m+1:Nat):Int) 1=.val (.int .i64 (m:Int)) s:=fun s=>by rw [aSub_i64 s _ _ (by omega)];congr 2;omega
  rw [enter10]
  simp (disch:=first|omega|(with_unfolding_all exact rfl)|(simp only[new_n,put_n,new_m];omega)|(refine put_m_le ?_;simp only[new_m];omega)) only [K10,K10r0,K10r1,K10r3,K10r4,Abs.W,reduceIte,Nat.reduceEqDiff,Nat.reduceAdd,decide_true,decide_false,kLoop_def,Nat.reduceSub,List.cons_append,List.nil_append,List.append_nil,List.length_cons,List.length_nil,efs,e0]
  generalize hlp:loopN _ rounds _ _ _ _ _=q1
  obtain ⟨e,L1,s1,rfl,rfl,v7,b7,hT,hb1,hb2,hsm,hn1,hn2,hm1,hm2,f7⟩:=loop_of hlp (fun j L t=>∃ v7 b7,AccI t.h t.n b7 (fun x=>u.n≤x) (toI (chUp n m from_ j)) v7∧u.n≤b7∧(b7<t.n∨far<b7)∧(∀ c,c<u.n→t.h.get c=u.h.get c)∧u.n≤t.n∧t.n≤u.n+j * (700+chSz m)∧u.n≤t.m∧t.m≤far∧L.find 7=v7∧L.find 1=.int .i64 (n:Int)∧L.find 2=.int .i64 ((m+1:Nat):Int)∧L.find 8=.int .i64 (from_+j:Nat))
   (fun e L t=>e=.exit 0∧∃ v7 b7,AccI t.h t.n b7 (fun x=>u.n≤x) (toI (chs n (m+1) from_)) v7∧u.n≤b7∧(b7<t.n∨far<b7)∧(∀ c,c<u.n→t.h.get c=u.h.get c)∧u.n≤t.n∧t.n≤u.n+6 * (700+chSz m)∧u.n≤t.m∧t.m≤far∧L.find 7=v7) (n - from_) (by unfold rounds;omega)
   ⟨.nilslice,far+1,.inl ⟨rfl,rfl⟩,by omega,.inr (by omega),fun _ _=>rfl,Nat.le_refl _,by omega,by omega,by omega,by simp only [find_cons,efs,reduceIte,Nat.reduceEqDiff],by simp only [find_cons,efs,reduceIte,Nat.reduceEqDiff],by simp only [find_cons,efs,reduceIte,Nat.reduceEqDiff],by simp only [find_cons,efs,reduceIte,Nat.reduceEqDiff];rfl⟩
   (fun j L t hj ⟨v7,b7,hT,hb1,hb2,hsm,hn1,hn2,hm1,hm2,q7,q1,q2,q8⟩=>by
    have c6:=Nat.mul_le_mul_right (700+chSz m) (show j≤6 by omega)
    have sc:(j+1) * (700+chSz m)=j * (700+chSz m)+(700+chSz m):=Nat.succ_mul _ _
    by_cases hlt:from_+j<n
    ·have e1:decide (((from_+j:Nat):Int)<(n:Int))=true:=decide_eq_true (by omega)
     have ad:∀ s,aAdd s .i64 ((from_+j:Nat):Int) 1=.val (.int .i64 ((from_+j+1:Nat):Int)) s:=fun s=>aAdd_i64 s _ _ (by omega)
     simp (disch:=first|omega|(with_unfolding_all exact rfl)|(simp only[new_n,put_n,new_m];omega)|(refine put_m_le ?_;simp only[new_m];omega)) only [K10l1,K10r5,K10r6,Abs.W,reduceIte,Nat.reduceEqDiff,Nat.reduceAdd,decide_true,decide_false,kLoop_def,Nat.reduceSub,List.cons_append,List.nil_append,List.append_nil,List.length_cons,List.length_nil,efs,q1,q2,q8,e1,ad,sb]
     generalize hc:call _ _ _ (.fn 10) _ _=rc
     obtain ⟨b9,v9,t2,rfl,s2,hA9,hb9,hb9'⟩:=ih hc (by omega) (by omega) (by omega)
     have s2n:=s2.n
     have s2l:=s2.le
     have s2m:=s2.m
     have k9:=hA9.okA
     simp (disch:=first|omega|(with_unfolding_all exact rfl)|(simp only[new_n,put_n,new_m];omega)|(refine put_m_le ?_;simp only[new_m];omega)) only [K10r7,Abs.W,reduceIte,Nat.reduceEqDiff,Nat.reduceAdd,decide_true,decide_false,kLoop_def,Nat.reduceSub,List.cons_append,List.nil_append,List.append_nil,List.length_cons,List.length_nil,efs,k9]
     generalize hlp2:loopN _ rounds _ _ _ _ _=rl
     have hT2:AccI t2.h t2.n b7 (fun x=>u.n≤x) (toI (chUp n m from_ j)) v7:=by
      rcases hT with h | h
      ·exact .inl h
      ·have hbt:b7<t.n:=by obtain ⟨_,_,_,_,_,h3,_⟩:=h;exact h3
       exact .inr (h.move (s2.same b7 hbt) (fun c hc h=>⟨s2.same c hc,h⟩) (by omega))
     have l1:=chUp_few n m from_ j hn6 (by omega)
     have l2:=chs_few n _ m (from_+j+1) rfl
     have l3:2 ^ (n - (from_+j+1))≤64:=Nat.pow_le_pow_right (by omega:0<2) (show n - (from_+j+1)≤6 by omega)
     obtain ⟨L2,t3,v7',b',rfl,g1,g2,g3,g4,g5,g6,g7,g8,g9,g10⟩:=ch_inner N (i:=from_+j) (lo:=u.n) (c0:=t.n) hlp2 hT2 hb1 hb2 (by omega) hA9 hb9 (by rw [toI_len];omega) (by rw [toI_len];omega) (fun c hc=>by
       unfold toI at hc
       obtain ⟨d,hd,rfl⟩:=List.mem_map.mp hc
       rw [List.length_map,(chs_ok n m _ d hd).1]
       omega) (by omega) (by omega) (by omega)
      (by simp only [efs,q7,reduceIte,Nat.reduceEqDiff]) (by simp only [efs,q8,reduceIte,Nat.reduceEqDiff]) (by simp only [efs,reduceIte,Nat.reduceEqDiff]) (by simp only [efs,reduceIte,Nat.reduceEqDiff];rfl)
     have i8:L2.find 8=.int .i64 (from_+j:Nat):=(g10 8 (.inr rfl)).trans (by simp only [efs,q8,reduceIte,Nat.reduceEqDiff])
     refine .inl ⟨by omega,_,t3,by
      simp (disch:=first|omega|(with_unfolding_all exact rfl)|(simp only[new_n,put_n,new_m];omega)|(refine put_m_le ?_;simp only[new_m];omega)) only [K10r11,Abs.W,reduceIte,Nat.reduceEqDiff,Nat.reduceAdd,decide_true,decide_false,kLoop_def,Nat.reduceSub,List.cons_append,List.nil_append,List.append_nil,List.length_cons,List.length_nil,efs,i8,ad]
      rfl,v7',b',by rw [chUp_succ,toI_app,toI_cons];exact g1,g2,g3,fun c hc=>(g4 c hc).trans ((s2.same c (by omega)).trans (hsm c hc)),by omega,by omega,by omega,by omega,?_,?_,?_,?_⟩
     ·simp only [efs,g9,reduceIte,Nat.reduceEqDiff]
     ·simp only [efs,reduceIte,Nat.reduceEqDiff]
      rw [g10 1 (by omega)]
      simp only [efs,q1,reduceIte,Nat.reduceEqDiff]
     ·simp only [efs,reduceIte,Nat.reduceEqDiff]
      rw [g10 2 (by omega)]
      simp only [efs,q2,reduceIte,Nat.reduceEqDiff]
     ·simp only [efs,reduceIte,Nat.reduceEqDiff];rfl
    ·have e1:decide (((from_+j:Nat):Int)<(n:Int))=false:=decide_eq_false (by omega)
     have hje:chUp n m from_ j=chs n (m+1) from_:=by
      rw [← chUp_all]
      congr 1
      omega
     rw [hje] at hT
     refine .inr ⟨.exit 0,L.set 17 (.bool false),t,by simp,?_,rfl,v7,b7,hT,hb1,hb2,hsm,hn1,by omega,hm1,hm2,?_⟩
     ·simp (disch:=first|omega|(with_unfolding_all exact rfl)|(simp only[new_n,put_n,new_m];omega)|(refine put_m_le ?_;simp only[new_m];omega)) only [K10l1,K10r5,Abs.W,reduceIte,Nat.reduceEqDiff,Nat.reduceAdd,decide_true,decide_false,kLoop_def,Nat.reduceSub,List.cons_append,List.nil_append,List.append_nil,List.length_cons,List.length_nil,efs,q1,q8,e1]
     ·simp only [efs,q7,reduceIte,Nat.reduceEqDiff])
  have k7:=hT.okA
  simp (disch:=first|omega|(with_unfolding_all exact rfl)|(simp only[new_n,put_n,new_m];omega)|(refine put_m_le ?_;simp only[new_m];omega)) only [K10r12,res10,Abs.W,reduceIte,Nat.reduceEqDiff,Nat.reduceAdd,decide_true,decide_false,kLoop_def,Nat.reduceSub,List.cons_append,List.nil_append,List.append_nil,List.length_cons,List.length_nil,efs,f7,k7]
  refine ⟨v7,s1,rfl,⟨hsm,hn1,by omega,hm1,hm2⟩,⟨b7,hT,hb1,hb2⟩,fun hp=>?_⟩
  rcases hT with h | h
  ·exact ⟨far+1,.inl h,by omega,.inr (by omega)⟩
  ·rw [h.plain] at hp;cases hp)
 exact ⟨b,w',t,hr.symm.trans e,st,hq⟩
theorem ch_ex (n:Nat) (hn:n≤6):∀ m,m≤7→ChAt n m
 | 0,_=>ch_leaf n
 | m+1,h=>ch_step n m hn (by omega) (ch_ex n hn m (by omega))
end Go.Proofs.Ytoolodjbfphkjaa.walk
