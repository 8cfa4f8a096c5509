/- What some of the results of a bench say, beside all of them. -/
import Derived.Test.YtfekafjfidohdaaM7
import Derived.Test.YtfekafjfidohdaaCodes
import Derived.Test.YtfekafjfidohdaaWalkAll
set_option linter.unusedSimpArgs false
set_option maxHeartbeats 16000000
set_option linter.unusedVariables false
set_option maxRecDepth 10000
namespace Go.Proofs.Ytfekafjfidohdaa.walk
open Go.Abs Go.Proofs.Ytfekafjfidohdaa.code
theorem givE_says {b:Bench} (ok:b.Ok) {i:Nat} (h:i<givMany b):Says (givAt b i) (givE b (givMany b)):=by
 have e:=givE_at ok h
 obtain ⟨ga,_⟩:=givAt_ok ok h
 unfold Says
 rw [ga,e]
 exact ⟨Int.le_refl _,Int.le_refl _⟩
theorem knT_gives {b:Bench} (ok:b.Ok) {k:Nat} {T:List (List Gap)} (hk:k≤resMany b) (h:knT b k=some T):∀ i,i<givMany b→Says (givAt b i) (ent T):=fun i hi=>by
 obtain ⟨ga,gb,_⟩:=givAt_ok ok hi
 exact (givE_says ok hi).mono (knT_le ok k T hk h) (by rw [ga];show i+1<givMany b+1;omega) (by show _<givMany b+1;omega)
theorem knT_says {b:Bench} (ok:b.Ok):∀ k T,k≤resMany b→knT b k=some T→∀ i,i<k→Says (resAt b i) (ent T)
 | 0,_,_,_,i,hi=>absurd hi (Nat.not_lt_zero i)
 | k+1,T,hk,h,i,hi=>by
  have h':(match knT b k with | none=>none | some T=>if refB T (resAt b k)=true then none else some (withT (big b) T (resAt b k)))=some T:=h
  cases e:knT b k with
  | none=>rw [e] at h';cases h'
  | some T0 =>
   rw [e] at h'
   change (if refB T0 (resAt b k)=true then none else some (withT (big b) T0 (resAt b k)))=some T at h'
   by_cases hr:refB T0 (resAt b k)=true
   ·rw [if_pos hr] at h';cases h'
   ·rw [if_neg hr] at h'
    cases h'
    have k0:=knT_ok ok k T0 (by omega) e
    obtain ⟨ra,rb,_⟩:=resAt_ok ok (show k<resMany b by omega)
    obtain ⟨ia,ib,_⟩:=resAt_ok ok (show i<resMany b by omega)
    have hE:∀ x y,x<big b→y<big b→ent (withT (big b) T0 (resAt b k)) x y=withE (ent T0) (resAt b k) x y:=fun x y hx hy=>by rw [withT_tabOf,tabOf_ent _ hx hy]
    by_cases he:i=k
    ·subst he
     have:=withE_says (c:=resAt b i) k0.cl ra rb
     unfold Says at this ⊢
     rw [hE _ _ ra rb]
     exact this
    ·have h1:=knT_says ok k T0 (by omega) e i (by omega)
     exact h1.mono (show LeE (big b) (ent (withT (big b) T0 (resAt b k))) (ent T0) from fun x y hx hy=>by rw [hE x y hx hy];exact withE_le (big b) (ent T0) (resAt b k) x y hx hy) ia ib
def Among (o b:Bench):Prop:=∀ i,i<resMany o→∃ j,j<resMany b∧resAt o i=resAt b j
theorem among_of {b:Bench} {ws:List Weigh} {ts:List Trial} (hw:∀ w ∈ ws,w ∈ b.ws) (ht:∀ t ∈ ts,t ∈ b.ts):Among ⟨b.ms,ws,b.ss,ts,b.days⟩ b:=fun i hi=>by
 have hi':i<ws.length+ts.length:=hi
 by_cases h:i<ws.length
 ·obtain ⟨j,hj,e⟩:=List.getElem_of_mem (hw _ (List.getElem_mem h))
  refine ⟨j,by unfold resMany;omega,?_⟩
  show (if i<ws.length then (wAt ⟨b.ms,ws,b.ss,ts,b.days⟩ i).claim else _)=(if j<b.ws.length then (wAt b j).claim else _)
  rw [if_pos h,if_pos hj,← wAt_at hj,e,← wAt_at (b:=⟨b.ms,ws,b.ss,ts,b.days⟩) h]
 ·have h2:i - ws.length<ts.length:=by omega
  obtain ⟨j,hj,e⟩:=List.getElem_of_mem (ht _ (List.getElem_mem h2))
  refine ⟨b.ws.length+j,by unfold resMany;omega,?_⟩
  show (if i<ws.length then _ else (tAt ⟨b.ms,ws,b.ss,ts,b.days⟩ (i - ws.length)).claim ⟨b.ms,ws,b.ss,ts,b.days⟩)=(if b.ws.length+j<b.ws.length then _ else (tAt b (b.ws.length+j - b.ws.length)).claim b)
  rw [if_neg h,if_neg (by omega),show b.ws.length+j - b.ws.length=j by omega,← tAt_at hj,e,← tAt_at (b:=⟨b.ms,ws,b.ss,ts,b.days⟩) h2]
  rfl
theorem among_known {b:Bench} {ws:List Weigh} {ts:List Trial} (ok:b.Ok) (ok':Bench.Ok ⟨b.ms,ws,b.ss,ts,b.days⟩) (ha:Among ⟨b.ms,ws,b.ss,ts,b.days⟩ b) {T:List (List Gap)} (h:knT b (resMany b)=some T) :
  ∃ T',knT ⟨b.ms,ws,b.ss,ts,b.days⟩ (resMany ⟨b.ms,ws,b.ss,ts,b.days⟩)=some T'∧LeE (big b) (ent T) (ent T'):=by
 have kk:=knT_ok ok _ T (Nat.le_refl _) h
 refine knT_most (b:=⟨b.ms,ws,b.ss,ts,b.days⟩) ok' kk.cl (knT_gives ok (Nat.le_refl _) h) _ (Nat.le_refl _) fun i hi=>?_
 obtain ⟨j,hj,e⟩:=ha i hi
 rw [e]
 exact knT_says ok _ T (Nat.le_refl _) h j hj
end Go.Proofs.Ytfekafjfidohdaa.walk
set_option maxRecDepth 10000
namespace Go.Abs
theorem scal_ln {s:St} {v w:AV} (h:lenSlA s v=.val w s):v.scalar=true:=by cases v<;>first | rfl | cases h
end Go.Abs
namespace Go.Proofs.Ytfekafjfidohdaa.walk
open Go.Abs Go.Proofs.Ytfekafjfidohdaa.code
def selW (b:Bench) (l:List Nat):List Weigh:=(l.filter fun i=>decide (i<b.ws.length)).map fun i=>wAt b i
def selT (b:Bench) (l:List Nat):List Trial:=(l.filter fun i=>!decide (i<b.ws.length)).map fun i=>tAt b (i - b.ws.length)
theorem selW_snoc (b:Bench) (l:List Nat) (i:Nat):selW b (l++[i])=if i<b.ws.length then selW b l++[wAt b i] else selW b l:=by
 unfold selW
 rw [List.filter_append]
 by_cases h:i<b.ws.length
 ·rw [if_pos h];simp [h]
 ·rw [if_neg h];simp [h]
theorem selT_snoc (b:Bench) (l:List Nat) (i:Nat):selT b (l++[i])=if i<b.ws.length then selT b l else selT b l++[tAt b (i - b.ws.length)]:=by
 unfold selT
 rw [List.filter_append]
 by_cases h:i<b.ws.length
 ·rw [if_pos h];simp [h]
 ·rw [if_neg h];simp [h]
def onlyT:Nat→Nat
 | 0=>tag 56
 | _=>tag 58
def onlyR (ws:List Weigh) (ts:List Trial):Nat→List (List AV)
 | 0=>ws.map Weigh.cells
 | 1=>ts.map Trial.cells
 | _=>[]
structure OnlyJ (u t:St) (b:Bench) (v1 v2 v3 v4:AV) (ws:List Weigh) (ts:List Trial) (p2 p5 lo k:Nat) (bs:Nat→Nat) (vs:Nat→AV):Prop where
 g2:t.h.get p2=some (.cells [v1,v2,v3,v4,.int .i64 b.days] (tag 30))
 g5:t.h.get p5=some (.cells [v1,vs 0,v3,vs 1,.int .i64 b.days] (tag 30))
 ls:Lists t.h t.n lo (fun _=>4) onlyT (onlyR ws ts) bs vs
 be:Beside u t k
 pl:u.n≤p2∧p2<p5∧p5<lo∧lo≤t.n
theorem only_round (N:Nat) (cx:Ctx) {b:Bench} {v1 v2 v3 v4 vl:AV} {u t:St} {L:Env} {l:List Nat} {ws:List Weigh} {ts:List Trial} {p2 p5 lo k i:Nat} {bs:Nat→Nat} {vs:Nat→AV} (ok:b.Ok) (hB:BenchAt u.h u.n b v1 v2 v3 v4) (hl:RowsAt u.h u.n 1 (intRows (l.map Int.ofNat)) vl) (hli:i<l.length) (hl50:l.length≤50) (hx:l[i]<b.ws.length+b.ts.length) (hs:u.n+k+1000≤far)
  (hJ:OnlyJ u t b v1 v2 v3 v4 ws ts p2 p5 lo k bs vs) (hwl:ws.length≤50) (htl:ts.length≤50) (q1:L.find 1=vl) (q2:L.find 2=.ptr p2 0) (q5:L.find 5=.ptr p5 0) (q6:L.find 6=.int .i64 i) :
  ∃ L1 t1 bs1 vs1,K18l0 (call Try.prog X N) cx L [] t=.done .norm L1 [] t1∧L1.find 1=vl∧L1.find 2=.ptr p2 0∧L1.find 4=L.find 4∧L1.find 5=.ptr p5 0∧L1.find 6=.int .i64 (i+1:Nat) ∧
   OnlyJ u t1 b v1 v2 v3 v4 (if l[i]<b.ws.length then ws++[wAt b l[i]] else ws) (if l[i]<b.ws.length then ts else ts++[tAt b (l[i] - b.ws.length)]) p2 p5 lo (k+2) bs1 vs1∧∀ c,c<lo→c≠p5→t1.h.get c=t.h.get c:=by
 have hf:far=1000000000:=rfl
 obtain ⟨g2,g5,ls,be,pl1,pl2,pl3,pl4⟩:=hJ
 have tn:=be.n
 have tl:=be.le
 have c1:=ok.w1
 have c2:=ok.t1
 have ll:=hl.len
 rw [intRows_len,List.length_map] at ll
 have e0:decide ((i:Int)<(l.length:Int))=true:=decide_eq_true (by omega)
 obtain ⟨xi,pi,ci,zi,a1,a2,a3,a4⟩:=intRow_at hl (i:=i) (by rw [List.length_map];exact hli)
 rw [show (l.map Int.ofNat).getD i 0=((l[i]:Nat):Int) by simp [List.getD,hli]] at a4
 have a3':=(be.same _ a1).trans a3
 have kl:∀ t,okA (.val vl t)=.val vl t:=fun t=>okA_ne hl.ne
 have k2:∀ t,okA (.val v2 t)=.val v2 t:=fun t=>okA_ne hB.w.ne
 have k4:∀ t,okA (.val v4 t)=.val v4 t:=fun t=>okA_ne hB.t.ne
 have l2:=hB.w.len
 rw [List.length_map] at l2
 have w0:=(ls.at_ 0).okA
 have w1:=(ls.at_ 1).okA
 have ad:∀ s,aAdd s .i64 (i:Int) 1=.val (.int .i64 ((i:Int)+1)) s:=fun s=>aAdd_i64 s _ _ (by omega)
 generalize l[i]=x at *
 by_cases h:x<b.ws.length
 ·have e1:decide ((x:Int)<(b.ws.length:Int))=true:=decide_eq_true (by omega)
  rw [if_pos h,if_pos h]
  obtain ⟨x0,o0,cs,sz,r1,r2,r3,r4⟩:=hB.w.at_ x (by rw [List.length_map];exact h)
  rw [List.getElem_map,wAt_at h] at r4
  have r3':=(be.same _ r1).trans r3
  obtain ⟨M,hM⟩:∃ M,M=wAt b x:=⟨_,rfl⟩
  rw [← hM] at r4 ⊢
  unfold Weigh.cells at r4
  simp (disch:=first|omega|(with_unfolding_all exact rfl)|(simp only[new_n,put_n,new_m];omega)|(refine put_m_le ?_;simp only[new_m];omega)) only [res18,K18r0,K18r1,K18r2,K18r3,K18r4,K18r5,K18r6,K18r7,K18r8,K18r9,K18,K18l0,Abs.W,reduceIte,Nat.reduceEqDiff,Nat.reduceAdd,decide_true,decide_false,kLoop_def,Nat.reduceSub,List.cons_append,List.nil_append,List.append_nil,List.length_cons,List.length_nil,Env.find_set,Nat.zero_add,Nat.add_zero,q1,q2,q5,q6,g2,g5,kl,k2,l2,ll,e0,e1,w0,a2,a3',a4,r2,r3',r4]
  obtain ⟨y,hy⟩:∃ y:St,y=t.new (.cells [.int .i64 M.a,.int .i64 M.b,.int .i64 M.lo,.int .i64 M.hi] 0):=⟨_,rfl⟩
  rw [← hy]
  have yn:y.n=t.n+1:=by rw [hy];rfl
  have ym:y.m=t.m:=by rw [hy];rfl
  have yg:∀ c,c<t.n→y.h.get c=t.h.get c:=fun c hc=>by rw [hy];exact get_new_ne _ _ _ (by omega)
  have yp:y.h.get t.n=some (.cells [.int .i64 M.a,.int .i64 M.b,.int .i64 M.lo,.int .i64 M.hi] 0):=by rw [hy];exact get_new_eq _ _ _ rfl (by omega)
  have l6:Lists y.h y.n lo (fun _=>4) onlyT (onlyR ws ts) bs vs:=ls.mono (fun j hj=>yg _ hj) (by omega)
  obtain ⟨s7,v7,e7,l7,s7n,s7g,s7m,s7l⟩:=l6.push 0 (bytes:=32) yp rfl rfl (by show ((onlyR ws ts 0).length+1) * 32≤1000000;simp only [onlyR,List.length_map];omega) (by kernel_rfl) (by omega) (by omega)
  have e7':appendA false 4 32 (tag 56) y (vs 0) (.slice t.n 0 1 1 false)=.val v7 s7:=e7
  have bsl:=ls.lo 0
  have g7:∀ c,c<lo→s7.h.get c=t.h.get c:=fun c h1=>(s7g c (by omega) (by omega)).trans (yg c (by omega))
  have q25:=(g7 p5 (by omega)).trans g5
  have sc7:=(l7.at_ 0).scal
  rw [upd_at] at sc7
  obtain ⟨sc71,sc72⟩:=sc7
  simp (disch:=first|omega|(with_unfolding_all exact rfl)|(simp only[new_n,put_n,new_m];omega)|(refine put_m_le ?_;simp only[new_m];omega)) only [res18,K18r0,K18r1,K18r2,K18r3,K18r4,K18r5,K18r6,K18r7,K18r8,K18r9,K18,Abs.W,reduceIte,Nat.reduceEqDiff,Nat.reduceAdd,decide_true,decide_false,kLoop_def,Nat.reduceSub,List.cons_append,List.nil_append,List.append_nil,List.length_cons,List.length_nil,Env.find_set,e7',q5,q25,q6,ad,sc71,sc72,Nat.zero_add]
  have hfun:upd (onlyR ws ts) 0 (onlyR ws ts 0++[[.int .i64 M.a,.int .i64 M.b,.int .i64 M.lo,.int .i64 M.hi]])=onlyR (ws++[M]) ts:=by
   funext j
   match j with
   | 0=>first | rfl | (show ws.map Weigh.cells++[_]=(ws++[M]).map Weigh.cells;rw [List.map_append];rfl)
   | 1=>first | rfl | (show ts.map Trial.cells++[_]=(ts++[M]).map Trial.cells;rw [List.map_append];rfl)
   | n+2=>rfl
  rw [hfun] at l7
  have ex:∀ c,c≠p5→(s7.put p5 (.cells [v1,v7,v3,vs 1,.int .i64 b.days] (tag 30))).h.get c=s7.h.get c:=fun c hc=>get_put_ne' _ _ _ _ hc
  refine ⟨_,_,upd bs 0 y.n,upd vs 0 v7,rfl,by simp only [Env.find_set,q1,reduceIte,Nat.reduceEqDiff],by simp only [Env.find_set,q2,reduceIte,Nat.reduceEqDiff],by simp only [Env.find_set,reduceIte,Nat.reduceEqDiff],by simp only [Env.find_set,q5,reduceIte,Nat.reduceEqDiff],by simp only [Env.find_set,reduceIte,Nat.reduceEqDiff];rfl,⟨?_,?_,?_,?_,?_⟩,fun c h1 h2=>(ex c h2).trans (g7 c h1)⟩
  ·rw [ex p2 (by omega),g7 p2 (by omega)];exact g2
  ·rw [get_put_eq _ _ _ _ rfl (by omega),upd_at _ _ _,upd_ne _ _ _ (by omega)]
  ·exact l7.mono (fun i _=>ex _ (by have:=l7.lo i;omega)) (Nat.le_refl _)
  ·have m7:=s7m u.n (by omega) (by rw [ym];exact be.m)
   have f7:s7.m≤far:=by have:=be.far;omega
   exact (⟨fun c hc=>(g7 c (by omega)).trans (be.same c hc),by omega,by omega,m7,f7⟩:Beside u s7 (k+2)).put _ (by omega)
  ·exact ⟨pl1,pl2,pl3,by simp only [put_n];omega⟩
 ·have e1:decide ((x:Int)<(b.ws.length:Int))=false:=decide_eq_false (by omega)
  rw [if_neg h,if_neg h]
  have h':x - b.ws.length<b.ts.length:=by omega
  obtain ⟨z,hz⟩:∃ z,z=x - b.ws.length:=⟨_,rfl⟩
  have sb:∀ s,aSub s .i64 (x:Int) (b.ws.length:Int)=.val (.int .i64 (z:Int)) s:=fun s=>by rw [aSub_i64 s _ _ (by omega)];congr 2;omega
  rw [← hz] at h' ⊢
  obtain ⟨x0,o0,cs,sz,r1,r2,r3,r4⟩:=hB.t.at_ z (by rw [List.length_map];exact h')
  rw [List.getElem_map,tAt_at h'] at r4
  have r3':=(be.same _ r1).trans r3
  obtain ⟨M,hM⟩:∃ M,M=tAt b z:=⟨_,rfl⟩
  rw [← hM] at r4 ⊢
  unfold Trial.cells at r4
  simp (disch:=first|omega|(with_unfolding_all exact rfl)|(simp only[new_n,put_n,new_m];omega)|(refine put_m_le ?_;simp only[new_m];omega)) only [res18,K18r0,K18r1,K18r2,K18r3,K18r4,K18r5,K18r6,K18r7,K18r8,K18r9,K18,K18l0,Abs.W,reduceIte,Nat.reduceEqDiff,Nat.reduceAdd,decide_true,decide_false,kLoop_def,Nat.reduceSub,List.cons_append,List.nil_append,List.append_nil,List.length_cons,List.length_nil,Env.find_set,Nat.zero_add,Nat.add_zero,q1,q2,q5,q6,g2,g5,kl,k2,k4,l2,ll,e0,e1,w1,a2,a3',a4,r2,r3',r4,sb]
  obtain ⟨y,hy⟩:∃ y:St,y=t.new (.cells [.int .i64 M.scale,.int .i64 M.day,.int .i64 M.mass,.int .i64 M.shown] 0):=⟨_,rfl⟩
  rw [← hy]
  have yn:y.n=t.n+1:=by rw [hy];rfl
  have ym:y.m=t.m:=by rw [hy];rfl
  have yg:∀ c,c<t.n→y.h.get c=t.h.get c:=fun c hc=>by rw [hy];exact get_new_ne _ _ _ (by omega)
  have yp:y.h.get t.n=some (.cells [.int .i64 M.scale,.int .i64 M.day,.int .i64 M.mass,.int .i64 M.shown] 0):=by rw [hy];exact get_new_eq _ _ _ rfl (by omega)
  have l6:Lists y.h y.n lo (fun _=>4) onlyT (onlyR ws ts) bs vs:=ls.mono (fun j hj=>yg _ hj) (by omega)
  obtain ⟨s7,v7,e7,l7,s7n,s7g,s7m,s7l⟩:=l6.push 1 (bytes:=32) yp rfl rfl (by show ((onlyR ws ts 1).length+1) * 32≤1000000;simp only [onlyR,List.length_map];omega) (by kernel_rfl) (by omega) (by omega)
  have e7':appendA false 4 32 (tag 58) y (vs 1) (.slice t.n 0 1 1 false)=.val v7 s7:=e7
  have bsl:=ls.lo 1
  have g7:∀ c,c<lo→s7.h.get c=t.h.get c:=fun c h1=>(s7g c (by omega) (by omega)).trans (yg c (by omega))
  have q25:=(g7 p5 (by omega)).trans g5
  have sc7:=(l7.at_ 1).scal
  rw [upd_at] at sc7
  obtain ⟨sc71,sc72⟩:=sc7
  simp (disch:=first|omega|(with_unfolding_all exact rfl)|(simp only[new_n,put_n,new_m];omega)|(refine put_m_le ?_;simp only[new_m];omega)) only [res18,K18r0,K18r1,K18r2,K18r3,K18r4,K18r5,K18r6,K18r7,K18r8,K18r9,K18,Abs.W,reduceIte,Nat.reduceEqDiff,Nat.reduceAdd,decide_true,decide_false,kLoop_def,Nat.reduceSub,List.cons_append,List.nil_append,List.append_nil,List.length_cons,List.length_nil,Env.find_set,e7',q5,q25,q6,ad,sc71,sc72,Nat.zero_add]
  have hfun:upd (onlyR ws ts) 1 (onlyR ws ts 1++[[.int .i64 M.scale,.int .i64 M.day,.int .i64 M.mass,.int .i64 M.shown]])=onlyR ws (ts++[M]):=by
   funext j
   match j with
   | 0=>first | rfl | (show ws.map Weigh.cells++[_]=(ws++[M]).map Weigh.cells;rw [List.map_append];rfl)
   | 1=>first | rfl | (show ts.map Trial.cells++[_]=(ts++[M]).map Trial.cells;rw [List.map_append];rfl)
   | n+2=>rfl
  rw [hfun] at l7
  have ex:∀ c,c≠p5→(s7.put p5 (.cells [v1,vs 0,v3,v7,.int .i64 b.days] (tag 30))).h.get c=s7.h.get c:=fun c hc=>get_put_ne' _ _ _ _ hc
  refine ⟨_,_,upd bs 1 y.n,upd vs 1 v7,rfl,by simp only [Env.find_set,q1,reduceIte,Nat.reduceEqDiff],by simp only [Env.find_set,q2,reduceIte,Nat.reduceEqDiff],by simp only [Env.find_set,reduceIte,Nat.reduceEqDiff],by simp only [Env.find_set,q5,reduceIte,Nat.reduceEqDiff],by simp only [Env.find_set,reduceIte,Nat.reduceEqDiff];rfl,⟨?_,?_,?_,?_,?_⟩,fun c h1 h2=>(ex c h2).trans (g7 c h1)⟩
  ·rw [ex p2 (by omega),g7 p2 (by omega)];exact g2
  ·rw [get_put_eq _ _ _ _ rfl (by omega),upd_ne _ _ _ (by omega),upd_at _ _ _]
  ·exact l7.mono (fun i _=>ex _ (by have:=l7.lo i;omega)) (Nat.le_refl _)
  ·have m7:=s7m u.n (by omega) (by rw [ym];exact be.m)
   have f7:s7.m≤far:=by have:=be.far;omega
   exact (⟨fun c hc=>(g7 c (by omega)).trans (be.same c hc),by omega,by omega,m7,f7⟩:Beside u s7 (k+2)).put _ (by omega)
  ·exact ⟨pl1,pl2,pl3,by simp only [put_n];omega⟩
theorem scB_of {h:Heap} {n:Nat} {b:Bench} {v1 v2 v3 v4:AV} (hB:BenchAt h n b v1 v2 v3 v4) (s:St):scalars [v1,v2,v3,v4,.int .i64 (b.days:Int)]=true:=by rw [scals_cons (by have:=scal_ln (hB.m.len s);simp [scalars,this]),scals_cons (by have:=scal_ln (hB.w.len s);simp [scalars,this]),scals_cons (by have:=scal_ln (hB.s.len s);simp [scalars,this]),scals_cons (by have:=scal_ln (hB.t.len s);simp [scalars,this])];rfl
theorem isAt_rows {h:Heap} {n b w tg lo:Nat} {rows:List (List AV)} {v:AV} (r:IsAt h n b w tg rows v) (hl:lo≤b):Abs.Rows h lo n w tg rows v:=⟨r.wide,r.is.imp id fun ⟨_,h2,h3,h4⟩=>⟨b,hl,h2,h3,h4⟩⟩
theorem isAt_nil {h:Heap} {n b w tg:Nat} {rows:List (List AV)} {v:AV} (r:IsAt h n b w tg rows v) (hp:plain v=true) (h':Heap) (lo n':Nat):Abs.Rows h' lo n' w tg rows v:=by
 rcases r.is with ⟨h1,h2⟩ | ⟨_,_,h3,_⟩
 ·subst h1;subst h2
  exact Rows.nil _ _ _ _ _
 ·subst h3;cases hp
theorem only_ex {N:Nat} {b:Bench} {v1 v2 v3 v4 vl:AV} {l:List Nat} {s:St} {r:ARes} (hr:call Try.prog X N (.fn 18) [.agg (benchV v1 v2 v3 v4 b.days),vl] s=r) (hN:1≤N) (ok:b.Ok) (hB:BenchAt s.h s.n b v1 v2 v3 v4) (hl:RowsAt s.h s.n 1 (intRows (l.map Int.ofNat)) vl) (hl20:l.length≤20) (hx:∀ x ∈ l,x<b.ws.length+b.ts.length) (hs:s.n+5000≤far) :
  ∃ w1 w3 t,r=.val (.agg [v1,w1,v3,w3,.int .i64 b.days]) t∧New s t 200∧Abs.Rows t.h s.n t.n 4 (onlyT 0) ((selW b l).map Weigh.cells) w1∧Abs.Rows t.h s.n t.n 4 (onlyT 1) ((selT b l).map Trial.cells) w3:=by
 obtain ⟨n,rfl⟩:∃ n,N=n+1:=⟨N - 1,by omega⟩
 have hf:far=1000000000:=rfl
 obtain ⟨v,t,e,st,w1,w3,rfl,hw1,hw3⟩:=call_new' (n:=n) (args:=[.agg (benchV v1 v2 v3 v4 b.days),vl]) (s:=s) (k:=200) (Q:=fun v h n=>∃ w1 w3,v=.agg [v1,w1,v3,w3,.int .i64 b.days]∧Abs.Rows h s.n n 4 (onlyT 0) ((selW b l).map Weigh.cells) w1∧Abs.Rows h s.n n 4 (onlyT 1) ((selT b l).map Trial.cells) w3) Try.func18 rfl (fun u uh un um=>by
  rw [← uh,← un] at hB hl
  have scB:=scB_of hB u
  have scN:scalars [v1,.nilslice,v3,.nilslice,.int .i64 (b.days:Int)]=true:=by
   rw [scals_cons (by have:=scal_ln (hB.m.len u);simp [scalars,this]),scals_cons rfl,scals_cons (by have:=scal_ln (hB.s.len u);simp [scalars,this])];rfl
  rw [enter18]
  simp (disch:=first|omega|(with_unfolding_all exact rfl)|(simp only[new_n,put_n,new_m];omega)|(refine put_m_le ?_;simp only[new_m];omega)) only [res18,K18r0,K18r1,K18r2,K18r3,K18r4,K18r5,K18r6,K18r7,K18r8,K18r9,K18,Abs.W,reduceIte,Nat.reduceEqDiff,Nat.reduceAdd,decide_true,decide_false,kLoop_def,Nat.reduceSub,List.cons_append,List.nil_append,List.append_nil,List.length_cons,List.length_nil,Env.find_set,Nat.zero_add,scB]
  simp only [new_n,put_n]
  generalize hlp:loopN _ rounds _ _ _ _ _=rl
  obtain ⟨w,L0,hw,hL0,hlp'⟩:=loop_start hlp
  have wn:w.n=u.n+3:=by rw [hw];rfl
  have wE:Beside u w 3:=by rw [hw];exact (((((((Beside.refl u (by omega) um).new _).new _).new _).put _ (by omega)).put _ (by omega)).put _ (by omega))
  have w2:w.h.get u.n=some (.cells [v1,v2,v3,v4,.int .i64 b.days] (tag 30)):=by
   rw [hw,get_put_ne' _ _ _ _ (by omega),get_put_ne' _ _ _ _ (by omega),get_put_ne' _ _ _ _ (by omega),get_new_ne _ _ _ (by simp only [new_n];omega),get_new_ne _ _ _ (by simp only [new_n];omega)]
   exact get_new_eq _ _ _ rfl (by omega)
  have w4:w.h.get (u.n+1)=some (.cells [.nilslice,.nilslice,.nilslice,.nilslice,.int .i64 0] (tag 30)):=by
   rw [hw,get_put_ne' _ _ _ _ (by omega),get_put_ne' _ _ _ _ (by omega),get_put_ne' _ _ _ _ (by omega),get_new_ne _ _ _ (by simp only [new_n];omega)]
   exact get_new_eq _ _ _ rfl (by simp only [new_n];omega)
  have w5:w.h.get (u.n+2)=some (.cells [v1,.nilslice,v3,.nilslice,.int .i64 b.days] (tag 30)):=by rw [hw];exact get_put_eq _ _ _ _ rfl (by omega)
  have hJ0:OnlyJ u w b v1 v2 v3 v4 (selW b (l.take 0)) (selT b (l.take 0)) u.n (u.n+2) (u.n+3) (3+2 * 0) (fun i=>far+1+i) (fun _=>.nilslice) :=
   ⟨w2,w5,Lists.nil (fun i=>by
    match i with
    | 0=>rfl
    | 1=>rfl
    | n+2=>rfl) (by omega),wE,⟨by omega,by omega,by omega,by omega⟩⟩
  have ll:=hl.len
  rw [intRows_len,List.length_map] at ll
  have kl:∀ t,okA (.val vl t)=.val vl t:=fun t=>okA_ne hl.ne
  have selw:∀ i,(selW b (l.take i)).length≤20:=fun i=>by
   unfold selW
   rw [List.length_map]
   exact Nat.le_trans (List.length_filter_le _ _) (by rw [List.length_take];omega)
  have selt:∀ i,(selT b (l.take i)).length≤20:=fun i=>by
   unfold selT
   rw [List.length_map]
   exact Nat.le_trans (List.length_filter_le _ _) (by rw [List.length_take];omega)
  obtain ⟨e,L1,s1,rfl,rfl,f4,f5,bs,vs,hJ,x4⟩:=loop_of hlp' (fun i L' t'=>L'.find 1=vl∧L'.find 2=.ptr u.n 0∧L'.find 4=.ptr (u.n+1) 0∧L'.find 5=.ptr (u.n+2) 0∧L'.find 6=.int .i64 i∧(∃ bs vs,OnlyJ u t' b v1 v2 v3 v4 (selW b (l.take i)) (selT b (l.take i)) u.n (u.n+2) (u.n+3) (3+2 * i) bs vs)∧t'.h.get (u.n+1)=some (.cells [.nilslice,.nilslice,.nilslice,.nilslice,.int .i64 0] (tag 30)))
   (fun e L' t'=>e=.exit 0∧L'.find 4=.ptr (u.n+1) 0∧L'.find 5=.ptr (u.n+2) 0∧∃ bs vs,OnlyJ u t' b v1 v2 v3 v4 (selW b l) (selT b l) u.n (u.n+2) (u.n+3) (3+2 * l.length) bs vs∧t'.h.get (u.n+1)=some (.cells [.nilslice,.nilslice,.nilslice,.nilslice,.int .i64 0] (tag 30))) l.length (by unfold rounds;omega)
   ⟨by rw [hL0];simp only [find_cons,Env.find_set,reduceIte,Nat.reduceEqDiff],by rw [hL0];simp only [find_cons,Env.find_set,reduceIte,Nat.reduceEqDiff],by rw [hL0];simp only [find_cons,Env.find_set,reduceIte,Nat.reduceEqDiff],by rw [hL0];simp only [find_cons,Env.find_set,reduceIte,Nat.reduceEqDiff],by rw [hL0];simp only [find_cons,Env.find_set,reduceIte,Nat.reduceEqDiff];rfl,⟨_,_,hJ0⟩,w4⟩
   (fun i L' t' hi ⟨q1,q2,q4,q5,q6,⟨bs,vs,hJ⟩,x4⟩=>by
    by_cases hlt:i<l.length
    ·obtain ⟨L2,t2,bs1,vs1,p1,p2,p3,p4,p5,p6,p7,p8⟩:=only_round n ⟨18,none,Try.f18.ntmps,X 18⟩ ok hB hl hlt (by omega) (hx _ (List.getElem_mem hlt)) (by omega) hJ (by have:=selw i;omega) (by have:=selt i;omega) q1 q2 q5 q6
     have e1:l.take (i+1)=l.take i++[l[i]]:=List.take_succ_eq_append_getElem hlt
     refine .inl ⟨hlt,L2,t2,p1,p2,p3,p4.trans q4,p5,p6,⟨bs1,vs1,?_⟩,?_⟩
     ·rw [e1,selW_snoc,selT_snoc]
      exact p7
     ·exact (p8 _ (by omega) (by omega)).trans x4
    ·obtain rfl:i=l.length:=by omega
     have e1:decide ((l.length:Int)<(l.length:Int))=false:=by simp
     rw [List.take_length] at hJ
     refine .inr ⟨.exit 0,L'.set 13 (.bool false),t',by simp,?_,rfl,?_,?_,bs,vs,hJ,x4⟩
     ·simp (disch:=first|omega|(with_unfolding_all exact rfl)|(simp only[new_n,put_n,new_m];omega)|(refine put_m_le ?_;simp only[new_m];omega)) only [res18,K18r0,K18r1,K18r2,K18r3,K18r4,K18r5,K18r6,K18r7,K18r8,K18r9,K18,K18l0,Abs.W,reduceIte,Nat.reduceEqDiff,Nat.reduceAdd,decide_true,decide_false,kLoop_def,Nat.reduceSub,List.cons_append,List.nil_append,List.append_nil,List.length_cons,List.length_nil,Env.find_set,q1,q6,kl,ll,e1,Nat.zero_add]
     ·simp only [Env.find_set,q4,reduceIte,Nat.reduceEqDiff]
     ·simp only [Env.find_set,q5,reduceIte,Nat.reduceEqDiff])
  have sc0:=(hJ.ls.at_ 0).scal.1
  have sc1:=(hJ.ls.at_ 1).scal.1
  have scE:scalars [v1,vs 0,v3,vs 1,.int .i64 (b.days:Int)]=true:=by
   rw [scals_cons (by have:=scal_ln (hB.m.len u);simp [scalars,this]),scals_cons sc0,scals_cons (by have:=scal_ln (hB.s.len u);simp [scalars,this]),scals_cons sc1];rfl
  have g5:=hJ.g5
  have sh5:shapeT Try.prog 30=some (some 5):=by kernel_rfl
  have bn:=hJ.be.n
  simp (disch:=first|omega|(with_unfolding_all exact rfl)|(simp only[new_n,put_n,new_m];omega)|(refine put_m_le ?_;simp only[new_m];omega)) only [res18,K18r0,K18r1,K18r2,K18r3,K18r4,K18r5,K18r6,K18r7,K18r8,K18r9,K18,Abs.W,reduceIte,Nat.reduceEqDiff,Nat.reduceAdd,decide_true,decide_false,kLoop_def,Nat.reduceSub,List.cons_append,List.nil_append,List.append_nil,List.length_cons,List.length_nil,Env.find_set,f4,f5,g5,x4,scE,Nat.zero_add]
  have be:=hJ.be.put (.cells [v1,vs 0,v3,vs 1,.int .i64 b.days] (tag 30)) (show u.n≤u.n+1 by omega)
  have eg:∀ c,c≠u.n+1→(s1.put (u.n+1) (.cells [v1,vs 0,v3,vs 1,.int .i64 b.days] (tag 30))).h.get c=s1.h.get c:=fun c hc=>get_put_ne' _ _ _ _ hc
  refine ⟨.agg [v1,vs 0,v3,vs 1,.int .i64 b.days],_,leave_cell _ _ _ _ sh5 ?_,be.mono (by omega),⟨vs 0,vs 1,rfl,?_,?_⟩,fun hp=>⟨vs 0,vs 1,rfl,?_,?_⟩⟩
  ·rw [f4,load_ptr,get_put_eq _ _ _ _ rfl (by omega),loadO_cells,partS_some]
   rfl
  ·exact isAt_rows ((hJ.ls.at_ 0).mono (fun _=>eg _ (by have:=hJ.ls.lo 0;omega)) (Nat.le_refl _)) (by have:=hJ.ls.lo 0;omega)
  ·exact isAt_rows ((hJ.ls.at_ 1).mono (fun _=>eg _ (by have:=hJ.ls.lo 1;omega)) (Nat.le_refl _)) (by have:=hJ.ls.lo 1;omega)
  ·exact isAt_nil (hJ.ls.at_ 0) (by simp [plain,plains] at hp;cases h1:plain v1<;>cases h2:plain (vs 0)<;>cases h3:plain v3<;>cases h4:plain (vs 1)<;>simp_all) _ _ _
  ·exact isAt_nil (hJ.ls.at_ 1) (by simp [plain,plains] at hp;cases h1:plain v1<;>cases h2:plain (vs 0)<;>cases h3:plain v3<;>cases h4:plain (vs 1)<;>simp_all) _ _ _)
 exact ⟨w1,w3,t,hr.symm.trans e,st,hw1,hw3⟩
end Go.Proofs.Ytfekafjfidohdaa.walk
set_option maxRecDepth 10000
namespace Go.Proofs.Ytfekafjfidohdaa.walk
open Go.Abs Go.Proofs.Ytfekafjfidohdaa.code
noncomputable abbrev awm (n:Nat):CallF:=knows 13 (call Try.prog X n)
structure RestJ (w t:St) (l:List Nat) (v:AV) (bl k:Nat):Prop where
 is:IsAt t.h t.n bl 1 (tag 3) (intRows (l.map Int.ofNat)) v
 lo:w.n≤bl
 same:∀ c,c<w.n→t.h.get c=w.h.get c
 n:w.n≤t.n
 le:t.n≤w.n+k
theorem rest_round (N:Nat) (cx:Ctx) {l:List Nat} {i n gone bl k:Nat} {v:AV} {w t:St} {L:Env} (hJ:RestJ w t l v bl k) (hl:l.length≤50) (hi:i<n) (hn:n≤50) (hs:w.n+k+1000≤far) (q7:L.find 7=.int .i64 n) (q8:L.find 8=.int .i64 gone) (q9:L.find 9=v) (q10:L.find 10=.int .i64 i) :
  ∃ L1 t1 bl1 v1,K5l0 (awm N) cx L [] t=.done .norm L1 [] t1∧RestJ w t1 (if i=gone then l else l++[i]) v1 bl1 (k+2)∧L1.find 9=v1∧L1.find 10=.int .i64 (i+1:Nat)∧∀ c,c<9→L1.find c=L.find c:=by
 have hf:far=1000000000:=rfl
 obtain ⟨is,lo,same,n1,le⟩:=hJ
 have e0:decide ((i:Int)<(n:Int))=true:=decide_eq_true (by omega)
 have ad:∀ s,aAdd s .i64 (i:Int) 1=.val (.int .i64 ((i:Int)+1)) s:=fun s=>aAdd_i64 s _ _ (by omega)
 by_cases h:i=gone
 ·have e1:decide ((i:Int)=(gone:Int))=true:=decide_eq_true (by omega)
  rw [if_pos h]
  simp (disch:=first|omega|(with_unfolding_all exact rfl)|(simp only[new_n,put_n,new_m];omega)|(refine put_m_le ?_;simp only[new_m];omega)) only [res5,K5r0,K5r1,K5r2,K5r3,K5r4,K5r5,K5r6,K5r7,K5r8,K5r9,K5r10,K5r11,K5r12,K5r13,K5r14,K5r15,K5r16,K5r17,K5r18,K5r19,K5r20s29,K5r20s26,K5r20s25,K5r20s24,K5r20s21,K5r20s20,K5r20s19,K5r20s16,K5r20s15,K5r20s14,K5r20s13,K5r20s12,K5r20s11,K5r20s10,K5r20s7,K5r20s6,K5r20s5,K5r20,K5r21s44,K5r21s43,K5r21s42,K5r21s41,K5r21s40,K5r21s39,K5r21s38,K5r21s35,K5r21s34,K5r21s33,K5r21s32,K5r21s31,K5r21s28,K5r21s27,K5r21s26,K5r21s25,K5r21s24,K5r21s21,K5r21s20,K5r21s17,K5r21s16,K5r21s13,K5r21s12,K5r21s9,K5r21s8,K5r21s5,K5r21s4,K5r21,K5r22,K5r23,K5r24,K5r25,K5r26,K5r27,K5r28,K5r29,K5r30,K5r31,K5r32,K5r33,K5,K5l0,Abs.W,reduceIte,Nat.reduceEqDiff,Nat.reduceAdd,decide_true,decide_false,kLoop_def,Nat.reduceSub,List.cons_append,List.nil_append,List.append_nil,List.length_cons,List.length_nil,Env.find_set,q7,q8,q9,q10,e0,e1,ad,Bool.not_true,Nat.zero_add]
  refine ⟨_,_,bl,v,rfl,⟨is,lo,same,n1,by omega⟩,by simp only [Env.find_set,q9,reduceIte,Nat.reduceEqDiff],by simp only [Env.find_set,reduceIte,Nat.reduceEqDiff];rfl,fun c hc=>?_⟩
  simp only [Env.find_set]
  rw [if_neg (by omega),if_neg (by omega),if_neg (by omega)]
 ·have e1:decide ((i:Int)=(gone:Int))=false:=decide_eq_false (by omega)
  rw [if_neg h]
  simp (disch:=first|omega|(with_unfolding_all exact rfl)|(simp only[new_n,put_n,new_m];omega)|(refine put_m_le ?_;simp only[new_m];omega)) only [res5,K5r0,K5r1,K5r2,K5r3,K5r4,K5r5,K5r6,K5r7,K5r8,K5r9,K5r10,K5r11,K5r12,K5r13,K5r14,K5r15,K5r16,K5r17,K5r18,K5r19,K5r20s29,K5r20s26,K5r20s25,K5r20s24,K5r20s21,K5r20s20,K5r20s19,K5r20s16,K5r20s15,K5r20s14,K5r20s13,K5r20s12,K5r20s11,K5r20s10,K5r20s7,K5r20s6,K5r20s5,K5r20,K5r21s44,K5r21s43,K5r21s42,K5r21s41,K5r21s40,K5r21s39,K5r21s38,K5r21s35,K5r21s34,K5r21s33,K5r21s32,K5r21s31,K5r21s28,K5r21s27,K5r21s26,K5r21s25,K5r21s24,K5r21s21,K5r21s20,K5r21s17,K5r21s16,K5r21s13,K5r21s12,K5r21s9,K5r21s8,K5r21s5,K5r21s4,K5r21,K5r22,K5r23,K5r24,K5r25,K5r26,K5r27,K5r28,K5r29,K5r30,K5r31,K5r32,K5r33,K5,K5l0,Abs.W,reduceIte,Nat.reduceEqDiff,Nat.reduceAdd,decide_true,decide_false,kLoop_def,Nat.reduceSub,List.cons_append,List.nil_append,List.append_nil,List.length_cons,List.length_nil,Env.find_set,q7,q8,q9,q10,e0,e1,ad,Bool.not_false,Nat.zero_add]
  obtain ⟨y,hy⟩:∃ y:St,y=t.new (.cells [.int .i64 (i:Int)] 0):=⟨_,rfl⟩
  rw [← hy]
  have yn:y.n=t.n+1:=by rw [hy];rfl
  have yg:∀ c,c<t.n→y.h.get c=t.h.get c:=fun c hc=>by rw [hy];exact get_new_ne _ _ _ (by omega)
  have yp:y.h.get t.n=some (.cells [.int .i64 (i:Int)] 0):=by rw [hy];exact get_new_eq _ _ _ rfl (by omega)
  obtain ⟨s7,e7,l7,s7n,s7g,_,_⟩:=append_at (bytes:=8) (is.mono (h':=y.h) (n':=y.n) (fun h=>yg _ h) (by omega)) yp rfl rfl (by rw [intRows_len,List.length_map];omega) (by kernel_rfl) (by omega)
  rw [← intRows_snoc] at l7
  have e7':appendA false 1 8 (tag 3) y v (.slice t.n 0 1 1 false)=.val (.slice y.n 0 ((intRows (l.map Int.ofNat)).length+1) ((intRows (l.map Int.ofNat)).length+1) true) s7:=e7
  simp (disch:=first|omega|(with_unfolding_all exact rfl)|(simp only[new_n,put_n,new_m];omega)|(refine put_m_le ?_;simp only[new_m];omega)) only [res5,K5r0,K5r1,K5r2,K5r3,K5r4,K5r5,K5r6,K5r7,K5r8,K5r9,K5r10,K5r11,K5r12,K5r13,K5r14,K5r15,K5r16,K5r17,K5r18,K5r19,K5r20s29,K5r20s26,K5r20s25,K5r20s24,K5r20s21,K5r20s20,K5r20s19,K5r20s16,K5r20s15,K5r20s14,K5r20s13,K5r20s12,K5r20s11,K5r20s10,K5r20s7,K5r20s6,K5r20s5,K5r20,K5r21s44,K5r21s43,K5r21s42,K5r21s41,K5r21s40,K5r21s39,K5r21s38,K5r21s35,K5r21s34,K5r21s33,K5r21s32,K5r21s31,K5r21s28,K5r21s27,K5r21s26,K5r21s25,K5r21s24,K5r21s21,K5r21s20,K5r21s17,K5r21s16,K5r21s13,K5r21s12,K5r21s9,K5r21s8,K5r21s5,K5r21s4,K5r21,K5r22,K5r23,K5r24,K5r25,K5r26,K5r27,K5r28,K5r29,K5r30,K5r31,K5r32,K5r33,K5,Abs.W,reduceIte,Nat.reduceEqDiff,Nat.reduceAdd,decide_true,decide_false,kLoop_def,Nat.reduceSub,List.cons_append,List.nil_append,List.append_nil,List.length_cons,List.length_nil,Env.find_set,e7',q10,ad,Nat.zero_add]
  refine ⟨_,_,y.n,.slice y.n 0 ((intRows (l.map Int.ofNat)).length+1) ((intRows (l.map Int.ofNat)).length+1) true,rfl,⟨?_,by omega,fun c hc=>(s7g c (by omega) (by omega)).trans ((yg c (by omega)).trans (same c hc)),by omega,by omega⟩,by simp only [Env.find_set,reduceIte,Nat.reduceEqDiff],by simp only [Env.find_set,reduceIte,Nat.reduceEqDiff];rfl,fun c hc=>?_⟩
  ·rw [List.map_append]
   exact l7
  ·simp only [Env.find_set]
   rw [if_neg (by omega),if_neg (by omega),if_neg (by omega),if_neg (by omega)]
def restOf (n gone:Nat):List Nat:=(List.range n).filter fun i=>!decide (i=gone)
theorem restOf_succ (n gone:Nat):restOf (n+1) gone=if n=gone then restOf n gone else restOf n gone++[n]:=by
 unfold restOf
 rw [List.range_succ,List.filter_append]
 by_cases h:n=gone
 ·rw [if_pos h];simp [h]
 ·rw [if_neg h];simp [h]
theorem restOf_len (n gone:Nat):(restOf n gone).length≤n:=by
 unfold restOf
 exact Nat.le_trans (List.length_filter_le _ _) (by rw [List.length_range];omega)
theorem restOf_lt {n gone x:Nat} (h:x ∈ restOf n gone):x<n:=by
 unfold restOf at h
 exact List.mem_range.mp (List.mem_filter.mp h).1
theorem rest_loop (N:Nat) (cx:Ctx) {n gone:Nat} {w:St} {L:Env} {r:R} (hr:loopN K5l0 rounds (awm N) cx L [] w=r) (hn:n≤20) (hs:w.n+2000≤far) (q7:L.find 7=.int .i64 n) (q8:L.find 8=.int .i64 gone) (q9:L.find 9=.nilslice) (q10:L.find 10=.int .i64 (0:Nat)) :
  ∃ L1 t1 bl v,r=.done (.exit 0) L1 [] t1∧RestJ w t1 (restOf n gone) v bl 100∧L1.find 9=v∧∀ c,c<9→L1.find c=L.find c:=by
 have hf:far=1000000000:=rfl
 obtain ⟨e,L1,s1,rfl,rfl,bl,v,hJ,h9,hq⟩:=loop_of hr (fun i L' t'=>(∃ bl v,RestJ w t' (restOf i gone) v bl (2 * i)∧L'.find 9=v)∧L'.find 10=.int .i64 i∧∀ c,c<9→L'.find c=L.find c) (fun e L' t'=>e=.exit 0∧∃ bl v,RestJ w t' (restOf n gone) v bl 100∧L'.find 9=v∧∀ c,c<9→L'.find c=L.find c) n (by unfold rounds;omega)
  ⟨⟨far+1,.nilslice,⟨IsAt.nil _ _ _ _ _,by omega,fun _ _=>rfl,Nat.le_refl _,Nat.le_refl _⟩,q9⟩,q10,fun _ _=>rfl⟩
  (fun i L' t' hi ⟨⟨bl,v,hJ,h9⟩,h10,g⟩=>by
   by_cases hlt:i<n
   ·obtain ⟨L2,t2,bl1,v1,p1,p2,p3,p4,p5⟩:=rest_round N cx hJ (by have:=restOf_len i gone;omega) hlt (by omega) (by omega) ((g 7 (by omega)).trans q7) ((g 8 (by omega)).trans q8) h9 h10
    rw [← restOf_succ] at p2
    exact .inl ⟨hlt,L2,t2,p1,⟨bl1,v1,p2,p3⟩,p4,fun c hc=>(p5 c hc).trans (g c hc)⟩
   ·obtain rfl:i=n:=by omega
    have e1:decide ((i:Int)<(i:Int))=false:=by simp
    have z7:=(g 7 (by omega)).trans q7
    refine .inr ⟨.exit 0,L'.set 49 (.bool false),t',by simp,?_,rfl,bl,v,⟨hJ.is,hJ.lo,hJ.same,hJ.n,by have:=hJ.le;omega⟩,?_,fun c hc=>?_⟩
    ·simp (disch:=first|omega|(with_unfolding_all exact rfl)|(simp only[new_n,put_n,new_m];omega)|(refine put_m_le ?_;simp only[new_m];omega)) only [res5,K5r0,K5r1,K5r2,K5r3,K5r4,K5r5,K5r6,K5r7,K5r8,K5r9,K5r10,K5r11,K5r12,K5r13,K5r14,K5r15,K5r16,K5r17,K5r18,K5r19,K5r20s29,K5r20s26,K5r20s25,K5r20s24,K5r20s21,K5r20s20,K5r20s19,K5r20s16,K5r20s15,K5r20s14,K5r20s13,K5r20s12,K5r20s11,K5r20s10,K5r20s7,K5r20s6,K5r20s5,K5r20,K5r21s44,K5r21s43,K5r21s42,K5r21s41,K5r21s40,K5r21s39,K5r21s38,K5r21s35,K5r21s34,K5r21s33,K5r21s32,K5r21s31,K5r21s28,K5r21s27,K5r21s26,K5r21s25,K5r21s24,K5r21s21,K5r21s20,K5r21s17,K5r21s16,K5r21s13,K5r21s12,K5r21s9,K5r21s8,K5r21s5,K5r21s4,K5r21,K5r22,K5r23,K5r24,K5r25,K5r26,K5r27,K5r28,K5r29,K5r30,K5r31,K5r32,K5r33,K5,K5l0,Abs.W,reduceIte,Nat.reduceEqDiff,Nat.reduceAdd,decide_true,decide_false,kLoop_def,Nat.reduceSub,List.cons_append,List.nil_append,List.append_nil,List.length_cons,List.length_nil,Env.find_set,z7,h10,e1,Nat.zero_add]
    ·simp only [Env.find_set,h9,reduceIte,Nat.reduceEqDiff]
    ·simp only [Env.find_set]
     rw [if_neg (by omega)]
     exact g c hc)
 exact ⟨L1,s1,bl,v,rfl,hJ,h9,hq⟩
theorem in_round1 (N:Nat) (hN:1≤N) (cx:Ctx) {la lb:List Gap} {va vb:AV} {t:St} {L:Env} {i:Nat} (hA:RowsAt t.h t.n 2 (gapRow la) va) (hB:RowsAt t.h t.n 2 (gapRow lb) vb) (hi:i<la.length) (hab:la.length=lb.length) (hl:la.length≤100) (hs:t.n+1000≤far)
  (fit:lb[i].1≤la[i].1∧la[i].2≤lb[i].2) (qa:L.find 15=va) (qb:L.find 17=vb) (qi:L.find 27=.int .i64 i) :
  ∃ L1,K5l1 (awm N) cx L [] t=.done .norm L1 [] t∧(∀ c,c<27→c≠2→L1.find c=L.find c)∧L1.find 27=.int .i64 (i+1:Nat):=by
 have hf:far=1000000000:=rfl
 have e0:decide ((i:Int)<(la.length:Int))=true:=decide_eq_true (by omega)
 obtain ⟨x0,o0,cs,sz,r1,r2,r3,r4⟩:=hA.at_ i (by rw [gapRow_len];exact hi)
 rw [gapRow_at _ _ _ hi] at r4
 obtain ⟨x1,o1,cs1,sz1,y1,y2,y3,y4⟩:=hB.at_ i (by rw [gapRow_len];omega)
 rw [gapRow_at _ _ _ (by omega)] at y4
 have lv:=hA.len
 rw [gapRow_len] at lv
 have ka:∀ t,okA (.val va t)=.val va t:=fun t=>okA_ne hA.ne
 have kb:∀ t,okA (.val vb t)=.val vb t:=fun t=>okA_ne hB.ne
 have ad:∀ s,aAdd s .i64 (i:Int) 1=.val (.int .i64 ((i:Int)+1)) s:=fun s=>aAdd_i64 s _ _ (by omega)
 have knW:∀ args s,awm N (.fn 15) args s=call Try.prog X N (.fn 15) args s:=fun _ _=>rfl
 have d2:decide (lb[i].1≤la[i].1∧la[i].2≤lb[i].2)=true:=decide_eq_true fit
 simp (disch:=first|omega|(with_unfolding_all exact rfl)|(simp only[new_n,put_n,new_m];omega)|(refine put_m_le ?_;simp only[new_m];omega)) only [res5,K5r0,K5r1,K5r2,K5r3,K5r4,K5r5,K5r6,K5r7,K5r8,K5r9,K5r10,K5r11,K5r12,K5r13,K5r14,K5r15,K5r16,K5r17,K5r18,K5r19,K5r20s29,K5r20s26,K5r20s25,K5r20s24,K5r20s21,K5r20s20,K5r20s19,K5r20s16,K5r20s15,K5r20s14,K5r20s13,K5r20s12,K5r20s11,K5r20s10,K5r20s7,K5r20s6,K5r20s5,K5r20,K5r21s44,K5r21s43,K5r21s42,K5r21s41,K5r21s40,K5r21s39,K5r21s38,K5r21s35,K5r21s34,K5r21s33,K5r21s32,K5r21s31,K5r21s28,K5r21s27,K5r21s26,K5r21s25,K5r21s24,K5r21s21,K5r21s20,K5r21s17,K5r21s16,K5r21s13,K5r21s12,K5r21s9,K5r21s8,K5r21s5,K5r21s4,K5r21,K5r22,K5r23,K5r24,K5r25,K5r26,K5r27,K5r28,K5r29,K5r30,K5r31,K5r32,K5r33,K5,K5l1,Abs.W,reduceIte,Nat.reduceEqDiff,Nat.reduceAdd,decide_true,decide_false,kLoop_def,Nat.reduceSub,List.cons_append,List.nil_append,List.append_nil,List.length_cons,List.length_nil,Env.find_set,Nat.zero_add,Nat.add_zero,qa,qb,qi,ka,kb,lv,e0,r2,r3,r4,y2,y3,y4,knW,inside_ok,d2,ad]
 refine ⟨_,rfl,fun c h h2=>?_,by simp only [Env.find_set,reduceIte,Nat.reduceEqDiff];rfl⟩
 simp only [Env.find_set]
 rw [if_neg (by omega),if_neg (by omega),if_neg (by omega)]
theorem in_loop1 (N:Nat) (hN:1≤N) (cx:Ctx) {la lb:List Gap} {va vb:AV} {t:St} {L:Env} {r:R} (hr:loopN K5l1 rounds (awm N) cx L [] t=r) (hA:RowsAt t.h t.n 2 (gapRow la) va) (hB:RowsAt t.h t.n 2 (gapRow lb) vb) (hab:la.length=lb.length) (hl:la.length≤100) (hs:t.n+1000≤far)
  (fit:∀ i (h:i<la.length) (h':i<lb.length),lb[i].1≤la[i].1∧la[i].2≤lb[i].2) (qa:L.find 15=va) (qb:L.find 17=vb) (qi:L.find 27=.int .i64 (0:Nat)) :
  ∃ L1,r=.done (.exit 2) L1 [] t∧∀ c,c<27→c≠2→L1.find c=L.find c:=by
 have lv:=hA.len
 rw [gapRow_len] at lv
 have ka:∀ t,okA (.val va t)=.val va t:=fun t=>okA_ne hA.ne
 obtain ⟨e,L1,s1,rfl,rfl,rfl,hq⟩:=loop_of hr (fun i L' t'=>t'=t∧(∀ c,c<27→c≠2→L'.find c=L.find c)∧L'.find 27=.int .i64 i) (fun e L' t'=>e=.exit 2∧t'=t∧∀ c,c<27→c≠2→L'.find c=L.find c) la.length (by unfold rounds;omega) ⟨rfl,fun _ _ _=>rfl,qi⟩
  (fun i L' t' hi ⟨ht,g,gi⟩=>by
   subst ht
   by_cases hlt:i<la.length
   ·obtain ⟨L2,p1,p2,p3⟩:=in_round1 N hN cx hA hB hlt hab hl hs (fit i hlt (by omega)) ((g 15 (by omega) (by omega)).trans qa) ((g 17 (by omega) (by omega)).trans qb) gi
    exact .inl ⟨hlt,L2,_,p1,rfl,fun c h h2=>(p2 c h h2).trans (g c h h2),p3⟩
   ·obtain rfl:i=la.length:=by omega
    have e1:decide ((la.length:Int)<(la.length:Int))=false:=by simp
    have za:=(g 15 (by omega) (by omega)).trans qa
    refine .inr ⟨.exit 2,L'.set 192 (.bool false),_,by simp,?_,rfl,rfl,fun c h h2=>?_⟩
    ·simp (disch:=first|omega|(with_unfolding_all exact rfl)|(simp only[new_n,put_n,new_m];omega)|(refine put_m_le ?_;simp only[new_m];omega)) only [res5,K5r0,K5r1,K5r2,K5r3,K5r4,K5r5,K5r6,K5r7,K5r8,K5r9,K5r10,K5r11,K5r12,K5r13,K5r14,K5r15,K5r16,K5r17,K5r18,K5r19,K5r20s29,K5r20s26,K5r20s25,K5r20s24,K5r20s21,K5r20s20,K5r20s19,K5r20s16,K5r20s15,K5r20s14,K5r20s13,K5r20s12,K5r20s11,K5r20s10,K5r20s7,K5r20s6,K5r20s5,K5r20,K5r21s44,K5r21s43,K5r21s42,K5r21s41,K5r21s40,K5r21s39,K5r21s38,K5r21s35,K5r21s34,K5r21s33,K5r21s32,K5r21s31,K5r21s28,K5r21s27,K5r21s26,K5r21s25,K5r21s24,K5r21s21,K5r21s20,K5r21s17,K5r21s16,K5r21s13,K5r21s12,K5r21s9,K5r21s8,K5r21s5,K5r21s4,K5r21,K5r22,K5r23,K5r24,K5r25,K5r26,K5r27,K5r28,K5r29,K5r30,K5r31,K5r32,K5r33,K5,K5l1,Abs.W,reduceIte,Nat.reduceEqDiff,Nat.reduceAdd,decide_true,decide_false,kLoop_def,Nat.reduceSub,List.cons_append,List.nil_append,List.append_nil,List.length_cons,List.length_nil,Env.find_set,za,gi,ka,lv,e1,Nat.zero_add]
    ·simp only [Env.find_set]
     rw [if_neg (by omega)]
     exact g c h h2)
 exact ⟨L1,rfl,hq⟩
theorem in_round2 (N:Nat) (hN:1≤N) (cx:Ctx) {la lb:List Gap} {va vb:AV} {t:St} {L:Env} {i:Nat} (hA:RowsAt t.h t.n 2 (gapRow la) va) (hB:RowsAt t.h t.n 2 (gapRow lb) vb) (hi:i<la.length) (hab:la.length=lb.length) (hl:la.length≤100) (hs:t.n+1000≤far)
  (fit:lb[i].1≤la[i].1∧la[i].2≤lb[i].2) (qa:L.find 19=va) (qb:L.find 21=vb) (qi:L.find 28=.int .i64 i) :
  ∃ L1,K5l2 (awm N) cx L [] t=.done .norm L1 [] t∧(∀ c,c<27→c≠2→L1.find c=L.find c)∧L1.find 28=.int .i64 (i+1:Nat):=by
 have hf:far=1000000000:=rfl
 have e0:decide ((i:Int)<(la.length:Int))=true:=decide_eq_true (by omega)
 obtain ⟨x0,o0,cs,sz,r1,r2,r3,r4⟩:=hA.at_ i (by rw [gapRow_len];exact hi)
 rw [gapRow_at _ _ _ hi] at r4
 obtain ⟨x1,o1,cs1,sz1,y1,y2,y3,y4⟩:=hB.at_ i (by rw [gapRow_len];omega)
 rw [gapRow_at _ _ _ (by omega)] at y4
 have lv:=hA.len
 rw [gapRow_len] at lv
 have ka:∀ t,okA (.val va t)=.val va t:=fun t=>okA_ne hA.ne
 have kb:∀ t,okA (.val vb t)=.val vb t:=fun t=>okA_ne hB.ne
 have ad:∀ s,aAdd s .i64 (i:Int) 1=.val (.int .i64 ((i:Int)+1)) s:=fun s=>aAdd_i64 s _ _ (by omega)
 have knW:∀ args s,awm N (.fn 15) args s=call Try.prog X N (.fn 15) args s:=fun _ _=>rfl
 have d2:decide (lb[i].1≤la[i].1∧la[i].2≤lb[i].2)=true:=decide_eq_true fit
 simp (disch:=first|omega|(with_unfolding_all exact rfl)|(simp only[new_n,put_n,new_m];omega)|(refine put_m_le ?_;simp only[new_m];omega)) only [res5,K5r0,K5r1,K5r2,K5r3,K5r4,K5r5,K5r6,K5r7,K5r8,K5r9,K5r10,K5r11,K5r12,K5r13,K5r14,K5r15,K5r16,K5r17,K5r18,K5r19,K5r20s29,K5r20s26,K5r20s25,K5r20s24,K5r20s21,K5r20s20,K5r20s19,K5r20s16,K5r20s15,K5r20s14,K5r20s13,K5r20s12,K5r20s11,K5r20s10,K5r20s7,K5r20s6,K5r20s5,K5r20,K5r21s44,K5r21s43,K5r21s42,K5r21s41,K5r21s40,K5r21s39,K5r21s38,K5r21s35,K5r21s34,K5r21s33,K5r21s32,K5r21s31,K5r21s28,K5r21s27,K5r21s26,K5r21s25,K5r21s24,K5r21s21,K5r21s20,K5r21s17,K5r21s16,K5r21s13,K5r21s12,K5r21s9,K5r21s8,K5r21s5,K5r21s4,K5r21,K5r22,K5r23,K5r24,K5r25,K5r26,K5r27,K5r28,K5r29,K5r30,K5r31,K5r32,K5r33,K5,K5l2,Abs.W,reduceIte,Nat.reduceEqDiff,Nat.reduceAdd,decide_true,decide_false,kLoop_def,Nat.reduceSub,List.cons_append,List.nil_append,List.append_nil,List.length_cons,List.length_nil,Env.find_set,Nat.zero_add,Nat.add_zero,qa,qb,qi,ka,kb,lv,e0,r2,r3,r4,y2,y3,y4,knW,inside_ok,d2,ad]
 refine ⟨_,rfl,fun c h h2=>?_,by simp only [Env.find_set,reduceIte,Nat.reduceEqDiff];rfl⟩
 simp only [Env.find_set]
 rw [if_neg (by omega),if_neg (by omega),if_neg (by omega)]
theorem in_loop2 (N:Nat) (hN:1≤N) (cx:Ctx) {la lb:List Gap} {va vb:AV} {t:St} {L:Env} {r:R} (hr:loopN K5l2 rounds (awm N) cx L [] t=r) (hA:RowsAt t.h t.n 2 (gapRow la) va) (hB:RowsAt t.h t.n 2 (gapRow lb) vb) (hab:la.length=lb.length) (hl:la.length≤100) (hs:t.n+1000≤far)
  (fit:∀ i (h:i<la.length) (h':i<lb.length),lb[i].1≤la[i].1∧la[i].2≤lb[i].2) (qa:L.find 19=va) (qb:L.find 21=vb) (qi:L.find 28=.int .i64 (0:Nat)) :
  ∃ L1,r=.done (.exit 4) L1 [] t∧∀ c,c<27→c≠2→L1.find c=L.find c:=by
 have lv:=hA.len
 rw [gapRow_len] at lv
 have ka:∀ t,okA (.val va t)=.val va t:=fun t=>okA_ne hA.ne
 obtain ⟨e,L1,s1,rfl,rfl,rfl,hq⟩:=loop_of hr (fun i L' t'=>t'=t∧(∀ c,c<27→c≠2→L'.find c=L.find c)∧L'.find 28=.int .i64 i) (fun e L' t'=>e=.exit 4∧t'=t∧∀ c,c<27→c≠2→L'.find c=L.find c) la.length (by unfold rounds;omega) ⟨rfl,fun _ _ _=>rfl,qi⟩
  (fun i L' t' hi ⟨ht,g,gi⟩=>by
   subst ht
   by_cases hlt:i<la.length
   ·obtain ⟨L2,p1,p2,p3⟩:=in_round2 N hN cx hA hB hlt hab hl hs (fit i hlt (by omega)) ((g 19 (by omega) (by omega)).trans qa) ((g 21 (by omega) (by omega)).trans qb) gi
    exact .inl ⟨hlt,L2,_,p1,rfl,fun c h h2=>(p2 c h h2).trans (g c h h2),p3⟩
   ·obtain rfl:i=la.length:=by omega
    have e1:decide ((la.length:Int)<(la.length:Int))=false:=by simp
    have za:=(g 19 (by omega) (by omega)).trans qa
    refine .inr ⟨.exit 4,L'.set 208 (.bool false),_,by simp,?_,rfl,rfl,fun c h h2=>?_⟩
    ·simp (disch:=first|omega|(with_unfolding_all exact rfl)|(simp only[new_n,put_n,new_m];omega)|(refine put_m_le ?_;simp only[new_m];omega)) only [res5,K5r0,K5r1,K5r2,K5r3,K5r4,K5r5,K5r6,K5r7,K5r8,K5r9,K5r10,K5r11,K5r12,K5r13,K5r14,K5r15,K5r16,K5r17,K5r18,K5r19,K5r20s29,K5r20s26,K5r20s25,K5r20s24,K5r20s21,K5r20s20,K5r20s19,K5r20s16,K5r20s15,K5r20s14,K5r20s13,K5r20s12,K5r20s11,K5r20s10,K5r20s7,K5r20s6,K5r20s5,K5r20,K5r21s44,K5r21s43,K5r21s42,K5r21s41,K5r21s40,K5r21s39,K5r21s38,K5r21s35,K5r21s34,K5r21s33,K5r21s32,K5r21s31,K5r21s28,K5r21s27,K5r21s26,K5r21s25,K5r21s24,K5r21s21,K5r21s20,K5r21s17,K5r21s16,K5r21s13,K5r21s12,K5r21s9,K5r21s8,K5r21s5,K5r21s4,K5r21,K5r22,K5r23,K5r24,K5r25,K5r26,K5r27,K5r28,K5r29,K5r30,K5r31,K5r32,K5r33,K5,K5l2,Abs.W,reduceIte,Nat.reduceEqDiff,Nat.reduceAdd,decide_true,decide_false,kLoop_def,Nat.reduceSub,List.cons_append,List.nil_append,List.append_nil,List.length_cons,List.length_nil,Env.find_set,za,gi,ka,lv,e1,Nat.zero_add]
    ·simp only [Env.find_set]
     rw [if_neg (by omega)]
     exact g c h h2)
 exact ⟨L1,rfl,hq⟩
end Go.Proofs.Ytfekafjfidohdaa.walk
