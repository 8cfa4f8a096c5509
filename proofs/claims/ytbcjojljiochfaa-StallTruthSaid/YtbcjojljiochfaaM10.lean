/- Other wishes are told, one after another. -/
import Derived.Test.YtbcjojljiochfaaM5
import Derived.Test.YtbcjojljiochfaaM6
import Derived.Test.YtbcjojljiochfaaM9
import Derived.Test.YtbcjojljiochfaaWalkAll
set_option linter.unusedSimpArgs false
set_option maxHeartbeats 16000000
set_option linter.unusedVariables false
set_option maxRecDepth 10000
namespace Go.Proofs.Ytbcjojljiochfaa.walk
open Go.Abs Go.Proofs.Ytbcjojljiochfaa.code
theorem nth_set_eq {l:List AV} {i:Nat} (x:AV) (h:i<l.length):nth (l.set i x) i=x:=by
 rw [nth_get (by rw [List.length_set];exact h),List.getElem_set_self]
theorem nth_set_ne {l:List AV} {i j:Nat} (x:AV) (h:j≠i) (hi:i<l.length):nth (l.set j x) i=nth l i:=by
 rw [nth_get (by rw [List.length_set];exact hi),List.getElem_set_ne h,nth_get hi]
theorem isAt_apart {h:Heap} {n b w tg c o:Nat} {rows:List (List AV)} {v:AV} (r:IsAt h n b w tg rows v) (hc:b≠c):apartA v (.ptr c o)=true:=by
 rcases r.is with ⟨_,rfl⟩ | ⟨_,_,rfl,_⟩
 ·rfl
 ·exact apart_slice hc
theorem picks_snoc (l:List Int) (g:List Nat) (k:Nat):picks l (g++[k])=picks l g++[l.getD k 0]:=by unfold picks;rw [List.map_append];rfl
theorem intRows_snoc' (l:List Int) (x:Int):intRows (l++[x])=intRows l++[[.int .i64 x]]:=by unfold intRows;rw [List.map_append];rfl
structure TellJ (w t:St) (bA wo:Nat) (F:List AV) (sz:Nat) (wl bl:List Int) (g:List Nat) (k kk u0:Nat):Prop where
 q:∃ vw vb bw bb,t.h.get bA=some (.cells ((F.set (wo+2) vw).set (wo+3) vb) sz)∧IsAt t.h t.n bw 1 (tag 3) (intRows (picks wl (g.take k))) vw∧IsAt t.h t.n bb 1 (tag 3) (intRows (picks bl (g.take k))) vb∧w.n≤bw∧w.n≤bb∧bw≠bb∧(bw<t.n∨far<bw)∧(bb<t.n∨far<bb)
 same:∀ c,c<w.n→c≠bA→t.h.get c=w.h.get c
 n:w.n≤t.n
 le:t.n≤w.n+kk
 m:u0≤t.m
 ml:t.m≤far
theorem tell_round {cl:CallF} (cx:Ctx) {w t:St} {bA wo p8 bM pM bG pG bW bB sz z8 zM zG k kk u0:Nat} {F cM cG:List AV} {wl bl:List Int} {g:List Nat} {a1 a2 ow ob vM vG:AV} {rd:Nat→Prop} {j:Nat} {L:Env}
  (J:TellJ w t bA wo F sz wl bl g k kk u0) (hF:wo+4≤F.length) (hbA:bA<w.n) (hu:u0≤bA∧u0≤w.n)
  (g8:w.h.get p8=some (.cells [a1,a2,ow,ob] z8)) (hW:Sl rd w.h w.n 1 (intRows wl) ow) (hB:Sl rd w.h w.n 1 (intRows bl) ob) (hrd:¬ rd bA) (h8:p8<w.n∧p8≠bA) (hbl:bl.length=wl.length)
  (kM:∀ t,okA (.val vM t)=.val vM t) (ixM:∀ s,ixsA 1 s vM (.int .i64 (j:Int))=.val (.ptr bM pM) s) (gM:w.h.get bM=some (.cells cM zM)) (nM:nth cM pM=vG) (hM:bM<w.n∧bM≠bA) (hG:Sl (fun x=>x≠bM∧x≠bA) w.h w.n 1 (natRows g) vG)
  (hk:k<g.length) (hg:∀ x ∈ g,x<wl.length) (hgl:g.length≤8) (hs:w.n+kk+100≤far)
  (f8:L.find 8=.ptr p8 0) (f9:L.find 9=vM) (f10:L.find 10=.int .i64 (j:Int)) (f12:L.find 12=.ptr bA wo) (f13:L.find 13=.int .i64 (k:Int)) :
  ∃ L1 t1,K6l0 cl cx L [] t=.done .norm L1 [] t1∧TellJ w t1 bA wo F sz wl bl g (k+1) (kk+4) u0∧L1.find 13=.int .i64 (k+1:Nat)∧∀ c,c<13→L1.find c=L.find c:=by
 have hf:far=1000000000:=rfl
 obtain ⟨⟨vw,vb,bw,bb,gA,iw,ib,hw1,hb1,hne,hlw',hlb'⟩,same,jn,jle,jm,jml⟩:=J
 have t8:=(same p8 h8.1 h8.2).trans g8
 have tM:=(same bM hM.1 hM.2).trans gM
 have hWt:=hW.move (h':=t.h) (n':=w.n) (fun b hb h=>⟨same b hb (fun e=>hrd (e▸h)),h⟩) (Nat.le_refl _)
 have hBt:=hB.move (h':=t.h) (n':=w.n) (fun b hb h=>⟨same b hb (fun e=>hrd (e▸h)),h⟩) (Nat.le_refl _)
 have hGt:=hG.move (h':=t.h) (n':=w.n) (fun b hb h=>⟨same b hb h.2,h⟩) (Nat.le_refl _)
 have kG:=hGt.okA
 have lG:=natLen hGt.at_
 obtain ⟨bG,pG,cG,zG,hbG,r2,r3,r4⟩:=natRow hGt.at_ hk
 have hx:g[k]<wl.length:=hg _ (List.getElem_mem hk)
 obtain ⟨bW,pW,cW,zW,x1,x2,x3,x4⟩:=rowInt hWt.at_ hx
 obtain ⟨bB,pB,cB,zB,y1,y2,y3,y4⟩:=rowInt hBt.at_ (show g[k]<bl.length by omega)
 have kow:=hWt.okA
 have kob:=hBt.okA
 have e0:decide ((k:Int)<(g.length:Int))=true:=decide_eq_true (by omega)
 have ad:∀ s,aAdd s .i64 (k:Int) 1=.val (.int .i64 ((k:Int)+1)) s:=fun s=>aAdd_i64 s _ _ (by omega)
 have kw:=iw.okA
 have kb:=ib.okA
 have fl:((F.set (wo+2) vw).set (wo+3) vb).length=F.length:=by rw [List.length_set,List.length_set]
 have c2:nth ((F.set (wo+2) vw).set (wo+3) vb) (wo+2)=vw:=by rw [nth_set_ne _ (by omega) (by rw [List.length_set];omega),nth_set_eq _ (by omega)]
 have c3:nth ((F.set (wo+2) vw).set (wo+3) vb) (wo+3)=vb:=nth_set_eq _ (by rw [List.length_set];omega)
 have hlw:(picks wl (g.take k)).length=k:=by unfold picks;rw [List.length_map,List.length_take];omega
 have hlb:(picks bl (g.take k)).length=k:=by unfold picks;rw [List.length_map,List.length_take];omega
 obtain ⟨a,ha⟩:∃ a:St,a=t.new (.cells [.int .i64 wl[g[k]]] 0):=⟨_,rfl⟩
 have an:a.n=t.n+1:=by rw [ha];rfl
 have am:a.m=t.m:=by rw [ha];rfl
 have ag:∀ c,c<t.n→a.h.get c=t.h.get c:=fun c hc=>by rw [ha,get_new_ne _ _ _ (by omega)]
 have ap:a.h.get t.n=some (.cells [.int .i64 wl[g[k]]] 0):=by rw [ha];exact get_new_eq _ _ _ rfl (by omega)
 obtain ⟨s7,e7,l7,n7,g7,m7,m7'⟩:=append_at (bytes:=8) (iw.mono (h':=a.h) (n':=a.n) (fun h=>ag bw h) (by omega)) ap rfl rfl (by rw [intRows_len,hlw];omega) (by kernel_rfl) (by omega)
 rw [intRows_len,hlw] at e7 l7
 rw [← intRows_snoc'] at l7
 obtain ⟨v7,hv7⟩:∃ v7,v7=AV.slice a.n 0 (k+1) (k+1) true:=⟨_,rfl⟩
 rw [← hv7] at e7 l7
 obtain ⟨b,hb⟩:∃ b:St,b=s7.new (.cells [.int .i64 bl[g[k]]] 0):=⟨_,rfl⟩
 have bn:b.n=s7.n+1:=by rw [hb];rfl
 have bm:b.m=s7.m:=by rw [hb];rfl
 have bg:∀ c,c<s7.n→b.h.get c=s7.h.get c:=fun c hc=>by rw [hb,get_new_ne _ _ _ (by omega)]
 have bp:b.h.get s7.n=some (.cells [.int .i64 bl[g[k]]] 0):=by rw [hb];exact get_new_eq _ _ _ rfl (by omega)
 obtain ⟨s8,e8,l8,n8,g8',m8,m8'⟩:=append_at (bytes:=8) (ib.mono (h':=b.h) (n':=b.n) (fun h=>(bg bb (by omega)).trans ((g7 bb (by omega) (Ne.symm hne)).trans (ag bb h))) (by omega)) bp rfl rfl (by rw [intRows_len,hlb];omega) (by kernel_rfl) (by omega)
 rw [intRows_len,hlb] at e8 l8
 rw [← intRows_snoc'] at l8
 obtain ⟨v8,hv8⟩:∃ v8,v8=AV.slice b.n 0 (k+1) (k+1) true:=⟨_,rfl⟩
 rw [← hv8] at e8 l8
 have s7t:∀ c,c<w.n→s7.h.get c=t.h.get c:=fun c hc=>(g7 c (by omega) (by omega)).trans (ag c (by omega))
 have s8t:∀ c,c<w.n→s8.h.get c=t.h.get c:=fun c hc=>(g8' c (by omega) (by omega)).trans ((bg c (by omega)).trans (s7t c hc))
 have hbW:bW<w.n:=x1
 have hbB:bB<w.n:=y1
 have A7:=(s7t bA hbA).trans gA
 have A8:=(s8t bA hbA).trans gA
 have p7:=(s7t p8 h8.1).trans t8
 have M7:=(s7t bM hM.1).trans tM
 have G7:=(s7t bG hbG).trans r3
 have B7:=(s7t bB hbB).trans y3
 have sc7:scalars [v7]=true:=by rw [hv7];rfl
 have cc7:cellsOf 1 v7=some [v7]:=by rw [hv7];rfl
 have sc8:scalars [v8]=true:=by rw [hv8];rfl
 have cc8:cellsOf 1 v8=some [v8]:=by rw [hv8];rfl
 have ov1:=over_cell (c:=(F.set (wo+2) vw).set (wo+3) vb) (i:=wo+2) v7 (by omega)
 have ov2:=over_cell (c:=((F.set (wo+2) vw).set (wo+3) vb).set (wo+2) v7) (i:=wo+3) v8 (by rw [List.length_set];omega)
 have ec:(((F.set (wo+2) vw).set (wo+3) vb).set (wo+2) v7).set (wo+3) v8=(F.set (wo+2) v7).set (wo+3) v8:=by
  rw [List.set_comm _ _ (show wo+3≠wo+2 by omega),List.set_set,List.set_set]
 rw [ec] at ov2
 rw [ha] at e7
 rw [hb] at e8
 simp (disch:=first|omega|(with_unfolding_all exact rfl)|(simp only[new_n,put_n,new_m];omega)|(refine put_m_le ?_;simp only[new_m];omega)) only [K6l0,K6r17,K6r18,K6r19,Abs.W,reduceIte,Nat.reduceEqDiff,Nat.reduceAdd,decide_true,decide_false,kLoop_def,Nat.reduceSub,List.cons_append,List.nil_append,List.append_nil,List.length_cons,List.length_nil,Env.find_set,f8,f9,f10,f12,f13,kM,ixM,tM,nM,kG,lG,e0,gA,c2,c3,kw,kb,t8,kow,kob,r2,r3,r4,x2,x3,x4,y2,y3,y4,e7,e8,A7,A8,p7,M7,G7,B7,sc7,cc7,sc8,cc8,ov1,ov2,ad,Nat.zero_add]
 rw [endO_ok _ (by
  rw [endOk_cons,endOk_cons,endOk_cons,endOk_cons,endOk_cons,endOk_nil]
  all_goals
   simp only [find_cons,Env.find_set,reduceIte,Nat.reduceEqDiff]
   exact isAt_apart iw (by omega))]
 simp (disch:=first|omega|(with_unfolding_all exact rfl)|(simp only[new_n,put_n,new_m];omega)|(refine put_m_le ?_;simp only[new_m];omega)) only [Abs.W,reduceIte,Nat.reduceEqDiff,Nat.reduceAdd,decide_true,decide_false,kLoop_def,Nat.reduceSub,List.cons_append,List.nil_append,List.append_nil,List.length_cons,List.length_nil,Env.find_set,f13,ad]
 generalize hsf:St.put (St.put s8 _ _) _ _=sf
 have sfn:sf.n=s8.n:=by rw [← hsf];rfl
 have sfm:sf.m=min s8.m bA:=by rw [← hsf];simp only [St.put,minN_eq];omega
 have sfg:∀ c,c≠bA→sf.h.get c=s8.h.get c:=fun c hc=>by rw [← hsf,get_put_ne' _ _ _ _ hc,get_put_ne' _ _ _ _ hc]
 have sfA:sf.h.get bA=some (.cells ((F.set (wo+2) v7).set (wo+3) v8) sz):=by rw [← hsf];exact get_put_eq _ _ _ _ rfl (by omega)
 have etk:g.take (k+1)=g.take k++[g[k]]:=take_snoc hk
 have ew:picks wl (g.take (k+1))=picks wl (g.take k)++[wl[g[k]]]:=by rw [etk,picks_snoc];simp [List.getD,hx]
 have eb:picks bl (g.take (k+1))=picks bl (g.take k)++[bl[g[k]]]:=by rw [etk,picks_snoc];simp [List.getD,show g[k]<bl.length by omega]
 refine ⟨_,sf,rfl,⟨⟨v7,v8,a.n,b.n,sfA,?_,?_,by omega,by omega,by omega,.inl (by omega),.inl (by omega)⟩,fun c h1 h2=>(sfg c h2).trans ((s8t c h1).trans (same c h1 h2)),by omega,by omega,?_,by omega⟩,?_,fun c hc=>?_⟩
 ·rw [ew]
  exact l7.mono (fun h=>(sfg a.n (by omega)).trans ((g8' a.n (by omega) (by omega)).trans (bg a.n (by omega)))) (by omega)
 ·rw [eb]
  exact l8.mono (fun h=>sfg b.n (by omega)) (by omega)
 ·have q1:=m7 u0 (by omega) (by omega) (by omega)
  have q2:=m8 u0 (by omega) (by omega) (by omega)
  omega
 ·simp only [Env.find_set,reduceIte,Nat.reduceEqDiff];rfl
 ·simp only [Env.find_set]
  repeat rw [if_neg (by omega)]
end Go.Proofs.Ytbcjojljiochfaa.walk
set_option maxRecDepth 10000
namespace Go.Abs
theorem loop_dinv {body:K} {cl:CallF} {cx:Ctx} (I:Nat→Env→List Nat→St→Prop) (Q:Ex→Env→List Nat→St→Prop) (k:Nat)
  (step:∀ i L d s,i≤k→I i L d s→(i<k∧∃ L1 d1 s1,body cl cx L d s=.done .norm L1 d1 s1∧I (i+1) L1 d1 s1)∨(∃ e L1 d1 s1,e≠.norm∧body cl cx L d s=.done e L1 d1 s1∧Q e L1 d1 s1)) :
  ∀ (m i fuel:Nat) (L:Env) (d:List Nat) (s:St),i+m=k→m<fuel→I i L d s→∃ e L1 d1 s1,loopN body fuel cl cx L d s=.done e L1 d1 s1∧Q e L1 d1 s1
 | m,i,0,_,_,_,_,hf,_=>by omega
 | m,i,fuel+1,L,d,s,hm,hf,hI=>by
  rcases step i L d s (by omega) hI with ⟨hi,L1,d1,s1,h1,h2⟩ | ⟨e,L1,d1,s1,he,h1,h2⟩
  ·obtain ⟨m',rfl⟩:∃ m',m=m'+1:=⟨m - 1,by omega⟩
   obtain ⟨e,L2,d2,s2,h3,h4⟩:=loop_dinv I Q k step m' (i+1) fuel L1 d1 s1 (by omega) (by omega) h2
   exact ⟨e,L2,d2,s2,by rw [loopN_succ,h1];exact h3,h4⟩
  ·refine ⟨e,L1,d1,s1,?_,h2⟩
   rw [loopN_succ,h1]
   cases e<;>first | rfl | exact absurd rfl he
theorem loop_d {body:K} {cl:CallF} {cx:Ctx} {L:Env} {d:List Nat} {s:St} {r:R} (hr:loopN body rounds cl cx L d s=r) (I:Nat→Env→List Nat→St→Prop) (Q:Ex→Env→List Nat→St→Prop) (k:Nat) (hk:k<rounds) (h0:I 0 L d s)
  (step:∀ i L d s,i≤k→I i L d s→(i<k∧∃ L1 d1 s1,body cl cx L d s=.done .norm L1 d1 s1∧I (i+1) L1 d1 s1)∨(∃ e L1 d1 s1,e≠.norm∧body cl cx L d s=.done e L1 d1 s1∧Q e L1 d1 s1)) :
  ∃ e L1 d1 s1,r=.done e L1 d1 s1∧Q e L1 d1 s1:=by
 obtain ⟨e,L1,d1,s1,h1,h2⟩:=loop_dinv I Q k step k 0 rounds L d s (by omega) hk h0
 exact ⟨e,L1,d1,s1,hr.symm.trans h1,h2⟩
theorem take_dfrs:∀ {d:List Nat} {s:St},d.Nodup→(∀ c ∈ d,s.h.get c=some .dfr)→∃ s',takeDfs s d=some s'∧(∀ c,c ∉ d→s'.h.get c=s.h.get c)∧s'.n=s.n∧(∀ u,u≤s.m→(∀ c ∈ d,u≤c)→u≤s'.m)∧s'.m≤s.m
 | [],s,_,_=>⟨s,rfl,fun _ _=>rfl,rfl,fun _ h _=>h,Nat.le_refl _⟩
 | b::d,s,hd,h=>by
  obtain ⟨h1,h2⟩:=List.nodup_cons.mp hd
  have hb:=h b (List.mem_cons_self ..)
  obtain ⟨s',e,a1,a2,a3,a4⟩:=take_dfrs (d:=d) (s:=s.kill b) h2 (fun c hc=>by
   rw [get_kill_ne _ _ _ (show c≠b from fun e=>h1 (by rw [← e];exact hc))]
   exact h c (List.mem_cons_of_mem _ hc))
  have km:(s.kill b).m=min s.m b:=by simp only [St.kill,minN_eq]
  refine ⟨s',?_,fun c hc=>?_,a2,fun u hu hc=>a3 u ?_ (fun c h=>hc c (List.mem_cons_of_mem _ h)),?_⟩
  ·show (match s.h.get b with | some .dfr=>takeDfs (s.kill b) d | _=>none)=_
   rw [hb];exact e
  ·rw [a1 c (fun h=>hc (List.mem_cons_of_mem _ h)),get_kill_ne _ _ _ (fun e=>hc (by rw [e];exact List.mem_cons_self ..))]
  ·rw [km]
   have:=hc b (List.mem_cons_self ..)
   omega
  ·rw [km] at a4;omega
theorem leave_dfrs {P:Program} {rs:List ResultVar} {d:List Nat} {L:Env} {s s':St} (h:takeDfs s d=some s'):leaveA P rs L d s=leaveA P rs L [] s':=by
 unfold leaveA
 rw [h]
 rfl
end Go.Abs
namespace Go.Proofs.Ytbcjojljiochfaa.walk
open Go.Abs Go.Proofs.Ytbcjojljiochfaa.code
theorem repA_hcell (k:Nat):repA k k=hcell (List.replicate k (-1)):=by
 unfold repA hcell intRows
 rw [Nat.sub_self,List.replicate_zero,List.append_nil,List.map_replicate]
 induction k with
 | zero=>rfl
 | succ k ih=>rw [List.replicate_succ,List.replicate_succ,List.flatten_cons,← ih];rfl
theorem holdF_none (k:Nat):holdF (List.replicate k (-1))=fun _ => -1:=by
 funext s
 unfold holdF
 by_cases h:s<k
 ·simp [List.getD,h]
 ·simp [List.getD,h]
theorem Let_ex {N:Nat} {no na:Nat→Prop} {l:Letting} {vS vA:AV} {s:St} {r:ARes} (hr:call Try.prog X N (.fn 18) [.agg (letV vS vA)] s=r) (hN:16≤N) (ok:l.Ok) (hL:LetAt no na s.h s.n l vS vA) (hs:s.n+4000000≤far) :
  ∃ v t hs,r=.val (.tup [v,.int .i64 0]) t∧New s t 2200000∧Sl (fun x=>s.n≤x) t.h t.n 1 (intRows hs) v∧hs.length=l.stalls.length∧(mktOf l).Inv (holdF hs) []:=by
 obtain ⟨M,rfl⟩:∃ M,N=M+5:=⟨N - 5,by omega⟩
 have hf:far=1000000000:=rfl
 obtain ⟨v,t,e,st,v',hs,rfl,hq⟩:=call_new (n:=M+4) (args:=[.agg (letV vS vA)]) (s:=s) (k:=2200000) (Q:=fun v h n=>∃ v' hs,v=.tup [v',.int .i64 0]∧Sl (fun x=>s.n≤x) h n 1 (intRows hs) v'∧hs.length=l.stalls.length∧(mktOf l).Inv (holdF hs) []) Try.func18 rfl (fun u uh un um=>by
  rw [← uh,← un] at hL
  rw [← un]
  have k0:=ok.k0
  have k1:=ok.k1
  have m1:=ok.m1
  have kA:=hL.okV
  have kS:=hL.okS
  have lS:=hL.lenS
  have z0:decide ((0:Int)=0)=true:=rfl
  obtain ⟨w0,hw0⟩:∃ w:St,w=u.new (.cells [vS,vA] (tag 28)):=⟨_,rfl⟩
  have w0n:w0.n=u.n+1:=by rw [hw0];rfl
  have w0m:w0.m=far:=by rw [hw0];exact um
  have w0g:∀ c,c<u.n→w0.h.get c=u.h.get c:=fun c hc=>by rw [hw0,get_new_ne _ _ _ (by omega)]
  have w00:w0.h.get u.n=some (.cells [vS,vA] (tag 28)):=by rw [hw0];exact get_new_eq _ _ _ rfl (by omega)
  have hM:=hL.grow w0g (by omega:u.n≤w0.n)
  have c1:=check_ok (M+4) (by omega) l ok vS vA w0 hM (by omega)
  rw [enter18]
  simp (disch:=first|omega|(with_unfolding_all exact rfl)|(simp only[new_n,put_n,new_m];omega)|(refine put_m_le ?_;simp only[new_m];omega)) only [K18,K18r0,Abs.W,reduceIte,Nat.reduceEqDiff,Nat.reduceAdd,decide_true,decide_false,kLoop_def,Nat.reduceSub,List.cons_append,List.nil_append,List.append_nil,List.length_cons,List.length_nil]
  rw [← hw0]
  simp (disch:=first|omega|(with_unfolding_all exact rfl)|(simp only[new_n,put_n,new_m];omega)|(refine put_m_le ?_;simp only[new_m];omega)) only [K18r1,K18r2,K18r4,Abs.W,reduceIte,Nat.reduceEqDiff,Nat.reduceAdd,decide_true,decide_false,kLoop_def,Nat.reduceSub,List.cons_append,List.nil_append,List.append_nil,List.length_cons,List.length_nil,Env.find_set,w00,c1,z0,kA,kS,Nat.zero_add]
  generalize hc:call _ _ _ (.fn 39) _ _=rc
  obtain ⟨vr,t1,bm,rfl,s1,hR,hbm⟩:=rank_ex hc (by omega) ok hM (by omega)
  have s1n:=s1.n
  have s1l:=s1.le
  have s1m:=s1.m
  obtain ⟨hv,hbm2⟩:=hR.slice (by omega)
  subst hv
  have t1g:∀ c,c<u.n→t1.h.get c=u.h.get c:=fun c hc=>(s1.same c (by omega)).trans (w0g c hc)
  have t10:=(s1.same u.n (by omega)).trans w00
  simp (disch:=first|omega|(with_unfolding_all exact rfl)|(simp only[new_n,put_n,new_m];omega)|(refine put_m_le ?_;simp only[new_m];omega)) only [Abs.W,reduceIte,Nat.reduceEqDiff,Nat.reduceAdd,decide_true,decide_false,kLoop_def,Nat.reduceSub,List.cons_append,List.nil_append,List.append_nil,List.length_cons,List.length_nil,Env.find_set,Nat.zero_add]
  generalize hy:St.put _ _ _=y
  have yn:y.n=t1.n+1:=by rw [← hy,put_n,new_n]
  have yg:∀ c,c<t1.n→y.h.get c=t1.h.get c:=fun c hc=>by rw [← hy,get_put_ne' _ _ _ _ (by omega),get_new_ne _ _ _ (by omega)]
  have yp:∃ z5,y.h.get t1.n=some (.cells [.slice bm 0 l.stalls.length l.stalls.length true] z5):=⟨_,by rw [← hy];exact get_put_eq _ _ _ _ rfl (by omega)⟩
  have ym:y.m=min t1.m t1.n:=by rw [← hy];simp only [St.put,minN_eq,new_m]
  obtain ⟨z5,yp⟩:=yp
  have y0:=(yg u.n (by omega)).trans t10
  obtain ⟨x,hx⟩:∃ x:St,x=y.new (.cells [.int .i64 (-1)] 0):=⟨_,rfl⟩
  have xn:x.n=y.n+1:=by rw [hx];rfl
  have xm:x.m=y.m:=by rw [hx];rfl
  have xg:∀ c,c<y.n→x.h.get c=y.h.get c:=fun c hc=>by rw [hx,get_new_ne _ _ _ (by omega)]
  have xp:x.h.get y.n=some (.cells [.int .i64 (-1)] 0):=by rw [hx];exact get_new_eq _ _ _ rfl (by omega)
  have x0:=(xg u.n (by omega)).trans y0
  simp (disch:=first|omega|(with_unfolding_all exact rfl)|(simp only[new_n,put_n,new_m];omega)|(refine put_m_le ?_;simp only[new_m];omega)) only [K18r5,Abs.W,reduceIte,Nat.reduceEqDiff,Nat.reduceAdd,decide_true,decide_false,kLoop_def,Nat.reduceSub,List.cons_append,List.nil_append,List.append_nil,List.length_cons,List.length_nil,Env.find_set,Nat.zero_add]
  rw [← hx]
  simp (disch:=first|omega|(with_unfolding_all exact rfl)|(simp only[new_n,put_n,new_m];omega)|(refine put_m_le ?_;simp only[new_m];omega)) only [Abs.W,reduceIte,Nat.reduceEqDiff,Nat.reduceAdd,decide_true,decide_false,kLoop_def,Nat.reduceSub,List.cons_append,List.nil_append,List.append_nil,List.length_cons,List.length_nil,Env.find_set,x0,y0,kS,lS,Nat.zero_add]
  generalize hc2:call _ _ _ (.fn 40) _ _=rc
  obtain ⟨t2,rfl,s2,t2n,t2g⟩:=repeat_ex hc2 (by omega) k0 k1 xp (by omega) (by omega)
  have s2m:=s2.m
  simp (disch:=first|omega|(with_unfolding_all exact rfl)|(simp only[new_n,put_n,new_m];omega)|(refine put_m_le ?_;simp only[new_m];omega)) only [Abs.W,reduceIte,Nat.reduceEqDiff,Nat.reduceAdd,decide_true,decide_false,kLoop_def,Nat.reduceSub,List.cons_append,List.nil_append,List.append_nil,List.length_cons,List.length_nil,Env.find_set,Nat.zero_add]
  generalize hy3:St.put _ _ _=y3
  have y3n:y3.n=t2.n+1:=by rw [← hy3,put_n,new_n]
  have y3g:∀ c,c<t2.n→y3.h.get c=t2.h.get c:=fun c hc=>by rw [← hy3,get_put_ne' _ _ _ _ (by omega),get_new_ne _ _ _ (by omega)]
  have y3p:∃ z6,y3.h.get t2.n=some (.cells [.slice x.n 0 l.stalls.length l.stalls.length false] z6):=⟨_,by rw [← hy3];exact get_put_eq _ _ _ _ rfl (by omega)⟩
  have y3m:y3.m=min t2.m t2.n:=by rw [← hy3];simp only [St.put,minN_eq,new_m]
  obtain ⟨z6,y3p⟩:=y3p
  have b3:∀ c,c<x.n→y3.h.get c=x.h.get c:=fun c hc=>(y3g c (by omega)).trans (s2.same c hc)
  have y30:=(b3 u.n (by omega)).trans x0
  have hL3:=hL.grow (h':=y3.h) (n':=y3.n) (fun c hc=>(b3 c (by omega)).trans ((xg c (by omega)).trans ((yg c (by omega)).trans (t1g c hc)))) (by omega)
  simp (disch:=first|omega|(with_unfolding_all exact rfl)|(simp only[new_n,put_n,new_m];omega)|(refine put_m_le ?_;simp only[new_m];omega)) only [K18r6,Abs.W,reduceIte,Nat.reduceEqDiff,Nat.reduceAdd,decide_true,decide_false,kLoop_def,Nat.reduceSub,List.cons_append,List.nil_append,List.append_nil,List.length_cons,List.length_nil,Env.find_set,y30,kS,kA,Nat.zero_add]
  generalize hc3:call _ _ _ (.fn 41) _ _=rc
  obtain ⟨t3,rfl,s3,t3n,t3g⟩:=everybody_ex hc3 (by omega) ok hL3 (by omega)
  have s3m:=s3.m
  simp (disch:=first|omega|(with_unfolding_all exact rfl)|(simp only[new_n,put_n,new_m];omega)|(refine put_m_le ?_;simp only[new_m];omega)) only [Abs.W,reduceIte,Nat.reduceEqDiff,Nat.reduceAdd,decide_true,decide_false,kLoop_def,Nat.reduceSub,List.cons_append,List.nil_append,List.append_nil,List.length_cons,List.length_nil,Env.find_set,Nat.zero_add]
  generalize hw:St.put _ _ _=w
  have wn:w.n=t3.n+1:=by rw [← hw,put_n,new_n]
  have wg:∀ c,c<t3.n→w.h.get c=t3.h.get c:=fun c hc=>by rw [← hw,get_put_ne' _ _ _ _ (by omega),get_new_ne _ _ _ (by omega)]
  have wp:∃ z7,w.h.get t3.n=some (.cells [.slice (y3.n+1) 0 l.appls.length l.appls.length false] z7):=⟨_,by rw [← hw];exact get_put_eq _ _ _ _ rfl (by omega)⟩
  have wm:w.m=min t3.m t3.n:=by rw [← hw];simp only [St.put,minN_eq,new_m]
  obtain ⟨z7,wp⟩:=wp
  have b2:∀ c,c<y3.n→w.h.get c=y3.h.get c:=fun c hc=>(wg c (by omega)).trans (s3.same c hc)
  have b1:∀ c,c<x.n→w.h.get c=x.h.get c:=fun c hc=>(b2 c (by omega)).trans (b3 c hc)
  have b0:∀ c,c<t1.n→w.h.get c=t1.h.get c:=fun c hc=>(b1 c (by omega)).trans ((xg c (by omega)).trans (yg c hc))
  have hB:OfferB (fun y=>no y∧y<u.n) (fun y=>na y∧y<u.n) w u.n t1.n bm t1.n x.n t2.n (y3.n+1) t3.n z5 z6 l vS vA (.slice bm 0 l.stalls.length l.stalls.length true) :=
   ⟨(b0 u.n (by omega)).trans t10,hL.bound.move (fun b h1 h2=>⟨(b0 b (by omega)).trans (t1g b h1),h2⟩) (fun b h1 h2=>⟨(b0 b (by omega)).trans (t1g b h1),h2⟩) (Nat.le_refl _),(b1 t1.n (by omega)).trans ((xg t1.n (by omega)).trans yp),(hR.move (fun _=>by omega) (fun c h1 _=>b0 c h1) (Nat.le_refl _)).weak (by omega),fun _=>by omega,(b2 t2.n (by omega)).trans y3p,by omega,Nat.le_refl _,by omega,by omega,by omega,by omega,by omega⟩
  have hh0:w.h.get x.n=some (.cells (hcell (List.replicate l.stalls.length (-1))) 0):=by
   rw [b2 x.n (by omega),y3g x.n (by omega),t2g,repA_hcell]
  have hq0:QAt w.h w.n (y3.n+1) (List.range l.appls.length) (.slice (y3.n+1) 0 l.appls.length l.appls.length false):=by
   refine ⟨by omega,0,_,0,(wg (y3.n+1) (by omega)).trans t3g,.inl ⟨by rw [List.length_range],?_⟩⟩
   have:=cut1_all (arr (List.range l.appls.length))
   rw [arr_len] at this
   rw [cut_zero]
   exact this
  have hms:(mktOf l).meas (holdF (List.replicate l.stalls.length (-1))) (List.range l.appls.length)≤72:=by
   rw [holdF_none]
   refine Nat.le_trans (Mkt.meas_start (m:=mktOf l)) ?_
   show l.stalls.length * l.appls.length+l.appls.length≤72
   have:=Nat.mul_le_mul k1 m1
   omega
  generalize hlp:loopN _ rounds _ _ _ _ _=rl
  obtain ⟨e,L1,d1,s',rfl,rfl,hs,J,I,f6⟩:=loop_d hlp (fun i L d t=>∃ hs q,OfferJ w t u.n x.n (y3.n+1) t3.n 0 z7 l hs q d (30000 * i)∧(mktOf l).Inv (holdF hs) q∧i+(mktOf l).meas (holdF hs) q≤72∧L.find 1=.ptr u.n 0∧L.find 5=.ptr t1.n 0∧L.find 6=.ptr t2.n 0∧L.find 7=.ptr t3.n 0)
   (fun e L d t=>e=.exit 0∧∃ hs,OfferJ w t u.n x.n (y3.n+1) t3.n 0 z7 l hs [] d (30000 * 72)∧(mktOf l).Inv (holdF hs) []∧L.find 6=.ptr t2.n 0) 72 (by unfold rounds;omega)
   ⟨List.replicate l.stalls.length (-1),List.range l.appls.length,⟨hh0,List.length_replicate,⟨_,_,wp,hq0,.inl rfl⟩,fun _ _ _ _ _=>rfl,Nat.le_refl _,by omega,by omega,by omega,fun c h=>(by cases h),List.nodup_nil⟩,by rw [holdF_none];exact Mkt.Inv.start (mktOf_ok ok),by omega,by simp only [find_cons,reduceIte,Nat.reduceEqDiff],by simp only [find_cons,reduceIte,Nat.reduceEqDiff],by simp only [find_cons,reduceIte,Nat.reduceEqDiff],by simp only [find_cons,reduceIte,Nat.reduceEqDiff]⟩
   (fun i L d t hi ⟨hs,q,J,I,hm,f1,f5,f6,f7⟩=>by
    cases q with
    | nil =>
     obtain ⟨gh,hk,⟨vq,b,gw,hQ,hb⟩,same,jn,jle,jm,jml,dd,dn⟩:=J
     have kq:=hQ.okA
     have lq:=hQ.len
     have e0:decide ((0:Int)<((0:Nat):Int))=false:=by simp
     refine .inr ⟨.exit 0,L.set 27 (.bool false),d,t,by simp,?_,rfl,hs,⟨gh,hk,⟨vq,b,gw,hQ,hb⟩,same,jn,by omega,jm,jml,dd,dn⟩,I,?_⟩
     ·simp (disch:=first|omega|(with_unfolding_all exact rfl)|(simp only[new_n,put_n,new_m];omega)|(refine put_m_le ?_;simp only[new_m];omega)) only [K18l0,K18r7,Abs.W,reduceIte,Nat.reduceEqDiff,Nat.reduceAdd,decide_true,decide_false,kLoop_def,Nat.reduceSub,List.cons_append,List.nil_append,List.append_nil,List.length_cons,List.length_nil,Env.find_set,f7,gw,kq,lq,e0,Nat.zero_add]
     ·simp only [Env.find_set,f6,reduceIte,Nat.reduceEqDiff]
    | cons a r =>
     have hr:r.length≤90:=by
      have:(a::r).length≤(mktOf l).meas (holdF hs) (a::r):=Nat.le_add_left _ _
      rw [List.length_cons] at this
      omega
     obtain ⟨L1,d1,t1',hs1,q1,e1,J1,I1,hm1,g1,g5,g6,g7⟩:=offer_round M (by omega) ok hB J I hr f1 f5 f6 f7 (by omega)
     exact .inl ⟨by omega,L1,d1,t1',e1,hs1,q1,by rw [Nat.mul_succ];exact J1,I1,by omega,g1,g5,g6,g7⟩)
  obtain ⟨gh,hk,_,same,jn,jle,jm,jml,dd,dn⟩:=J
  obtain ⟨s'',ed,d0,d1n,d2,d3⟩:=take_dfrs dn (fun c hc=>(dd c hc).2.2)
  have g6:=(same t2.n (by omega) (by omega) (by omega) (by omega)).trans ((b2 t2.n (by omega)).trans y3p)
  simp (disch:=first|omega|(with_unfolding_all exact rfl)|(simp only[new_n,put_n,new_m];omega)|(refine put_m_le ?_;simp only[new_m];omega)) only [K18r11,res18,Abs.W,reduceIte,Nat.reduceEqDiff,Nat.reduceAdd,decide_true,decide_false,kLoop_def,Nat.reduceSub,List.cons_append,List.nil_append,List.append_nil,List.length_cons,List.length_nil,Env.find_set,f6,g6,Nat.zero_add]
  rw [leave_dfrs ed]
  have dl:∀ c ∈ d1,w.n≤c:=fun c hc=>(dd c hc).1
  have hsm:=d2 u.n jm (fun c hc=>by have:=dl c hc;omega)
  have lv:leaveA Try.prog [.tmp 2,.tmp 3] (Env.set 3 (.int .i64 0) (Env.set 2 (.slice x.n 0 l.stalls.length l.stalls.length false) L1)) [] s''=.val (.tup [.slice x.n 0 l.stalls.length l.stalls.length false,.int .i64 0]) s'':=by
   have e2:(Env.set 3 (.int .i64 0) (Env.set 2 (.slice x.n 0 l.stalls.length l.stalls.length false) L1)).find 2=.slice x.n 0 l.stalls.length l.stalls.length false:=by simp only [Env.find_set,reduceIte,Nat.reduceEqDiff]
   have e3:(Env.set 3 (.int .i64 0) (Env.set 2 (.slice x.n 0 l.stalls.length l.stalls.length false) L1)).find 3=.int .i64 0:=by simp only [Env.find_set,reduceIte,Nat.reduceEqDiff]
   show ARes.val (oneA [Env.find 2 _,Env.find 3 _]) s''=_
   rw [e2,e3]
   rfl
  rw [lv]
  refine ⟨_,_,rfl,⟨fun c hc=>?_,by omega,by omega,hsm,by omega⟩,rfl,_,hs,rfl,⟨hcell_wide hs,.inr ⟨x.n,0,l.stalls.length,false,_,0,by omega,by omega,⟨by unfold intRows;rw [List.length_map];omega,fun h=>(by cases h)⟩,?_,(d0 x.n (fun h=>by have:=dl _ h;omega)).trans gh,?_⟩⟩,hk,I⟩
  ·rw [d0 c (fun h=>by have:=dl _ h;omega),same c (by omega) (by omega) (by omega) (by omega),b0 c (by omega)]
   exact t1g c hc
  ·have:(intRows hs).length=l.stalls.length:=by unfold intRows;rw [List.length_map];exact hk
   rw [this]
  ·rw [cut_zero,← flatten_len (hcell_wide hs)]
   exact cut1_all (hcell hs))
 exact ⟨v',t,hs,hr.symm.trans e,st,hq⟩
end Go.Proofs.Ytbcjojljiochfaa.walk
set_option maxRecDepth 10000
namespace Go.Proofs.Ytbcjojljiochfaa.walk
open Go.Abs Go.Proofs.Ytbcjojljiochfaa.code
theorem rowsOf_set:∀ {l:List Appl} {ws:List (AV × AV)} {i:Nat} {A:Appl} {w:AV × AV},rowsOf (l.set i A) (ws.set i w)=(rowsOf l ws).set i (A.row w)
 | [],_,_,_,_=>by simp [rowsOf]
 | _::_,[],_,_,_=>by simp [rowsOf]
 | a::l,v::ws,0,_,_=>rfl
 | a::l,v::ws,i+1,A,w=>by
  have:=rowsOf_set (l:=l) (ws:=ws) (i:=i) (A:=A) (w:=w)
  unfold rowsOf at this ⊢
  rw [List.set_cons_succ,List.set_cons_succ,List.zipWith_cons_cons,this,List.zipWith_cons_cons,List.set_cons_succ]
theorem told_cells {l:List Appl} {ws:List (AV × AV)} {i:Nat} (h:ws.length=l.length) (hi:i<l.length) (y z:Int) (vw vb:AV) (hy:l[i].years=y) (hz:l[i].token=z) (wl bl:List Int):((rowsOf l ws).flatten.set (i * 4+2) vw).set (i * 4+3) vb=(rowsOf (l.set i ⟨y,z,wl,bl⟩) (ws.set i (vw,vb))).flatten:=by
 have lr:=rowsOf_len h
 have hi':i<(rowsOf l ws).length:=by omega
 have wd:=rowsOf_wide h
 have er:(rowsOf l ws)[i]=l[i].row ws[i]:=rowsOf_get hi' hi (by omega)
 have e1:=flat_setA vw (rows:=rowsOf l ws) (w:=4) (i:=i) (j:=2) wd hi' (by omega)
 rw [e1]
 have wd2:∀ r ∈ (rowsOf l ws).set i ((rowsOf l ws)[i].set 2 vw),r.length=4:=fun r hr=>by
  rcases List.mem_or_eq_of_mem_set hr with h | h
  ·exact wd r h
  ·rw [h,List.length_set];exact wd _ (List.getElem_mem hi')
 have e2:=flat_setA vb (rows:=(rowsOf l ws).set i ((rowsOf l ws)[i].set 2 vw)) (w:=4) (i:=i) (j:=3) wd2 (by rw [List.length_set];exact hi') (by omega)
 rw [e2,List.getElem_set_self,List.set_set,er,rowsOf_set]
 congr 2
 unfold Appl.row
 rw [hy,hz]
 rfl
theorem told_own {w t:St} {lo bS bA who k sz u0:Nat} {l:Letting} {v1 v2:AV} {ws:List (AV × AV)} {g:List Nat} (hw:who<l.appls.length) (hs:IsAt w.h w.n bS 3 (tag 53) (l.stalls.map StallR.cells) v1) (hws:ws.length=l.appls.length) (hA:IsAt w.h w.n bA 4 (tag 37) (rowsOf l.appls ws) v2) (hsz:w.h.get bA=some (.cells (rowsOf l.appls ws).flatten sz))
  (hl:∀ i (h1:i<ws.length) (h2:i<l.appls.length),Sl (fun x=>lo≤x∧x≠bA) w.h w.n 1 (intRows l.appls[i].wishes) ws[i].1∧Sl (fun x=>lo≤x∧x≠bA) w.h w.n 1 (intRows l.appls[i].bids) ws[i].2) (h3:lo≤bS∧lo≤bA∧bS≠bA) (hlo:lo≤w.n) (hbA:bA<w.n)
  (J:TellJ w t bA (who * 4) (rowsOf l.appls ws).flatten sz l.appls[who].wishes l.appls[who].bids g g.length k u0):LetOwn t.h t.n lo bS bA (l.told who (picks l.appls[who].wishes g) (picks l.appls[who].bids g)) v1 v2:=by
 obtain ⟨⟨vw,vb,bw,bb,gA,iw,ib,hw1,hb1,hne,_,_⟩,same,jn,jle,jm,jml⟩:=J
 rw [List.take_length] at iw ib
 have ec:=told_cells hws hw l.appls[who].years l.appls[who].token vw vb rfl rfl (picks l.appls[who].wishes g) (picks l.appls[who].bids g)
 rw [ec] at gA
 have eA:(l.told who (picks l.appls[who].wishes g) (picks l.appls[who].bids g)).appls=l.appls.set who ⟨l.appls[who].years,l.appls[who].token,picks l.appls[who].wishes g,picks l.appls[who].bids g⟩:=by unfold Letting.told;rw [applAt_of hw]
 have lr:=rowsOf_len hws
 have hws':(ws.set who (vw,vb)).length=(l.appls.set who ⟨l.appls[who].years,l.appls[who].token,picks l.appls[who].wishes g,picks l.appls[who].bids g⟩).length:=by rw [List.length_set,List.length_set];exact hws
 refine ⟨hs.mono (fun h=>same bS h h3.2.2) jn,⟨ws.set who (vw,vb),by rw [eA];exact hws',?_,fun i h1 h2=>?_⟩,h3⟩
 ·rw [eA]
  rcases hA.is with ⟨z,_⟩ | ⟨_,z1,z2,z3⟩
  ·rw [z] at lr;simp at lr;omega
  ·have hz:sz=4+tag 37:=by
    rw [hsz] at z3
    injection z3 with z3
    injection z3
   rw [hz] at gA
   have lr':=rowsOf_len hws'
   refine ⟨rowsOf_wide hws',.inr ⟨fun e=>?_,by omega,?_,gA⟩⟩
   ·rw [e] at lr';simp at lr';omega
   ·rw [z2,lr,lr',List.length_set]
 ·have h2':i<l.appls.length:=by rw [told_len] at h2;exact h2
  have h1':i<ws.length:=by omega
  by_cases e:i=who
  ·subst e
   have e1:(l.told i (picks l.appls[i].wishes g) (picks l.appls[i].bids g)).appls[i]=⟨l.appls[i].years,l.appls[i].token,picks l.appls[i].wishes g,picks l.appls[i].bids g⟩:=by
    simp only [eA,List.getElem_set_self]
   rw [e1,List.getElem_set_self]
   exact ⟨Sl.of_at iw fun _=>⟨by omega,by omega⟩,Sl.of_at ib fun _=>⟨by omega,by omega⟩⟩
  ·have e1:(l.told who (picks l.appls[who].wishes g) (picks l.appls[who].bids g)).appls[i]=l.appls[i]:=by
    simp only [eA,List.getElem_set_ne (Ne.symm e)]
   rw [e1,List.getElem_set_ne (Ne.symm e)]
   exact ⟨(hl i h1' h2').1.move (fun b hb hn=>⟨same b hb hn.2,hn⟩) jn,(hl i h1' h2').2.move (fun b hb hn=>⟨same b hb hn.2,hn⟩) jn⟩
theorem tell_loop {cl:CallF} {cx:Ctx} {w t:St} {bA wo p8 bM pM sz z8 zM u0:Nat} {F cM:List AV} {wl bl:List Int} {g:List Nat} {a1 a2 ow ob vM vG:AV} {rd:Nat→Prop} {j:Nat} {L:Env} {r:R} (hr:loopN K6l0 rounds cl cx L [] t=r)
  (J:TellJ w t bA wo F sz wl bl g 0 0 u0) (hF:wo+4≤F.length) (hbA:bA<w.n) (hu:u0≤bA∧u0≤w.n)
  (g8:w.h.get p8=some (.cells [a1,a2,ow,ob] z8)) (hW:Sl rd w.h w.n 1 (intRows wl) ow) (hB:Sl rd w.h w.n 1 (intRows bl) ob) (hrd:¬ rd bA) (h8:p8<w.n∧p8≠bA) (hbl:bl.length=wl.length)
  (kM:∀ t,okA (.val vM t)=.val vM t) (ixM:∀ s,ixsA 1 s vM (.int .i64 (j:Int))=.val (.ptr bM pM) s) (gM:w.h.get bM=some (.cells cM zM)) (nM:nth cM pM=vG) (hM:bM<w.n∧bM≠bA) (hG:Sl (fun x=>x≠bM∧x≠bA) w.h w.n 1 (natRows g) vG)
  (hg:∀ x ∈ g,x<wl.length) (hgl:g.length≤8) (hs:w.n+200≤far)
  (f8:L.find 8=.ptr p8 0) (f9:L.find 9=vM) (f10:L.find 10=.int .i64 (j:Int)) (f12:L.find 12=.ptr bA wo) (f13:L.find 13=.int .i64 (0:Nat)) :
  ∃ L1 t1,r=.done (.exit 2) L1 [] t1∧TellJ w t1 bA wo F sz wl bl g g.length 40 u0∧∀ c,c<13→L1.find c=L.find c:=by
 have hf:far=1000000000:=rfl
 obtain ⟨e,L1,t1,rfl,rfl,h1,h2⟩:=loop_of hr (fun k L' t'=>TellJ w t' bA wo F sz wl bl g k (4 * k) u0∧L'.find 13=.int .i64 (k:Nat)∧∀ c,c<13→L'.find c=L.find c) (fun e L' t'=>e=.exit 2∧TellJ w t' bA wo F sz wl bl g g.length 40 u0∧∀ c,c<13→L'.find c=L.find c) g.length (by unfold rounds;omega)
  ⟨J,f13,fun _ _=>rfl⟩
  (fun k L' t' hk ⟨J',q13,q⟩=>by
   by_cases hlt:k<g.length
   ·obtain ⟨L2,t2,x1,x2,x3,x4⟩:=tell_round cx (pG:=0) (bG:=0) (bW:=0) (bB:=0) (zG:=0) (cG:=[]) J' hF hbA hu g8 hW hB hrd h8 hbl kM ixM gM nM hM hG hlt hg hgl (by omega) ((q 8 (by omega)).trans f8) ((q 9 (by omega)).trans f9) ((q 10 (by omega)).trans f10) ((q 12 (by omega)).trans f12) q13
    exact .inl ⟨hlt,L2,t2,x1,by rw [Nat.mul_succ];exact x2,x3,fun c hc=>(x4 c hc).trans (q c hc)⟩
   ·obtain rfl:k=g.length:=by omega
    have e0:decide ((g.length:Int)<(g.length:Int))=false:=by simp
    obtain ⟨jq,same,jn,jle,jm,jml⟩:=J'
    have tM:=(same bM hM.1 hM.2).trans gM
    have hGt:=hG.move (h':=t'.h) (n':=w.n) (fun b hb h=>⟨same b hb h.2,h⟩) (Nat.le_refl _)
    have kG:=hGt.okA
    have lG:=natLen hGt.at_
    have q9:=(q 9 (by omega)).trans f9
    have q10:=(q 10 (by omega)).trans f10
    refine .inr ⟨.exit 2,L'.set 78 (.bool false),t',by simp,?_,rfl,⟨jq,same,jn,by omega,jm,jml⟩,fun c hc=>?_⟩
    ·simp (disch:=first|omega|(with_unfolding_all exact rfl)|(simp only[new_n,put_n,new_m];omega)|(refine put_m_le ?_;simp only[new_m];omega)) only [K6l0,K6r17,Abs.W,reduceIte,Nat.reduceEqDiff,Nat.reduceAdd,decide_true,decide_false,kLoop_def,Nat.reduceSub,List.cons_append,List.nil_append,List.append_nil,List.length_cons,List.length_nil,Env.find_set,q9,q10,q13,kM,ixM,tM,nM,kG,lG,e0]
    ·simp only [Env.find_set]
     rw [if_neg (by omega)]
     exact q c hc)
 exact ⟨L1,t1,rfl,h1,h2⟩
end Go.Proofs.Ytbcjojljiochfaa.walk
set_option maxRecDepth 10000
namespace Go.Proofs.Ytbcjojljiochfaa.walk
open Go.Abs Go.Proofs.Ytbcjojljiochfaa.code
noncomputable abbrev awd (n:Nat):CallF:=knows 14 (call Try.prog X n)
def MetS (h:Heap) (n bm lo:Nat) (M:List (List Nat)) (v:AV):Prop :=
 ∃ vs:List AV,vs.length=M.length∧IsAt h n bm 1 (tag 22) (vs.map fun v=>[v]) v∧∀ j (h1:j<vs.length) (h2:j<M.length),Sl (fun x=>lo≤x∧x≠bm) h n 1 (natRows M[j]) vs[j]
section
variable {h h':Heap} {n n' bm lo:Nat} {M:List (List Nat)} {v:AV}
theorem MetS.nil (h:Heap) (n bm lo:Nat):MetS h n bm lo [] .nilslice:=⟨[],rfl,IsAt.nil _ _ _ _ _,fun j h1 _=>by simp at h1⟩
theorem MetS.move (a:MetS h n bm lo M v) (hb:bm<n→lo≤bm) (hh:∀ c,c<n→lo≤c→h'.get c=h.get c) (hn:n≤n'):MetS h' n' bm lo M v:=by
 obtain ⟨vs,h1,h2,h3⟩:=a
 exact ⟨vs,h1,h2.mono (fun h=>hh _ h (hb h)) hn,fun j j1 j2=>(h3 j j1 j2).move (fun c hc hl=>⟨hh c hc hl.1,hl⟩) hn⟩
theorem MetS.okA (a:MetS h n bm lo M v) (t:St):Abs.okA (.val v t)=.val v t:=by obtain ⟨rows,h1,h2,h3⟩:=a;exact h2.okA t
theorem MetS.len (a:MetS h n bm lo M v) (s:St):lenSlA s v=.val (.int .i64 (M.length:Int)) s:=by
 obtain ⟨vs,h1,h2,h3⟩:=a
 have:=h2.rows.at_.len s
 rw [List.length_map,h1] at this
 exact this
theorem MetS.get (a:MetS h n bm lo M v) {j:Nat} (hj:j<M.length) :
  ∃ w p c sz,Sl (fun x=>lo≤x∧x≠bm) h n 1 (natRows M[j]) w∧(∀ s,ixsA 1 s v (.int .i64 (j:Int))=.val (.ptr bm p) s)∧h.get bm=some (.cells c sz)∧nth c p=w:=by
 obtain ⟨vs,h1,h2,h3⟩:=a
 have hr:j<vs.length:=by omega
 rcases h2.is with ⟨z,_⟩ | ⟨_,z1,z2,z3⟩
 ·rw [List.map_eq_nil_iff] at z
  subst z
  simp at hr
 ·refine ⟨vs[j],0+j * 1,_,_,h3 j hr hj,fun s=>by rw [z2];exact ixs_slice 1 s bm 0 _ _ true j (by rw [List.length_map];exact hr),z3,?_⟩
  rw [Nat.zero_add]
  have:=flatten_cut (rows:=vs.map fun v=>[v]) (w:=1) (i:=j) h2.wide (by rw [List.length_map];exact hr)
  exact cut1_nth (this.trans (by simp))
end
theorem MetS.push {s:St} {bm lo:Nat} {M:List (List Nat)} {v:AV} (a:MetS s.h s.n bm lo M v) {l:List Nat} {w:AV} (hw:Sl (fun x=>lo≤x∧x≠bm) s.h s.n 1 (natRows l) w) {p sz:Nat} (hp:s.h.get p=some (.cells [w] sz)) (hl:M.length+1≤1000) (hs:s.n+10≤far) :
  ∃ v' s',appendA false 1 24 (tag 22) s v (.slice p 0 1 1 false)=.val v' s'∧MetS s'.h s'.n s.n lo (M++[l]) v'∧s'.n=s.n+1∧(∀ c,c<s.n→c≠bm→s'.h.get c=s.h.get c):=by
 have hf:far=1000000000:=rfl
 obtain ⟨vs,h1,h2,h3⟩:=a
 obtain ⟨s',e1,e2,e3,e4,e5,e6⟩:=append_at (bytes:=24) h2 hp rfl hw.scal.1 (by rw [List.length_map];omega) (by kernel_rfl) (by omega)
 have mv:∀ {l:List Nat} {w:AV},Sl (fun x=>lo≤x∧x≠bm) s.h s.n 1 (natRows l) w→Sl (fun x=>lo≤x∧x≠s.n) s'.h s'.n 1 (natRows l) w:=fun q=>q.move (fun b b1 b2=>⟨e4 b b1 b2.2,b2.1,by omega⟩) (by omega)
 refine ⟨_,s',e1,⟨vs++[w],by simp [h1],?_,fun j j1 j2=>?_⟩,e3,e4⟩
 ·rw [List.map_append];exact e2
 ·by_cases e:j<vs.length
  ·rw [List.getElem_append_left e,List.getElem_append_left (by omega)]
   exact mv (h3 j e (by omega))
  ·have hj:j=vs.length:=by rw [List.length_append,List.length_singleton] at j1;omega
   subst hj
   rw [List.getElem_append_right (Nat.le_refl _),List.getElem_append_right (by omega)]
   simp only [h1,Nat.sub_self,List.getElem_singleton]
   exact mv hw
/-! ### The draw has each once -/
def draws (n base from_ j:Nat):List (List Nat):=(List.range j).map fun i=>pickL n (base+from_+i) (List.range n)
structure DrawnJ (w t:St) (p4 lo bS bA who bm n base from_ j kk:Nat) (l:Letting) (vS vA vm:AV):Prop where
 own:∃ x,0≤x∧x≤1000000000∧LetOwn t.h w.n lo bS bA (l.withTok who x) vS vA
 g4:t.h.get p4=some (.cells [vS,vA] (tag 28))
 met:MetS t.h t.n bm w.n (draws n base from_ j) vm
 bmc:(w.n≤bm∧bm<t.n)∨far<bm
 n:w.n≤t.n
 le:t.n≤w.n+kk
end Go.Proofs.Ytbcjojljiochfaa.walk
set_option maxRecDepth 10000
namespace Go.Proofs.Ytbcjojljiochfaa.walk
open Go.Abs Go.Proofs.Ytbcjojljiochfaa.code
theorem truth_round (N:Nat) (hN:18≤N) (cx:Ctx) {w t:St} {p4 p8 lo bS bA who z8 u0 kk i bM:Nat} {l:Letting} {vS vA vX vM a1 a2 ow ob:AV} {hsX:List Int} {M:List (List Nat)} {nx rd nM:Nat→Prop} {L:Env} (ok:l.Ok) (hw:who<l.appls.length)
  (own:LetOwn w.h w.n lo bS bA l vS vA) (g4:w.h.get p4=some (.cells [vS,vA] (tag 28))) (hX:Sl nx w.h w.n 1 (intRows hsX) vX) (hXl:hsX.length=l.stalls.length) (IX:(mktOf l).Inv (holdF hsX) [])
  (g8:w.h.get p8=some (.cells [a1,a2,ow,ob] z8)) (hW:Sl rd w.h w.n 1 (intRows l.appls[who].wishes) ow) (hB:Sl rd w.h w.n 1 (intRows l.appls[who].bids) ob) (hM:TabS w.h w.n bM nM M vM) (hS:Subs l.appls[who].wishes.length M) (hMl:M.length≤1000)
  (hp:p4<w.n∧p8<w.n) (hi:i<M.length) (same:∀ c,c<w.n→t.h.get c=w.h.get c) (jn:w.n≤t.n) (jle:t.n≤w.n+kk) (hu:u0≤w.n) (jm:u0≤t.m) (jml:t.m≤far) (hs:w.n+kk+10000000≤far)
  (q4:L.find 4=.ptr p4 0) (q5:L.find 5=.int .i64 (who:Int)) (q6:L.find 6=vX) (q8:L.find 8=.ptr p8 0) (q9:L.find 9=vM) (q10:L.find 10=.int .i64 (i:Nat)) :
  ∃ L1 t1,K6l1 (awd N) cx L [] t=.done .norm L1 [] t1∧(∀ c,c<w.n→t1.h.get c=w.h.get c)∧w.n≤t1.n∧t1.n≤w.n+(kk+2201000)∧u0≤t1.m∧t1.m≤far∧L1.find 10=.int .i64 (i+1:Nat)∧∀ c,c<10→L1.find c=L.find c:=by
 have hf:far=1000000000:=rfl
 have kn25:∀ args s,awd N (.fn 25) args s=call Try.prog X N (.fn 25) args s:=fun _ _=>rfl
 have kn18:∀ args s,awd N (.fn 18) args s=call Try.prog X N (.fn 18) args s:=fun _ _=>rfl
 have kn23:∀ args s,awd N (.fn 23) args s=call Try.prog X N (.fn 23) args s:=fun _ _=>rfl
 have A0:=ok.ap _ (List.getElem_mem hw)
 have ownt:=own.grow (h':=t.h) (n':=t.n) (fun c h1 _=>same c h1) jn
 have hMt:TabS t.h t.n bM (fun x=>nM x∧x<w.n) M vM:=by
  have hb:bM<w.n:=by obtain ⟨vs,ee,sz,_,_,h3,_⟩:=hM;exact h3
  have:TabS w.h w.n bM (fun x=>nM x∧x<w.n) M vM:=by
   obtain ⟨vs,e,sz,h1,h2,h3,h4,h5,h6,h7,h8⟩:=hM
   exact ⟨vs,e,sz,h1,h2,h3,h4,h5,h6,h7,fun j j1 j2=>(h8 j j1 j2).move (fun c hc hl=>⟨rfl,hl.1,hl.2,hc⟩) (Nat.le_refl _)⟩
  exact this.move (same bM hb) (fun c _ h=>⟨same c h.2,h⟩) jn
 have hbM:bM<w.n:=by obtain ⟨vs,ee,sz,_,_,h3,_⟩:=hM;exact h3
 have kM:=hM.okA
 have lM:=hM.len
 have kS:=own.at_.okS
 have kA:=own.at_.okV
 have lS:=own.at_.lenS
 have t4:=(same p4 hp.1).trans g4
 have e0:decide ((i:Int)<(M.length:Int))=true:=decide_eq_true (by omega)
 simp (disch:=first|omega|(with_unfolding_all exact rfl)|(simp only[new_n,put_n,new_m];omega)|(refine put_m_le ?_;simp only[new_m];omega)) only [K6l1,K6r12,K6r13,Abs.W,reduceIte,Nat.reduceEqDiff,Nat.reduceAdd,decide_true,decide_false,kLoop_def,Nat.reduceSub,List.cons_append,List.nil_append,List.append_nil,List.length_cons,List.length_nil,Env.find_set,q4,q5,q6,q8,q9,q10,kM,lM,kS,kA,t4,e0,kn25,Nat.zero_add]
 generalize hc:call _ _ _ (.fn 25) _ _=rc
 obtain ⟨v1,v2,b1,b2,t1,rfl,s1,own1⟩:=copyLetting_ex hc (by omega) ok ownt.at_ (by omega)
 have s1n:=s1.n
 have s1l:=s1.le
 have s1m:=s1.m
 have sc:=own1.at_.scal
 have kv1:=own1.at_.okS
 have kv2:=own1.at_.okV
 simp (disch:=first|omega|(with_unfolding_all exact rfl)|(simp only[new_n,put_n,new_m];omega)|(refine put_m_le ?_;simp only[new_m];omega)) only [Abs.W,reduceIte,Nat.reduceEqDiff,Nat.reduceAdd,decide_true,decide_false,kLoop_def,Nat.reduceSub,List.cons_append,List.nil_append,List.append_nil,List.length_cons,List.length_nil,Env.find_set,sc,Nat.zero_add]
 obtain ⟨hsS,⟨ws,w1,w2,w3⟩,l1,l2,l3⟩:=own1
 have lr:=rowsOf_len w1
 have hb2:v2=.slice b2 0 l.appls.length l.appls.length true∧b2<t1.n∧t1.h.get b2=some (.cells (rowsOf l.appls ws).flatten (4+tag 37)):=by
  rcases w2.is with ⟨z,_⟩ | ⟨_,z1,z2,z3⟩
  ·rw [z] at lr;simp at lr;omega
  ·rw [lr] at z2;exact ⟨z2,z1,z3⟩
 obtain ⟨hv2,hb2,gF⟩:=hb2
 obtain ⟨y,hy⟩:∃ y:St,y=(t1.new (.cells [.nilslice,.nilslice] (tag 28))).put t1.n (.cells [v1,v2] (tag 28)):=⟨_,rfl⟩
 have yn:y.n=t1.n+1:=by rw [hy];rfl
 have ym:y.m=min t1.m t1.n:=by rw [hy];simp only [St.put,minN_eq,new_m]
 have yg:∀ c,c<t1.n→y.h.get c=t1.h.get c:=fun c hc=>by rw [hy,get_put_ne' _ _ _ _ (by omega),get_new_ne _ _ _ (by omega)]
 have yp:y.h.get t1.n=some (.cells [v1,v2] (tag 28)):=by rw [hy];exact get_put_eq _ _ _ _ rfl (by omega)
 have yF:=(yg b2 hb2).trans gF
 have yw:∀ c,c<w.n→y.h.get c=w.h.get c:=fun c hc=>(yg c (by omega)).trans ((s1.same c (by omega)).trans (same c hc))
 have ix2:∀ s,ixsA 4 s v2 (.int .i64 (who:Int))=.val (.ptr b2 (who * 4)) s:=fun s=>by rw [hv2,ixs_slice 4 s b2 0 _ _ true who hw,Nat.zero_add]
 have flen:(rowsOf l.appls ws).flatten.length=l.appls.length * 4:=by rw [flatten_len (rowsOf_wide w1),lr]
 have ov1:=over_cell (c:=(rowsOf l.appls ws).flatten) (i:=who * 4+2) .nilslice (by omega)
 have ov2:=over_cell (c:=(rowsOf l.appls ws).flatten.set (who * 4+2) .nilslice) (i:=who * 4+3) .nilslice (by rw [List.length_set];omega)
 obtain ⟨z,hz⟩:∃ z:St,z=(y.put b2 (.cells ((rowsOf l.appls ws).flatten.set (who * 4+2) .nilslice) (4+tag 37))).put b2 (.cells (((rowsOf l.appls ws).flatten.set (who * 4+2) .nilslice).set (who * 4+3) .nilslice) (4+tag 37)):=⟨_,rfl⟩
 have zn:z.n=y.n:=by rw [hz];rfl
 have zm:z.m=min y.m b2:=by rw [hz];simp only [St.put,minN_eq];omega
 have zg:∀ c,c≠b2→z.h.get c=y.h.get c:=fun c hc=>by rw [hz,get_put_ne' _ _ _ _ hc,get_put_ne' _ _ _ _ hc]
 have zA:z.h.get b2=some (.cells (((rowsOf l.appls ws).flatten.set (who * 4+2) .nilslice).set (who * 4+3) .nilslice) (4+tag 37)):=by rw [hz];exact get_put_eq _ _ _ _ rfl (by omega)
 rw [← hy]
 simp (disch:=first|omega|(with_unfolding_all exact rfl)|(simp only[new_n,put_n,new_m];omega)|(refine put_m_le ?_;simp only[new_m];omega)) only [K6r14,K6r15,K6r16,Abs.W,reduceIte,Nat.reduceEqDiff,Nat.reduceAdd,decide_true,decide_false,kLoop_def,Nat.reduceSub,List.cons_append,List.nil_append,List.append_nil,List.length_cons,List.length_nil,Env.find_set,q5,yp,kv1,kv2,ix2,yF,ov1,ov2,Nat.zero_add]
 rw [← hz]
 generalize hlp:loopN _ rounds _ _ _ _ _=rl
 have hMy:TabS y.h y.n bM (fun x=>nM x∧x<w.n) M vM:=hMt.move ((yw bM hbM).trans (same bM hbM).symm) (fun c _ h=>⟨(yw c h.2).trans (same c h.2).symm,h⟩) (by omega)
 obtain ⟨vG,pM,cM,zM,G1,G2,G3,G4⟩:=hMy.get hi
 obtain ⟨gd,gl⟩:=hS M[i] (List.getElem_mem hi)
 have glen:M[i].length≤8:=by
  have:=len_sub (k:=List.range l.appls[who].wishes.length) gd fun x hx=>List.mem_range.mpr (gl x hx)
  rw [List.length_range] at this
  have:=A0.wl
  omega
 generalize M[i]=g at *
 obtain ⟨L1,t3,rfl,J,gL⟩:=tell_loop (w:=y) (bA:=b2) (wo:=who * 4) (F:=(rowsOf l.appls ws).flatten) (sz:=4+tag 37) (wl:=l.appls[who].wishes) (bl:=l.appls[who].bids) (g:=g) (u0:=u0) (p8:=p8) (a1:=a1) (a2:=a2) (ow:=ow) (ob:=ob) (z8:=z8) (rd:=fun x=>x<w.n) (vM:=vM) (j:=i) (vG:=vG) (bM:=bM) (pM:=pM) (cM:=cM) (zM:=zM) hlp
  ⟨⟨.nilslice,.nilslice,far+1,far+2,zA,by simp only [List.take_zero];exact IsAt.nil _ _ _ _ _,by simp only [List.take_zero];exact IsAt.nil _ _ _ _ _,by omega,by omega,by omega,.inr (by omega),.inr (by omega)⟩,fun c _ h2=>zg c h2,by omega,by omega,by omega,by omega⟩
  (by omega) (by omega) ⟨by omega,by omega⟩ ((yw p8 hp.2).trans g8) (hW.move (fun b hb h=>⟨yw b hb,hb⟩) (by omega)) (hB.move (fun b hb h=>⟨yw b hb,hb⟩) (by omega)) (by omega) ⟨by omega,by omega⟩ A0.bl kM G2 G3 G4 ⟨by omega,by omega⟩ (G1.move (fun b hb h=>⟨rfl,h.1,by have:=h.2.2;omega⟩) (Nat.le_refl _)) gl glen (by omega)
  (by simp only [Env.find_set,q8,reduceIte,Nat.reduceEqDiff]) (by simp only [Env.find_set,q9,reduceIte,Nat.reduceEqDiff]) (by simp only [Env.find_set,q10,reduceIte,Nat.reduceEqDiff]) (by simp only [Env.find_set,reduceIte,Nat.reduceEqDiff]) (by simp only [Env.find_set,reduceIte,Nat.reduceEqDiff];rfl)
 have ok':=told_ok ok hw gd gl
 have hsy:IsAt y.h y.n b1 3 (tag 53) (l.stalls.map StallR.cells) v1:=hsS.mono (fun h=>yg b1 h) (by omega)
 have w2y:IsAt y.h y.n b2 4 (tag 37) (rowsOf l.appls ws) v2:=w2.mono (fun h=>yg b2 h) (by omega)
 have own3:=told_own (bS:=b1) (lo:=t.n) hw hsy w1 w2y yF (fun i h1 h2=>⟨(w3 i h1 h2).1.move (fun b hb h=>⟨yg b hb,h⟩) (by omega),(w3 i h1 h2).2.move (fun b hb h=>⟨yg b hb,h⟩) (by omega)⟩) ⟨l1,l2,l3⟩ (by omega) (by omega) J
 obtain ⟨_,same3,n3,le3,m3,ml3⟩:=J
 have p3:=(same3 t1.n (by omega) (by omega)).trans yp
 have g11:L1.find 11=.ptr t1.n 0:=(gL 11 (by omega)).trans (by simp only [Env.find_set,reduceIte,Nat.reduceEqDiff])
 simp (disch:=first|omega|(with_unfolding_all exact rfl)|(simp only[new_n,put_n,new_m];omega)|(refine put_m_le ?_;simp only[new_m];omega)) only [K6r20,Abs.W,reduceIte,Nat.reduceEqDiff,Nat.reduceAdd,decide_true,decide_false,kLoop_def,Nat.reduceSub,List.cons_append,List.nil_append,List.append_nil,List.length_cons,List.length_nil,Env.find_set,g11,p3,kv1,kv2,kn18,Nat.zero_add]
 generalize hc5:call _ _ _ (.fn 18) _ _=rc
 obtain ⟨vY,t4,hsY,rfl,s4,SY,hYl,IY⟩:=Let_ex hc5 (by omega) ok' own3.at_ (by omega)
 have s4n:=s4.n
 have s4l:=s4.le
 have s4m:=s4.m
 have w4:∀ c,c<w.n→t4.h.get c=w.h.get c:=fun c hc=>(s4.same c (by omega)).trans ((same3 c (by omega) (by omega)).trans (yw c hc))
 have k4:L1.find 4=.ptr p4 0:=(gL 4 (by omega)).trans (by simp only [Env.find_set,q4,reduceIte,Nat.reduceEqDiff])
 have k5:L1.find 5=.int .i64 (who:Int):=(gL 5 (by omega)).trans (by simp only [Env.find_set,q5,reduceIte,Nat.reduceEqDiff])
 have k6:L1.find 6=vX:=(gL 6 (by omega)).trans (by simp only [Env.find_set,q6,reduceIte,Nat.reduceEqDiff])
 have k10:L1.find 10=.int .i64 (i:Nat):=(gL 10 (by omega)).trans (by simp only [Env.find_set,q10,reduceIte,Nat.reduceEqDiff])
 have y4:=(w4 p4 hp.1).trans g4
 have hL4:=own.at_.grow (h':=t4.h) (n':=t4.n) w4 (by omega)
 have hX4:=hX.grow w4 (by omega:w.n≤t4.n)
 have kY:=SY.okA
 have lY:∀ s,lenSlA s vY=.val (.int .i64 (l.stalls.length:Int)) s:=fun s=>by
  have:=rowLen SY.at_ s
  rw [hYl] at this
  exact this
 have k1:=ok.k1
 have pl1:=place_ok N (by omega) (s:=⟨t4.h,t4.n,far⟩) ok hw hL4 SY (by rw [hYl];exact k1) (by show t4.n+300≤far;omega)
 have pl2:=place_ok N (by omega) (s:=t4) ok hw hL4 hX4 (by rw [hXl];exact k1) (by omega)
 have tr:=truthL ok hw gd gl IX IY
 have e1:decide ((placeI l hsY who:Int)<(placeI l hsX who:Int))=false:=decide_eq_false (by omega)
 have e2:decide ((0:Int)=0)=true:=rfl
 have e3:decide ((l.stalls.length:Int)=(l.stalls.length:Int))=true:=by simp
 have ex0:∀ (a b:AV) (s:St),extA 0 s (.tup [a,b])=.val a s:=fun _ _ _=>rfl
 have ex1:∀ (a b:AV) (s:St),extA 1 s (.tup [a,b])=.val b s:=fun _ _ _=>rfl
 have okt:∀ (a b:AV) (s:St),okA (.val (.tup [a,b]) s)=.val (.tup [a,b]) s:=fun _ _ _=>rfl
 have ad:∀ s,aAdd s .i64 (i:Int) 1=.val (.int .i64 ((i:Int)+1)) s:=fun s=>aAdd_i64 s _ _ (by omega)
 simp (disch:=first|omega|(with_unfolding_all exact rfl)|(simp only[new_n,put_n,new_m];omega)|(refine put_m_le ?_;simp only[new_m];omega)) only [K6r21,K6r21s4,K6r21s5,K6r21s6,K6r21s7,K6r21s8,K6r21s9,K6r21s12,K6r21s13,K6r21s14,K6r21s15,K6r21s16,K6r21s17,K6r21s18,K6r21s19,K6r21s20,K6r23,Abs.W,reduceIte,Nat.reduceEqDiff,Nat.reduceAdd,decide_true,decide_false,kLoop_def,Nat.reduceSub,List.cons_append,List.nil_append,List.append_nil,List.length_cons,List.length_nil,Env.find_set,ex0,ex1,okt,k4,k5,k6,k10,y4,kS,kA,lS,kY,lY,kn23,pl1,pl2,e1,e2,e3,ad,Nat.zero_add]
 refine ⟨_,t4,rfl,w4,by omega,?_,by omega,by omega,?_,fun c hc=>?_⟩
 ·rw [← Nat.add_assoc]
  omega
 ·simp only [Env.find_set,reduceIte,Nat.reduceEqDiff];rfl
 ·simp only [Env.find_set]
  repeat rw [if_neg (by omega)]
  rw [gL c (by omega)]
  simp only [Env.find_set]
  repeat rw [if_neg (by omega)]
end Go.Proofs.Ytbcjojljiochfaa.walk
