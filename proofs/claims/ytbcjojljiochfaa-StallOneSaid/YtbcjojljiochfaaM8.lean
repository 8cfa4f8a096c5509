/- Stalls are let. -/
import Derived.Test.YtbcjojljiochfaaM7
import Derived.Test.YtbcjojljiochfaaCodes
import Derived.Test.YtbcjojljiochfaaM3
import Derived.Test.YtbcjojljiochfaaM2
import Derived.Test.YtbcjojljiochfaaWalkAll
set_option linter.unusedSimpArgs false
set_option maxHeartbeats 16000000
set_option linter.unusedVariables false
set_option maxRecDepth 10000
namespace Go.Abs
theorem loop_dinv {body:K} {cl:CallF} {cx:Ctx} (I:Nat→Env→List Nat→St→Prop) (Q:Ex→Env→List Nat→St→Prop) (k:Nat)
  (step:∀ i L d s,i≤k→I i L d s→(i<k∧∃ L1 d1 s1,body cl cx L d s=.done .norm L1 d1 s1∧I (i+1) L1 d1 s1)∨(∃ e L1 d1 s1,e≠.norm∧body cl cx L d s=.done e L1 d1 s1∧Q e L1 d1 s1)) :
  ∀ (m i fuel:Nat) (L:Env) (d:List Nat) (s:St),i+m=k→m<fuel→I i L d s→∃ e L1 d1 s1,loopN body fuel cl cx L d s=.done e L1 d1 s1∧Q e L1 d1 s1
 | m,i,0,_,_,_,_,hf,_=>by omega
 | m,i,fuel+1,L,d,s,hm,hf,hI=>by
  rcases step i L d s (by omega) hI with ⟨hi,L1,d1,s1,h1,h2⟩ | ⟨e,L1,d1,s1,he,h1,h2⟩
  ·obtain ⟨m',rfl⟩:∃ m',m=m'+1:=⟨m - 1,by omega⟩
   obtain ⟨e,L2,d2,s2,h3,h4⟩:=loop_dinv I Q k step m' (i+1) fuel L1 d1 s1 (by omega) (by omega) h2
   exact ⟨e,L2,d2,s2,by rw [loopN_succ,h1];exact h3,h4⟩
  ·refine ⟨e,L1,d1,s1,?_,h2⟩
   rw [loopN_succ,h1]
   cases e<;>first | rfl | exact absurd rfl he
theorem loop_d {body:K} {cl:CallF} {cx:Ctx} {L:Env} {d:List Nat} {s:St} {r:R} (hr:loopN body rounds cl cx L d s=r) (I:Nat→Env→List Nat→St→Prop) (Q:Ex→Env→List Nat→St→Prop) (k:Nat) (hk:k<rounds) (h0:I 0 L d s)
  (step:∀ i L d s,i≤k→I i L d s→(i<k∧∃ L1 d1 s1,body cl cx L d s=.done .norm L1 d1 s1∧I (i+1) L1 d1 s1)∨(∃ e L1 d1 s1,e≠.norm∧body cl cx L d s=.done e L1 d1 s1∧Q e L1 d1 s1)) :
  ∃ e L1 d1 s1,r=.done e L1 d1 s1∧Q e L1 d1 s1:=by
 obtain ⟨e,L1,d1,s1,h1,h2⟩:=loop_dinv I Q k step k 0 rounds L d s (by omega) hk h0
 exact ⟨e,L1,d1,s1,hr.symm.trans h1,h2⟩
theorem take_dfrs:∀ {d:List Nat} {s:St},d.Nodup→(∀ c ∈ d,s.h.get c=some .dfr)→∃ s',takeDfs s d=some s'∧(∀ c,c ∉ d→s'.h.get c=s.h.get c)∧s'.n=s.n∧(∀ u,u≤s.m→(∀ c ∈ d,u≤c)→u≤s'.m)∧s'.m≤s.m
 | [],s,_,_=>⟨s,rfl,fun _ _=>rfl,rfl,fun _ h _=>h,Nat.le_refl _⟩
 | b::d,s,hd,h=>by
  obtain ⟨h1,h2⟩:=List.nodup_cons.mp hd
  have hb:=h b (List.mem_cons_self ..)
  obtain ⟨s',e,a1,a2,a3,a4⟩:=take_dfrs (d:=d) (s:=s.kill b) h2 (fun c hc=>by
   rw [get_kill_ne _ _ _ (show c≠b from fun e=>h1 (by rw [← e];exact hc))]
   exact h c (List.mem_cons_of_mem _ hc))
  have km:(s.kill b).m=min s.m b:=by simp only [St.kill,minN_eq]
  refine ⟨s',?_,fun c hc=>?_,a2,fun u hu hc=>a3 u ?_ (fun c h=>hc c (List.mem_cons_of_mem _ h)),?_⟩
  ·show (match s.h.get b with | some .dfr=>takeDfs (s.kill b) d | _=>none)=_
   rw [hb];exact e
  ·rw [a1 c (fun h=>hc (List.mem_cons_of_mem _ h)),get_kill_ne _ _ _ (fun e=>hc (by rw [e];exact List.mem_cons_self ..))]
  ·rw [km]
   have:=hc b (List.mem_cons_self ..)
   omega
  ·rw [km] at a4;omega
theorem leave_dfrs {P:Program} {rs:List ResultVar} {d:List Nat} {L:Env} {s s':St} (h:takeDfs s d=some s'):leaveA P rs L d s=leaveA P rs L [] s':=by
 unfold leaveA
 rw [h]
 rfl
end Go.Abs
namespace Go.Proofs.Ytbcjojljiochfaa.walk
open Go.Abs Go.Proofs.Ytbcjojljiochfaa.code
theorem repA_hcell (k:Nat):repA k k=hcell (List.replicate k (-1)):=by
 unfold repA hcell intRows
 rw [Nat.sub_self,List.replicate_zero,List.append_nil,List.map_replicate]
 induction k with
 | zero=>rfl
 | succ k ih=>rw [List.replicate_succ,List.replicate_succ,List.flatten_cons,← ih];rfl
theorem holdF_none (k:Nat):holdF (List.replicate k (-1))=fun _ => -1:=by
 funext s
 unfold holdF
 by_cases h:s<k
 ·simp [List.getD,h]
 ·simp [List.getD,h]
theorem Let_ex {N:Nat} {no na:Nat→Prop} {l:Letting} {vS vA:AV} {s:St} {r:ARes} (hr:call Try.prog X N (.fn 18) [.agg (letV vS vA)] s=r) (hN:16≤N) (ok:l.Ok) (hL:LetAt no na s.h s.n l vS vA) (hs:s.n+4000000≤far) :
  ∃ v t hs,r=.val (.tup [v,.int .i64 0]) t∧New s t 2200000∧Sl (fun x=>s.n≤x) t.h t.n 1 (intRows hs) v∧hs.length=l.stalls.length∧(mktOf l).Inv (holdF hs) []:=by
 obtain ⟨M,rfl⟩:∃ M,N=M+5:=⟨N - 5,by omega⟩
 have hf:far=1000000000:=rfl
 obtain ⟨v,t,e,st,v',hs,rfl,hq⟩:=call_new (n:=M+4) (args:=[.agg (letV vS vA)]) (s:=s) (k:=2200000) (Q:=fun v h n=>∃ v' hs,v=.tup [v',.int .i64 0]∧Sl (fun x=>s.n≤x) h n 1 (intRows hs) v'∧hs.length=l.stalls.length∧(mktOf l).Inv (holdF hs) []) Try.func18 rfl (fun u uh un um=>by
  rw [← uh,← un] at hL
  rw [← un]
  have k0:=ok.k0
  have k1:=ok.k1
  have m1:=ok.m1
  have kA:=hL.okV
  have kS:=hL.okS
  have lS:=hL.lenS
  have z0:decide ((0:Int)=0)=true:=rfl
  obtain ⟨w0,hw0⟩:∃ w:St,w=u.new (.cells [vS,vA] (tag 28)):=⟨_,rfl⟩
  have w0n:w0.n=u.n+1:=by rw [hw0];rfl
  have w0m:w0.m=far:=by rw [hw0];exact um
  have w0g:∀ c,c<u.n→w0.h.get c=u.h.get c:=fun c hc=>by rw [hw0,get_new_ne _ _ _ (by omega)]
  have w00:w0.h.get u.n=some (.cells [vS,vA] (tag 28)):=by rw [hw0];exact get_new_eq _ _ _ rfl (by omega)
  have hM:=hL.grow w0g (by omega:u.n≤w0.n)
  have c1:=check_ok (M+4) (by omega) l ok vS vA w0 hM (by omega)
  rw [enter18]
  simp (disch:=first|omega|(with_unfolding_all exact rfl)|(simp only[new_n,put_n,new_m];omega)|(refine put_m_le ?_;simp only[new_m];omega)) only [K18,K18r0,Abs.W,reduceIte,Nat.reduceEqDiff,Nat.reduceAdd,decide_true,decide_false,kLoop_def,Nat.reduceSub,List.cons_append,List.nil_append,List.append_nil,List.length_cons,List.length_nil]
  rw [← hw0]
  simp (disch:=first|omega|(with_unfolding_all exact rfl)|(simp only[new_n,put_n,new_m];omega)|(refine put_m_le ?_;simp only[new_m];omega)) only [K18r1,K18r2,K18r4,Abs.W,reduceIte,Nat.reduceEqDiff,Nat.reduceAdd,decide_true,decide_false,kLoop_def,Nat.reduceSub,List.cons_append,List.nil_append,List.append_nil,List.length_cons,List.length_nil,Env.find_set,w00,c1,z0,kA,kS,Nat.zero_add]
  generalize hc:call _ _ _ (.fn 39) _ _=rc
  obtain ⟨vr,t1,bm,rfl,s1,hR,hbm⟩:=rank_ex hc (by omega) ok hM (by omega)
  have s1n:=s1.n
  have s1l:=s1.le
  have s1m:=s1.m
  obtain ⟨hv,hbm2⟩:=hR.slice (by omega)
  subst hv
  have t1g:∀ c,c<u.n→t1.h.get c=u.h.get c:=fun c hc=>(s1.same c (by omega)).trans (w0g c hc)
  have t10:=(s1.same u.n (by omega)).trans w00
  simp (disch:=first|omega|(with_unfolding_all exact rfl)|(simp only[new_n,put_n,new_m];omega)|(refine put_m_le ?_;simp only[new_m];omega)) only [Abs.W,reduceIte,Nat.reduceEqDiff,Nat.reduceAdd,decide_true,decide_false,kLoop_def,Nat.reduceSub,List.cons_append,List.nil_append,List.append_nil,List.length_cons,List.length_nil,Env.find_set,Nat.zero_add]
  generalize hy:St.put _ _ _=y
  have yn:y.n=t1.n+1:=by rw [← hy,put_n,new_n]
  have yg:∀ c,c<t1.n→y.h.get c=t1.h.get c:=fun c hc=>by rw [← hy,get_put_ne' _ _ _ _ (by omega),get_new_ne _ _ _ (by omega)]
  have yp:∃ z5,y.h.get t1.n=some (.cells [.slice bm 0 l.stalls.length l.stalls.length true] z5):=⟨_,by rw [← hy];exact get_put_eq _ _ _ _ rfl (by omega)⟩
  have ym:y.m=min t1.m t1.n:=by rw [← hy];simp only [St.put,minN_eq,new_m]
  obtain ⟨z5,yp⟩:=yp
  have y0:=(yg u.n (by omega)).trans t10
  obtain ⟨x,hx⟩:∃ x:St,x=y.new (.cells [.int .i64 (-1)] 0):=⟨_,rfl⟩
  have xn:x.n=y.n+1:=by rw [hx];rfl
  have xm:x.m=y.m:=by rw [hx];rfl
  have xg:∀ c,c<y.n→x.h.get c=y.h.get c:=fun c hc=>by rw [hx,get_new_ne _ _ _ (by omega)]
  have xp:x.h.get y.n=some (.cells [.int .i64 (-1)] 0):=by rw [hx];exact get_new_eq _ _ _ rfl (by omega)
  have x0:=(xg u.n (by omega)).trans y0
  simp (disch:=first|omega|(with_unfolding_all exact rfl)|(simp only[new_n,put_n,new_m];omega)|(refine put_m_le ?_;simp only[new_m];omega)) only [K18r5,Abs.W,reduceIte,Nat.reduceEqDiff,Nat.reduceAdd,decide_true,decide_false,kLoop_def,Nat.reduceSub,List.cons_append,List.nil_append,List.append_nil,List.length_cons,List.length_nil,Env.find_set,Nat.zero_add]
  rw [← hx]
  simp (disch:=first|omega|(with_unfolding_all exact rfl)|(simp only[new_n,put_n,new_m];omega)|(refine put_m_le ?_;simp only[new_m];omega)) only [Abs.W,reduceIte,Nat.reduceEqDiff,Nat.reduceAdd,decide_true,decide_false,kLoop_def,Nat.reduceSub,List.cons_append,List.nil_append,List.append_nil,List.length_cons,List.length_nil,Env.find_set,x0,y0,kS,lS,Nat.zero_add]
  generalize hc2:call _ _ _ (.fn 40) _ _=rc
  obtain ⟨t2,rfl,s2,t2n,t2g⟩:=repeat_ex hc2 (by omega) k0 k1 xp (by omega) (by omega)
  have s2m:=s2.m
  simp (disch:=first|omega|(with_unfolding_all exact rfl)|(simp only[new_n,put_n,new_m];omega)|(refine put_m_le ?_;simp only[new_m];omega)) only [Abs.W,reduceIte,Nat.reduceEqDiff,Nat.reduceAdd,decide_true,decide_false,kLoop_def,Nat.reduceSub,List.cons_append,List.nil_append,List.append_nil,List.length_cons,List.length_nil,Env.find_set,Nat.zero_add]
  generalize hy3:St.put _ _ _=y3
  have y3n:y3.n=t2.n+1:=by rw [← hy3,put_n,new_n]
  have y3g:∀ c,c<t2.n→y3.h.get c=t2.h.get c:=fun c hc=>by rw [← hy3,get_put_ne' _ _ _ _ (by omega),get_new_ne _ _ _ (by omega)]
  have y3p:∃ z6,y3.h.get t2.n=some (.cells [.slice x.n 0 l.stalls.length l.stalls.length false] z6):=⟨_,by rw [← hy3];exact get_put_eq _ _ _ _ rfl (by omega)⟩
  have y3m:y3.m=min t2.m t2.n:=by rw [← hy3];simp only [St.put,minN_eq,new_m]
  obtain ⟨z6,y3p⟩:=y3p
  have b3:∀ c,c<x.n→y3.h.get c=x.h.get c:=fun c hc=>(y3g c (by omega)).trans (s2.same c hc)
  have y30:=(b3 u.n (by omega)).trans x0
  have hL3:=hL.grow (h':=y3.h) (n':=y3.n) (fun c hc=>(b3 c (by omega)).trans ((xg c (by omega)).trans ((yg c (by omega)).trans (t1g c hc)))) (by omega)
  simp (disch:=first|omega|(with_unfolding_all exact rfl)|(simp only[new_n,put_n,new_m];omega)|(refine put_m_le ?_;simp only[new_m];omega)) only [K18r6,Abs.W,reduceIte,Nat.reduceEqDiff,Nat.reduceAdd,decide_true,decide_false,kLoop_def,Nat.reduceSub,List.cons_append,List.nil_append,List.append_nil,List.length_cons,List.length_nil,Env.find_set,y30,kS,kA,Nat.zero_add]
  generalize hc3:call _ _ _ (.fn 41) _ _=rc
  obtain ⟨t3,rfl,s3,t3n,t3g⟩:=everybody_ex hc3 (by omega) ok hL3 (by omega)
  have s3m:=s3.m
  simp (disch:=first|omega|(with_unfolding_all exact rfl)|(simp only[new_n,put_n,new_m];omega)|(refine put_m_le ?_;simp only[new_m];omega)) only [Abs.W,reduceIte,Nat.reduceEqDiff,Nat.reduceAdd,decide_true,decide_false,kLoop_def,Nat.reduceSub,List.cons_append,List.nil_append,List.append_nil,List.length_cons,List.length_nil,Env.find_set,Nat.zero_add]
  generalize hw:St.put _ _ _=w
  have wn:w.n=t3.n+1:=by rw [← hw,put_n,new_n]
  have wg:∀ c,c<t3.n→w.h.get c=t3.h.get c:=fun c hc=>by rw [← hw,get_put_ne' _ _ _ _ (by omega),get_new_ne _ _ _ (by omega)]
  have wp:∃ z7,w.h.get t3.n=some (.cells [.slice (y3.n+1) 0 l.appls.length l.appls.length false] z7):=⟨_,by rw [← hw];exact get_put_eq _ _ _ _ rfl (by omega)⟩
  have wm:w.m=min t3.m t3.n:=by rw [← hw];simp only [St.put,minN_eq,new_m]
  obtain ⟨z7,wp⟩:=wp
  have b2:∀ c,c<y3.n→w.h.get c=y3.h.get c:=fun c hc=>(wg c (by omega)).trans (s3.same c hc)
  have b1:∀ c,c<x.n→w.h.get c=x.h.get c:=fun c hc=>(b2 c (by omega)).trans (b3 c hc)
  have b0:∀ c,c<t1.n→w.h.get c=t1.h.get c:=fun c hc=>(b1 c (by omega)).trans ((xg c (by omega)).trans (yg c hc))
  have hB:OfferB (fun y=>no y∧y<u.n) (fun y=>na y∧y<u.n) w u.n t1.n bm t1.n x.n t2.n (y3.n+1) t3.n z5 z6 l vS vA (.slice bm 0 l.stalls.length l.stalls.length true) :=
   ⟨(b0 u.n (by omega)).trans t10,hL.bound.move (fun b h1 h2=>⟨(b0 b (by omega)).trans (t1g b h1),h2⟩) (fun b h1 h2=>⟨(b0 b (by omega)).trans (t1g b h1),h2⟩) (Nat.le_refl _),(b1 t1.n (by omega)).trans ((xg t1.n (by omega)).trans yp),(hR.move (fun _=>by omega) (fun c h1 _=>b0 c h1) (Nat.le_refl _)).weak (by omega),fun _=>by omega,(b2 t2.n (by omega)).trans y3p,by omega,Nat.le_refl _,by omega,by omega,by omega,by omega,by omega⟩
  have hh0:w.h.get x.n=some (.cells (hcell (List.replicate l.stalls.length (-1))) 0):=by
   rw [b2 x.n (by omega),y3g x.n (by omega),t2g,repA_hcell]
  have hq0:QAt w.h w.n (y3.n+1) (List.range l.appls.length) (.slice (y3.n+1) 0 l.appls.length l.appls.length false):=by
   refine ⟨by omega,0,_,0,(wg (y3.n+1) (by omega)).trans t3g,.inl ⟨by rw [List.length_range],?_⟩⟩
   have:=cut1_all (arr (List.range l.appls.length))
   rw [arr_len] at this
   rw [cut_zero]
   exact this
  have hms:(mktOf l).meas (holdF (List.replicate l.stalls.length (-1))) (List.range l.appls.length)≤72:=by
   rw [holdF_none]
   refine Nat.le_trans (Mkt.meas_start (m:=mktOf l)) ?_
   show l.stalls.length * l.appls.length+l.appls.length≤72
   have:=Nat.mul_le_mul k1 m1
   omega
  generalize hlp:loopN _ rounds _ _ _ _ _=rl
  obtain ⟨e,L1,d1,s',rfl,rfl,hs,J,I,f6⟩:=loop_d hlp (fun i L d t=>∃ hs q,OfferJ w t u.n x.n (y3.n+1) t3.n 0 z7 l hs q d (30000 * i)∧(mktOf l).Inv (holdF hs) q∧i+(mktOf l).meas (holdF hs) q≤72∧L.find 1=.ptr u.n 0∧L.find 5=.ptr t1.n 0∧L.find 6=.ptr t2.n 0∧L.find 7=.ptr t3.n 0)
   (fun e L d t=>e=.exit 0∧∃ hs,OfferJ w t u.n x.n (y3.n+1) t3.n 0 z7 l hs [] d (30000 * 72)∧(mktOf l).Inv (holdF hs) []∧L.find 6=.ptr t2.n 0) 72 (by unfold rounds;omega)
   ⟨List.replicate l.stalls.length (-1),List.range l.appls.length,⟨hh0,List.length_replicate,⟨_,_,wp,hq0,.inl rfl⟩,fun _ _ _ _ _=>rfl,Nat.le_refl _,by omega,by omega,by omega,fun c h=>(by cases h),List.nodup_nil⟩,by rw [holdF_none];exact Mkt.Inv.start (mktOf_ok ok),by omega,by simp only [find_cons,reduceIte,Nat.reduceEqDiff],by simp only [find_cons,reduceIte,Nat.reduceEqDiff],by simp only [find_cons,reduceIte,Nat.reduceEqDiff],by simp only [find_cons,reduceIte,Nat.reduceEqDiff]⟩
   (fun i L d t hi ⟨hs,q,J,I,hm,f1,f5,f6,f7⟩=>by
    cases q with
    | nil =>
     obtain ⟨gh,hk,⟨vq,b,gw,hQ,hb⟩,same,jn,jle,jm,jml,dd,dn⟩:=J
     have kq:=hQ.okA
     have lq:=hQ.len
     have e0:decide ((0:Int)<((0:Nat):Int))=false:=by simp
     refine .inr ⟨.exit 0,L.set 27 (.bool false),d,t,by simp,?_,rfl,hs,⟨gh,hk,⟨vq,b,gw,hQ,hb⟩,same,jn,by omega,jm,jml,dd,dn⟩,I,?_⟩
     ·simp (disch:=first|omega|(with_unfolding_all exact rfl)|(simp only[new_n,put_n,new_m];omega)|(refine put_m_le ?_;simp only[new_m];omega)) only [K18l0,K18r7,Abs.W,reduceIte,Nat.reduceEqDiff,Nat.reduceAdd,decide_true,decide_false,kLoop_def,Nat.reduceSub,List.cons_append,List.nil_append,List.append_nil,List.length_cons,List.length_nil,Env.find_set,f7,gw,kq,lq,e0,Nat.zero_add]
     ·simp only [Env.find_set,f6,reduceIte,Nat.reduceEqDiff]
    | cons a r =>
     have hr:r.length≤90:=by
      have:(a::r).length≤(mktOf l).meas (holdF hs) (a::r):=Nat.le_add_left _ _
      rw [List.length_cons] at this
      omega
     obtain ⟨L1,d1,t1',hs1,q1,e1,J1,I1,hm1,g1,g5,g6,g7⟩:=offer_round M (by omega) ok hB J I hr f1 f5 f6 f7 (by omega)
     exact .inl ⟨by omega,L1,d1,t1',e1,hs1,q1,by rw [Nat.mul_succ];exact J1,I1,by omega,g1,g5,g6,g7⟩)
  obtain ⟨gh,hk,_,same,jn,jle,jm,jml,dd,dn⟩:=J
  obtain ⟨s'',ed,d0,d1n,d2,d3⟩:=take_dfrs dn (fun c hc=>(dd c hc).2.2)
  have g6:=(same t2.n (by omega) (by omega) (by omega) (by omega)).trans ((b2 t2.n (by omega)).trans y3p)
  simp (disch:=first|omega|(with_unfolding_all exact rfl)|(simp only[new_n,put_n,new_m];omega)|(refine put_m_le ?_;simp only[new_m];omega)) only [K18r11,res18,Abs.W,reduceIte,Nat.reduceEqDiff,Nat.reduceAdd,decide_true,decide_false,kLoop_def,Nat.reduceSub,List.cons_append,List.nil_append,List.append_nil,List.length_cons,List.length_nil,Env.find_set,f6,g6,Nat.zero_add]
  rw [leave_dfrs ed]
  have dl:∀ c ∈ d1,w.n≤c:=fun c hc=>(dd c hc).1
  have hsm:=d2 u.n jm (fun c hc=>by have:=dl c hc;omega)
  have lv:leaveA Try.prog [.tmp 2,.tmp 3] (Env.set 3 (.int .i64 0) (Env.set 2 (.slice x.n 0 l.stalls.length l.stalls.length false) L1)) [] s''=.val (.tup [.slice x.n 0 l.stalls.length l.stalls.length false,.int .i64 0]) s'':=by
   have e2:(Env.set 3 (.int .i64 0) (Env.set 2 (.slice x.n 0 l.stalls.length l.stalls.length false) L1)).find 2=.slice x.n 0 l.stalls.length l.stalls.length false:=by simp only [Env.find_set,reduceIte,Nat.reduceEqDiff]
   have e3:(Env.set 3 (.int .i64 0) (Env.set 2 (.slice x.n 0 l.stalls.length l.stalls.length false) L1)).find 3=.int .i64 0:=by simp only [Env.find_set,reduceIte,Nat.reduceEqDiff]
   show ARes.val (oneA [Env.find 2 _,Env.find 3 _]) s''=_
   rw [e2,e3]
   rfl
  rw [lv]
  refine ⟨_,_,rfl,⟨fun c hc=>?_,by omega,by omega,hsm,by omega⟩,rfl,_,hs,rfl,⟨hcell_wide hs,.inr ⟨x.n,0,l.stalls.length,false,_,0,by omega,by omega,⟨by unfold intRows;rw [List.length_map];omega,fun h=>(by cases h)⟩,?_,(d0 x.n (fun h=>by have:=dl _ h;omega)).trans gh,?_⟩⟩,hk,I⟩
  ·rw [d0 c (fun h=>by have:=dl _ h;omega),same c (by omega) (by omega) (by omega) (by omega),b0 c (by omega)]
   exact t1g c hc
  ·have:(intRows hs).length=l.stalls.length:=by unfold intRows;rw [List.length_map];exact hk
   rw [this]
  ·rw [cut_zero,← flatten_len (hcell_wide hs)]
   exact cut1_all (hcell hs))
 exact ⟨v',t,hs,hr.symm.trans e,st,hq⟩
end Go.Proofs.Ytbcjojljiochfaa.walk
set_option maxRecDepth 10000
namespace Go.Proofs.Ytbcjojljiochfaa.walk
open Go.Abs Go.Proofs.Ytbcjojljiochfaa.code
theorem Inv_valid {l:Letting} (ok:l.Ok) {hs:List Int} (hl:hs.length=l.stalls.length) (I:(mktOf l).Inv (holdF hs) []):ValidH l hs:=by
 have e:∀ s (h:s<hs.length),holdF hs s=hs[s]:=fun s h=>by unfold holdF;simp [List.getD,h]
 refine ⟨hl,fun s h=>?_,fun s t h h' he hn=>?_⟩
 ·rcases I.form s with h0 | ⟨a,h0⟩
  ·exact .inl (by rw [← e s h];exact h0)
  ·obtain ⟨q1,q2⟩:=I.hold s a h0
   exact .inr ⟨a,by rw [← e s h];exact h0,q1,(canI_iff ok q1).mpr q2⟩
 ·rcases I.form s with h0 | ⟨a,h0⟩
  ·exact absurd (by rw [← e s h];exact h0) hn
  ·exact I.inj s t a h0 (by rw [e t h',← he,← e s h];exact h0)
theorem noenvy_round (M:Nat) (hM:1≤M) {no na nh:Nat→Prop} {w t:St} {u0 nr bm pr z5 kk i bE:Nat} {l:Letting} {vS vA vr vH vE:AV} {hs:List Int} {d:List Nat} {L:Env} (ok:l.Ok) (hi:i<l.appls.length) (hl:hs.length=l.stalls.length) (I:(mktOf l).Inv (holdF hs) [])
  (box:w.h.get u0=some (.cells [vS,vA] (tag 28))) (boxH:w.h.get (u0+1)=some (.cells [vH] (tag 22))) (hL:LetAt no na w.h u0 l vS vA) (hH:Sl nh w.h w.n 1 (intRows hs) vH) (g5:w.h.get pr=some (.cells [vr] z5)) (rk:RkS w.h nr bm (u0+2) l l.stalls.length vr) (rb:bm<nr→u0+2≤bm) (o1:nr≤pr) (o2:pr<w.n) (o0:u0+1<pr)
  (ixE:∀ s,ixsA 1 s vE (.int .i64 (i:Int))=.val (.ptr bE i) s) (gE:∃ c z,w.h.get bE=some (.cells c z)∧nth c i=.int .i64 (i:Int)) (hbE:bE<w.n)
  (same:∀ c,c<w.n→t.h.get c=w.h.get c) (jn:w.n≤t.n) (jle:t.n≤w.n+kk) (jm:u0≤t.m) (jml:t.m≤far) (dd:∀ c ∈ d,w.n≤c∧c<t.n∧t.h.get c=some .dfr) (dn:d.Nodup) (hs':w.n+kk+100000≤far)
  (f2:L.find 2=.ptr u0 0) (f3:L.find 3=.ptr (u0+1) 0) (f7:L.find 7=.ptr pr 0) (f8:L.find 8=.nilslice) (f24:L.find 24=vE) (f25:L.find 25=.int .i64 (l.appls.length:Int)) (f26:L.find 26=.int .i64 (i:Nat)) :
  ∃ L1 d1 t1,K20l1 (call Try.prog X (M+4)) ⟨20,none,Try.f20.ntmps,X 20⟩ L d t=.done .norm L1 d1 t1∧(∀ c,c<w.n→t1.h.get c=w.h.get c)∧w.n≤t1.n∧t1.n≤w.n+(kk+30000)∧u0≤t1.m∧t1.m≤far∧(∀ c ∈ d1,w.n≤c∧c<t1.n∧t1.h.get c=some .dfr)∧d1.Nodup∧L1.find 26=.int .i64 (i+1:Nat)∧∀ c,c<26→c ∈ [2,3,7,8,24,25]→L1.find c=L.find c:=by
 have hf:far=1000000000:=rfl
 obtain ⟨cE,zE,gE,nE⟩:=gE
 have kS:=hL.okS
 have kA:=hL.okV
 have kH:=hH.okA
 have m1:=ok.m1
 have e0:decide ((i:Int)<(l.appls.length:Int))=true:=decide_eq_true (by omega)
 have tE:=(same bE hbE).trans gE
 have t0:=(same u0 (by omega)).trans box
 obtain ⟨y1,hy1⟩:∃ y1:St,y1=((t.new (.cells [.int .i64 0] (tag 3))).put t.n (.cells [.int .i64 (i:Int)] (tag 3))).new (.cells [.nilslice] (tag 22)):=⟨_,rfl⟩
 have y1n:y1.n=t.n+2:=by rw [hy1];rfl
 have y1m:y1.m=min t.m t.n:=by rw [hy1,new_m];simp only [St.put,minN_eq,new_m]
 have y1g:∀ c,c<t.n→y1.h.get c=t.h.get c:=fun c hc=>by rw [hy1,get_new_ne _ _ _ (by simp only [put_n,new_n];omega),get_put_ne' _ _ _ _ (by omega),get_new_ne _ _ _ (by omega)]
 have y1p:y1.h.get t.n=some (.cells [.int .i64 (i:Int)] (tag 3)):=by rw [hy1,get_new_ne _ _ _ (by simp only [put_n,new_n];omega)];exact get_put_eq _ _ _ _ rfl (by omega)
 have y1q:y1.h.get (t.n+1)=some (.cells [.nilslice] (tag 22)):=by rw [hy1];exact get_new_eq _ _ _ (by simp only [put_n,new_n]) (by simp only [put_n,new_n];omega)
 have re:=reach_ok (M+4) (by omega) [vS,vA] (i:Int) y1 (by omega)
 obtain ⟨s0,hs0⟩:∃ s0:St,s0=(y1.new (.cells [vS,vA] (tag 28))).new (.cells [.int .i64 (i:Int)] (tag 3)):=⟨_,rfl⟩
 have s0n:s0.n=t.n+4:=by rw [hs0];show y1.n+1+1=_;omega
 have s0m:s0.m=y1.m:=by rw [hs0];rfl
 have s0g:∀ c,c<y1.n→s0.h.get c=y1.h.get c:=fun c hc=>by rw [hs0,get_new_ne _ _ _ (by rw [new_n];omega),get_new_ne _ _ _ (by omega)]
 have s00:s0.h.get (t.n+2)=some (.cells [vS,vA] (tag 28)):=by rw [hs0,get_new_ne _ _ _ (by rw [new_n];omega)];exact get_new_eq _ _ _ (by omega) (by omega)
 have s01:s0.h.get (t.n+3)=some (.cells [.int .i64 (i:Int)] (tag 3)):=by rw [hs0];exact get_new_eq _ _ _ (by rw [new_n];omega) (by rw [new_n];omega)
 rw [← hs0,y1n] at re
 have s0w:∀ c,c<w.n→s0.h.get c=w.h.get c:=fun c hc=>(s0g c (by omega)).trans ((y1g c (by omega)).trans (same c hc))
 have s0p:=(s0g t.n (by omega)).trans y1p
 have s0q:=(s0g (t.n+1) (by omega)).trans y1q
 have y10:=(y1g u0 (by omega)).trans t0
 simp (disch:=first|omega|(with_unfolding_all exact rfl)|(simp only[new_n,put_n,new_m];omega)|(refine put_m_le ?_;simp only[new_m];omega)) only [K20l1,K20r7,K20r8,K20r9,Abs.W,reduceIte,Nat.reduceEqDiff,Nat.reduceAdd,decide_true,decide_false,kLoop_def,Nat.reduceSub,List.cons_append,List.nil_append,List.append_nil,List.length_cons,List.length_nil,Env.find_set,f2,f24,f25,f26,e0,ixE,tE,nE,put_n,new_n,Nat.zero_add]
 rw [← hy1]
 simp (disch:=first|omega|(with_unfolding_all exact rfl)|(simp only[new_n,put_n,new_m];omega)|(refine put_m_le ?_;simp only[new_m];omega)) only [K20r10,Abs.W,reduceIte,Nat.reduceEqDiff,Nat.reduceAdd,decide_true,decide_false,kLoop_def,Nat.reduceSub,List.cons_append,List.nil_append,List.append_nil,List.length_cons,List.length_nil,Env.find_set,f2,y10,y1p,kS,kA,re,Nat.zero_add]
 obtain ⟨L0,hL0⟩:∃ L0,L0=Env.set 32 (.func 56 [] [.ptr (t.n+2) 0,.ptr (t.n+2+1) 0]) (Env.set 11 (.ptr (t.n+1) 0) (Env.set 10 (.ptr t.n 0) (Env.set 27 (.bool true) L))):=⟨_,rfl⟩
 rw [← hL0]
 have kL:∀ c,c<27→c≠10→c≠11→L0.find c=L.find c:=fun c h1 h2 h3=>by
  rw [hL0]
  simp only [Env.find_set]
  repeat rw [if_neg (by omega)]
 have k10:L0.find 10=.ptr t.n 0:=by rw [hL0];simp only [Env.find_set,reduceIte,Nat.reduceEqDiff]
 have k11:L0.find 11=.ptr (t.n+1) 0:=by rw [hL0];simp only [Env.find_set,reduceIte,Nat.reduceEqDiff]
 have k32:L0.find 32=.func 56 [] [.ptr (t.n+2) 0,.ptr (t.n+3) 0]:=by rw [hL0];simp only [Env.find_set,reduceIte,Nat.reduceEqDiff]
 clear hL0 re
 have k3:=(kL 3 (by omega) (by omega) (by omega)).trans f3
 have k7:=(kL 7 (by omega) (by omega) (by omega)).trans f7
 have hLb:=hL.bound.move (h':=s0.h) (n':=u0) (no':=fun y=>no y∧y<u0) (na':=fun y=>na y∧y<u0) (fun b h1 h2=>⟨s0w b (by omega),h2⟩) (fun b h1 h2=>⟨s0w b (by omega),h2⟩) (Nat.le_refl _)
 have hh:=reach1_hands (N:=M+1) (p1:=t.n+2) (p2:=t.n+3) (H:=s0.h) (rd:=fun y=>y=t.n+2∨y=t.n+3∨(no y∧y<u0)∨(na y∧y<u0)) ok hLb hi s00 s01 (.inl rfl) (.inr (.inl rfl)) (fun y h=>.inr (.inr (.inl h))) (fun y h=>.inr (.inr (.inr h)))
 have rl:∀ y,(y=t.n+2∨y=t.n+3∨(no y∧y<u0)∨(na y∧y<u0))→y=t.n+2∨y=t.n+3∨y<u0:=fun y h=>by
  rcases h with h | h | h | h
  ·exact .inl h
  ·exact .inr (.inl h)
  ·exact .inr (.inr h.2)
  ·exact .inr (.inr h.2)
 have hTm:∀ x ∈ reachOf l.stalls l.appls[i],∃ st:Nat,x.1=st∧st<l.stalls.length∧i ∈ ableL l st:=fun x hx=>by
  rw [← applAt_of hi] at hx
  obtain ⟨st,h1,h2,_⟩:=reach_mem ok hi hx
  refine ⟨st,h1,h2,(able_iff ok hi).mpr (List.mem_map.mpr ⟨x,hx,by rw [h1];exact Int.toNat_natCast st⟩)⟩
 have hRT:(mktOf l).R i=(reachOf l.stalls l.appls[i]).map fun x=>x.1.toNat:=by rw [← applAt_of hi];rfl
 have ndR:=(mktOf_ok ok).nd i hi
 generalize reachOf l.stalls l.appls[i]=T at hh hTm hRT
 have k1:=ok.k1
 obtain ⟨e,s',e1,hE,e3,e4,e5,e6,e7,e8⟩:=hands_range (P:=Try.prog) (X:=X) (M:=M) (Z:=M+4) hh (f:=.tmp 32) (ps:=[33,34]) (c:=⟨20,none,Try.f20.ntmps,X 20⟩) (L:=L0) (d:=d) (s:=s0) rfl (by rw [ev_tmp,k32]) (fun _=>rfl) code20a0 code20b0 10 u0 300 (fun _=>False) (fun _ _=>True) (fun _ _ _ _ _=>trivial) (fun _=>trivial)
  (fun p h n=>∀ x ∈ p,holdF hs x.1.toNat≠i) (fun e p x kx h n=>e=.exit 2)
  (fun y hy=>⟨by have:=rl y hy;omega,rfl⟩) (fun y hy=>hy.elim) (by omega) (by omega) (by omega) (by omega) (fun x hx=>(by cases hx)) (fun p h h' n n' _ _ hp=>hp) (fun e p x kx h h' n n' _ _ hp=>hp)
  (fun p x rest t' ht hp hfr htn htf htm htm' _=>by
   have hmem:x ∈ T:=by rw [← ht];simp
   obtain ⟨st,x1,x2,x3⟩:=hTm x hmem
   obtain ⟨xs,xb⟩:=x
   simp only at x1
   subst x1
   have etn:((st:Int),xb).1.toNat=st:=Int.toNat_natCast st
   have hass:K20a0 (call Try.prog X M) ⟨20,some (s0.n+1),Try.f20.ntmps,X 20⟩ (setParams L0 [33,34] (ev2 ((st:Int),xb))) [] t'=.done .norm (((L0.set 33 (.int .i64 (st:Int))).set 34 (.int .i64 xb)).set 12 (.int .i64 (st:Int))) [] t':=by
    simp (disch:=first|omega|(with_unfolding_all exact rfl)|(simp only[new_n,put_n,new_m];omega)|(refine put_m_le ?_;simp only[new_m];omega)) only [K20a0,K20a0r0,ev2,setParams2,Abs.W,reduceIte,Nat.reduceEqDiff,Nat.reduceAdd,decide_true,decide_false,kLoop_def,Nat.reduceSub,List.cons_append,List.nil_append,List.append_nil,List.length_cons,List.length_nil,Env.find_set,Nat.reduceEqDiff]
   obtain ⟨L1,hL1⟩:∃ L1,L1=(((L0.set 33 (.int .i64 (st:Int))).set 34 (.int .i64 xb)).set 12 (.int .i64 (st:Int))):=⟨_,rfl⟩
   rw [← hL1] at hass
   have l3:L1.find 3=.ptr (u0+1) 0:=by rw [hL1];simp only [Env.find_set,k3,reduceIte,Nat.reduceEqDiff]
   have l7:L1.find 7=.ptr pr 0:=by rw [hL1];simp only [Env.find_set,k7,reduceIte,Nat.reduceEqDiff]
   have l10:L1.find 10=.ptr t.n 0:=by rw [hL1];simp only [Env.find_set,k10,reduceIte,Nat.reduceEqDiff]
   have l12:L1.find 12=.int .i64 (st:Int):=by rw [hL1];simp only [Env.find_set,reduceIte,Nat.reduceEqDiff]
   clear hL1
   have tw:∀ c,c<w.n→t'.h.get c=w.h.get c:=fun c h1=>(hfr c (by omega) (fun h=>h)).trans (s0w c h1)
   obtain ⟨z,hz⟩:∃ z:St,z=t'.put (s0.n+1) (.loop { loopO ⟨20,none,Try.f20.ntmps,X 20⟩ L0 [33,34] (rangeAt Try.f20 0).1 (rangeAt Try.f20 0).2 s0 with state:=.busy }):=⟨_,rfl⟩
   have zn:z.n=t'.n:=by rw [hz];rfl
   have zm:z.m=min t'.m (s0.n+1):=by rw [hz];simp only [St.put,minN_eq]
   have zg:∀ c,c≠s0.n+1→z.h.get c=t'.h.get c:=fun c hc=>by rw [hz,get_put_ne' _ _ _ _ hc]
   have zl:z.h.get (s0.n+1)=some (.loop { loopO ⟨20,none,Try.f20.ntmps,X 20⟩ L0 [33,34] (rangeAt Try.f20 0).1 (rangeAt Try.f20 0).2 s0 with state:=.busy }):=by rw [hz];exact get_put_eq _ _ _ _ rfl (by omega)
   have zw:∀ c,c<w.n→z.h.get c=w.h.get c:=fun c hc=>(zg c (by omega)).trans (tw c hc)
   have z1:=(zw (u0+1) (by omega)).trans boxH
   have z7:=(zw pr o2).trans g5
   have z10:=(zg t.n (by omega)).trans ((hfr t.n (by omega) (fun h=>h)).trans s0p)
   have hHz:=hH.grow zw (by omega:w.n≤z.n)
   obtain ⟨bh,ph,ch,zh,r1,r2,r3,r4⟩:=rowInt hHz.at_ (show st<hs.length by omega)
   have hRz:RkS z.h z.n bm (u0+2) l l.stalls.length vr:=rk.move rb (fun c h1 _=>zw c (by omega)) (by omega)
   have kr:=hRz.okA
   have eh:hs[st]=holdF hs st:=by unfold holdF;simp [List.getD,show st<hs.length by omega]
   refine ⟨L1,t',?_⟩
   rw [hass,← hz]
   by_cases he:hs[st]=(i:Int)
   ·have d1:decide (hs[st]=(i:Int))=true:=decide_eq_true he
    simp (disch:=first|omega|(with_unfolding_all exact rfl)|(simp only[new_n,put_n,new_m];omega)|(refine put_m_le ?_;simp only[new_m];omega)) only [K20b0,K20b0r0,Abs.W,reduceIte,Nat.reduceEqDiff,Nat.reduceAdd,decide_true,decide_false,kLoop_def,Nat.reduceSub,List.cons_append,List.nil_append,List.append_nil,List.length_cons,List.length_nil,blkR_pass,Env.find_set,l3,l7,l10,l12,z1,z7,z10,kH,r2,r3,r4,d1,Nat.zero_add]
    exact ⟨.exit 2,_,_,trivial,trivial,rfl,fun h=>(by cases h),fun _=>rfl,zl,fun c h1 h2 _=>zg c h2,by omega,by omega,by omega,by omega,trivial⟩
   ·have d1:decide (hs[st]=(i:Int))=false:=decide_eq_false he
    have held:Held l st hs[st]:=by
     rw [eh]
     rcases I.form st with h | ⟨c,h⟩
     ·exact .inl h
     ·obtain ⟨q1,q2⟩:=I.hold st c h
      exact .inr ⟨c,h,(able_iff ok q1).mpr q2⟩
    have bo:=better_ok M hM hRz x2 x3 held (by omega)
    have nb:betterB l st i hs[st]=false:=by
     have hsR:st ∈ (mktOf l).R i:=by rw [hRT];exact List.mem_map.mpr ⟨_,hmem,etn⟩
     cases hb:betterB l st i hs[st] with
     | false=>rfl
     | true =>
      exfalso
      have hb':=(betterB_iff l st i _).mp hb
      rw [eh] at hb'
      rcases I.stab i hi (by simp) st hsR with ⟨q,h1,h2⟩ | h1
      ·have hq:=(I.hold q i h1).2
       have hR2:(mktOf l).R i=p.map (fun x=>x.1.toNat)++st::rest.map (fun x=>x.1.toNat):=by
        rw [hRT,← ht,List.map_append,List.map_cons,etn]
       have hsp:st ∉ p.map (fun x=>x.1.toNat):=fun hm=>by
        rw [hR2] at ndR
        exact (List.nodup_append.mp ndR).2.2 st hm st (List.mem_cons_self ..) rfl
       rcases Nat.lt_or_ge ((mktOf l).pos i q) ((mktOf l).pos i st) with h3 | h3
       ·obtain ⟨y,y1,y2⟩:=List.mem_map.mp ((Mkt.pos_app hR2 hsp hq).mpr h3)
        exact hp y y1 (by rw [y2];exact h1)
       ·have:q=st:=Mkt.pos_inj hq hsR (by omega)
        rw [this] at h1
        exact he (by rw [eh];exact h1)
      ·exact h1 hb'
    rw [nb] at bo
    simp (disch:=first|omega|(with_unfolding_all exact rfl)|(simp only[new_n,put_n,new_m];omega)|(refine put_m_le ?_;simp only[new_m];omega)) only [K20b0,K20b0r0,K20b0r1,Abs.W,reduceIte,Nat.reduceEqDiff,Nat.reduceAdd,decide_true,decide_false,kLoop_def,Nat.reduceSub,List.cons_append,List.nil_append,List.append_nil,List.length_cons,List.length_nil,Env.find_set,l3,l7,l10,l12,z1,z7,z10,kH,kr,r2,r3,r4,d1,bo,Nat.zero_add]
    refine ⟨.norm,_,_,trivial,trivial,rfl,fun _=>fun y hy=>?_,fun h=>absurd rfl h,zl,fun c h1 h2 _=>zg c h2,by omega,by omega,by omega,by omega,trivial⟩
    rcases List.mem_append.mp hy with h | h
    ·exact hp y h
    ·rw [List.mem_singleton.mp h,etn,← eh];exact he)
 rw [e1]
 have hex:∃ L1,blkR 2 (R.done e L0 (s0.n::d) s')=.done .norm L1 (s0.n::d) s'∧L1=L0:=by
  rcases hE with ⟨rfl,_,_⟩ | ⟨_,p,x,rest,kx,_,_,rfl,_⟩
  ·exact ⟨L0,by rw [blkR_norm],rfl⟩
  ·exact ⟨L0,by rw [blkR_exit],rfl⟩
 obtain ⟨_,hex,rfl⟩:=hex
 rw [hex]
 have sq:=(e3 (t.n+1) (by omega) (fun h=>h)).trans s0q
 have so:=sortf0O_ex (N:=M+1) (v:=.nilslice) (s:=s') (fun _=>rfl) (by omega)
 have z00:decide ((0:Int)<0)=false:=rfl
 have ad:∀ s,aAdd s .i64 (i:Int) 1=.val (.int .i64 ((i:Int)+1)) s:=fun s=>aAdd_i64 s _ _ (by omega)
 have k26:=(kL 26 (by omega) (by omega) (by omega)).trans f26
 simp (disch:=first|omega|(with_unfolding_all exact rfl)|(simp only[new_n,put_n,new_m];omega)|(refine put_m_le ?_;simp only[new_m];omega)) only [K20r11,K20r12,Abs.W,reduceIte,Nat.reduceEqDiff,Nat.reduceAdd,decide_true,decide_false,kLoop_def,Nat.reduceSub,List.cons_append,List.nil_append,List.append_nil,List.length_cons,List.length_nil,Env.find_set,k11,sq,so]
 rw [show rounds=(rounds - 1)+1 from rfl,loopN_succ]
 simp (disch:=first|omega|(with_unfolding_all exact rfl)|(simp only[new_n,put_n,new_m];omega)|(refine put_m_le ?_;simp only[new_m];omega)) only [K20l0,K20r13,K20r17,Abs.W,reduceIte,Nat.reduceEqDiff,Nat.reduceAdd,decide_true,decide_false,kLoop_def,Nat.reduceSub,List.cons_append,List.nil_append,List.append_nil,List.length_cons,List.length_nil,Env.find_set,z00,k26,ad]
 have ssame:∀ c,c<w.n→s'.h.get c=w.h.get c:=fun c h1=>(e3 c (by omega) (fun h=>h)).trans (s0w c h1)
 have sd:∀ c ∈ s0.n::d,w.n≤c∧c<s'.n∧s'.h.get c=some .dfr:=fun c hc=>by
  rcases List.mem_cons.mp hc with rfl | hc
  ·exact ⟨by omega,by omega,e4⟩
  ·obtain ⟨c1,c2,c3⟩:=dd c hc
   refine ⟨c1,by omega,?_⟩
   rw [e3 c (by omega) (fun h=>h),s0g c (by omega),y1g c c2]
   exact c3
 have snd:(s0.n::d).Nodup:=List.nodup_cons.mpr ⟨fun h=>by have:=(dd _ h).2.1;omega,dn⟩
 have hn2:s'.n≤w.n+(kk+30000):=by
  rw [← Nat.add_assoc]
  omega
 refine ⟨_,s0.n::d,s',rfl,ssame,by omega,hn2,e7,by omega,sd,snd,?_,fun c hc hm=>?_⟩
 ·simp only [Env.find_set,reduceIte,Nat.reduceEqDiff];rfl
 ·simp only [List.mem_cons,List.mem_nil_iff,or_false] at hm
  simp only [Env.find_set]
  repeat rw [if_neg (by omega)]
  exact kL c (by omega) (by omega) (by omega)
end Go.Proofs.Ytbcjojljiochfaa.walk
set_option maxRecDepth 10000
namespace Go.Proofs.Ytbcjojljiochfaa.walk
open Go.Abs Go.Proofs.Ytbcjojljiochfaa.code
theorem noenvies_ex {N:Nat} {no na nh:Nat→Prop} {l:Letting} {vS vA vH:AV} {hs:List Int} {s:St} {r:ARes} (hr:call Try.prog X N (.fn 20) [.agg (letV vS vA),vH] s=r) (hN:16≤N) (ok:l.Ok) (hl:hs.length=l.stalls.length) (I:(mktOf l).Inv (holdF hs) []) (hL:LetAt no na s.h s.n l vS vA) (hH:Sl nh s.h s.n 1 (intRows hs) vH) (hs':s.n+4000000≤far) :
  ∃ t,r=.val (.tup [.nilslice,.int .i64 0]) t∧New s t 300000:=by
 obtain ⟨M,rfl⟩:∃ M,N=M+5:=⟨N - 5,by omega⟩
 have hf:far=1000000000:=rfl
 obtain ⟨v,t,e,st,rfl⟩:=call_new' (n:=M+4) (args:=[.agg (letV vS vA),vH]) (s:=s) (k:=300000) (Q:=fun v h n=>v=.tup [.nilslice,.int .i64 0]) Try.func20 rfl (fun u uh un um=>by
  rw [← uh,← un] at hL hH
  have k0:=ok.k0
  have k1:=ok.k1
  have m1:=ok.m1
  have kA:=hL.okV
  have kS:=hL.okS
  have lS:=hL.lenS
  have z0:decide ((0:Int)=0)=true:=rfl
  have hvH:∃ b o cap e,vH=.slice b o (intRows hs).length cap e:=by
   rcases hH.is with ⟨z,_⟩ | ⟨b,o,cap,e,c,sz,_,_,_,z,_⟩
   ·have:=intRows_len hs
    rw [z] at this;simp at this;omega
   ·exact ⟨b,o,cap,e,z⟩
  obtain ⟨bb,oo,cc,ee,hvH⟩:=hvH
  have bx:∀ s,boxA (tag 22) s vH=.val (.ptr s.n 0) (s.new (.cells [vH] (tag 22))):=fun s=>by rw [hvH];rfl
  obtain ⟨w0,hw0⟩:∃ w:St,w=(u.new (.cells [vS,vA] (tag 28))).new (.cells [vH] (tag 22)):=⟨_,rfl⟩
  have w0n:w0.n=u.n+2:=by rw [hw0];rfl
  have w0m:w0.m=far:=by rw [hw0];exact um
  have w0g:∀ c,c<u.n→w0.h.get c=u.h.get c:=fun c hc=>by rw [hw0,get_new_ne _ _ _ (by rw [new_n];omega),get_new_ne _ _ _ (by omega)]
  have w00:w0.h.get u.n=some (.cells [vS,vA] (tag 28)):=by rw [hw0,get_new_ne _ _ _ (by rw [new_n];omega)];exact get_new_eq _ _ _ rfl (by omega)
  have w01:w0.h.get (u.n+1)=some (.cells [vH] (tag 22)):=by rw [hw0];exact get_new_eq _ _ _ rfl (by rw [new_n];omega)
  have hM:=hL.grow w0g (by omega:u.n≤w0.n)
  have hHM:=hH.grow w0g (by omega:u.n≤w0.n)
  have kH:=hHM.okA
  have c1:=checkHolders_ok (M+4) (by omega) ok (Inv_valid ok hl I) hM hHM (by omega)
  rw [enter20]
  simp (disch:=first|omega|(with_unfolding_all exact rfl)|(simp only[new_n,put_n,new_m];omega)|(refine put_m_le ?_;simp only[new_m];omega)) only [K20,K20r0,Abs.W,reduceIte,Nat.reduceEqDiff,Nat.reduceAdd,decide_true,decide_false,kLoop_def,Nat.reduceSub,List.cons_append,List.nil_append,List.append_nil,List.length_cons,List.length_nil,bx,new_n]
  rw [← hw0]
  simp (disch:=first|omega|(with_unfolding_all exact rfl)|(simp only[new_n,put_n,new_m];omega)|(refine put_m_le ?_;simp only[new_m];omega)) only [K20r1,K20r2,K20r4,Abs.W,reduceIte,Nat.reduceEqDiff,Nat.reduceAdd,decide_true,decide_false,kLoop_def,Nat.reduceSub,List.cons_append,List.nil_append,List.append_nil,List.length_cons,List.length_nil,Env.find_set,w00,w01,c1,z0,kA,kS,kH,Nat.zero_add]
  generalize hc:call _ _ _ (.fn 39) _ _=rc
  obtain ⟨vr,t1,bm,rfl,s1,hR,hbm⟩:=rank_ex hc (by omega) ok hM (by omega)
  have s1n:=s1.n
  have s1l:=s1.le
  have s1m:=s1.m
  obtain ⟨hv,hbm2⟩:=hR.slice (by omega)
  subst hv
  have t1g:∀ c,c<w0.n→t1.h.get c=w0.h.get c:=s1.same
  simp (disch:=first|omega|(with_unfolding_all exact rfl)|(simp only[new_n,put_n,new_m];omega)|(refine put_m_le ?_;simp only[new_m];omega)) only [Abs.W,reduceIte,Nat.reduceEqDiff,Nat.reduceAdd,decide_true,decide_false,kLoop_def,Nat.reduceSub,List.cons_append,List.nil_append,List.append_nil,List.length_cons,List.length_nil,Env.find_set,Nat.zero_add]
  generalize hy:St.put _ _ _=y
  have yn:y.n=t1.n+1:=by rw [← hy,put_n,new_n]
  have yg:∀ c,c<t1.n→y.h.get c=t1.h.get c:=fun c hc=>by rw [← hy,get_put_ne' _ _ _ _ (by omega),get_new_ne _ _ _ (by omega)]
  have yp:∃ z5,y.h.get t1.n=some (.cells [.slice bm 0 l.stalls.length l.stalls.length true] z5):=⟨_,by rw [← hy];exact get_put_eq _ _ _ _ rfl (by omega)⟩
  have ym:y.m=min t1.m t1.n:=by rw [← hy];simp only [St.put,minN_eq,new_m]
  obtain ⟨z5,yp⟩:=yp
  have y0:=(yg u.n (by omega)).trans ((t1g u.n (by omega)).trans w00)
  have hLy:=hL.grow (h':=y.h) (n':=y.n) (fun c hc=>(yg c (by omega)).trans ((t1g c (by omega)).trans (w0g c hc))) (by omega)
  simp (disch:=first|omega|(with_unfolding_all exact rfl)|(simp only[new_n,put_n,new_m];omega)|(refine put_m_le ?_;simp only[new_m];omega)) only [K20r5,K20r6,Abs.W,reduceIte,Nat.reduceEqDiff,Nat.reduceAdd,decide_true,decide_false,kLoop_def,Nat.reduceSub,List.cons_append,List.nil_append,List.append_nil,List.length_cons,List.length_nil,Env.find_set,y0,kS,kA,Nat.zero_add]
  generalize hc3:call _ _ _ (.fn 41) _ _=rc
  obtain ⟨w,rfl,s3,wn,wE⟩:=everybody_ex hc3 (by omega) ok hLy (by omega)
  have s3m:=s3.m
  have lE:∀ s,lenSlA s (.slice (y.n+1) 0 l.appls.length l.appls.length false)=.val (.int .i64 (l.appls.length:Int)) s:=fun _=>rfl
  simp (disch:=first|omega|(with_unfolding_all exact rfl)|(simp only[new_n,put_n,new_m];omega)|(refine put_m_le ?_;simp only[new_m];omega)) only [Abs.W,reduceIte,Nat.reduceEqDiff,Nat.reduceAdd,decide_true,decide_false,kLoop_def,Nat.reduceSub,List.cons_append,List.nil_append,List.append_nil,List.length_cons,List.length_nil,Env.find_set,lE,Nat.zero_add]
  have b0:∀ c,c<t1.n→w.h.get c=t1.h.get c:=fun c hc=>(s3.same c (by omega)).trans (yg c hc)
  have bu:∀ c,c<u.n→w.h.get c=u.h.get c:=fun c hc=>(b0 c (by omega)).trans ((t1g c (by omega)).trans (w0g c hc))
  have rk:=(hR.move (h':=w.h) (fun _=>by omega) (fun c h1 _=>b0 c h1) (Nat.le_refl _)).weak (lo':=u.n+2) (by omega)
  generalize hlp:loopN _ rounds _ _ _ _ _=rl
  obtain ⟨e,L1,d1,s',rfl,rfl,same,jn,jle,jm,jml,dd,dn,f8⟩:=loop_d hlp (fun i L d t=>(∀ c,c<w.n→t.h.get c=w.h.get c)∧w.n≤t.n∧t.n≤w.n+30000 * i∧u.n≤t.m∧t.m≤far∧(∀ c ∈ d,w.n≤c∧c<t.n∧t.h.get c=some .dfr)∧d.Nodup∧L.find 2=.ptr u.n 0∧L.find 3=.ptr (u.n+1) 0∧L.find 7=.ptr t1.n 0∧L.find 8=.nilslice∧L.find 24=.slice (y.n+1) 0 l.appls.length l.appls.length false∧L.find 25=.int .i64 (l.appls.length:Int)∧L.find 26=.int .i64 (i:Nat))
   (fun e L d t=>e=.exit 0∧(∀ c,c<w.n→t.h.get c=w.h.get c)∧w.n≤t.n∧t.n≤w.n+240000∧u.n≤t.m∧t.m≤far∧(∀ c ∈ d,w.n≤c∧c<t.n∧t.h.get c=some .dfr)∧d.Nodup∧L.find 8=.nilslice) l.appls.length (by unfold rounds;omega)
   ⟨fun _ _=>rfl,Nat.le_refl _,by omega,by omega,by omega,fun c h=>(by cases h),List.nodup_nil,by simp only [find_cons,Env.find_set,reduceIte,Nat.reduceEqDiff],by simp only [find_cons,Env.find_set,reduceIte,Nat.reduceEqDiff],by simp only [find_cons,Env.find_set,reduceIte,Nat.reduceEqDiff],by simp only [find_cons,Env.find_set,reduceIte,Nat.reduceEqDiff],by simp only [find_cons,Env.find_set,reduceIte,Nat.reduceEqDiff],by simp only [find_cons,Env.find_set,reduceIte,Nat.reduceEqDiff],by simp only [find_cons,Env.find_set,reduceIte,Nat.reduceEqDiff];rfl⟩
   (fun i L d t hi ⟨same,jn,jle,jm,jml,dd,dn,q2,q3,q7,q8,q24,q25,q26⟩=>by
    by_cases hlt:i<l.appls.length
    ·obtain ⟨L1,d1,t2,x1,x2,x3,x4,x5,x6,x7,x8,x9,x10⟩:=noenvy_round M (by omega) (w:=w) (bE:=y.n+1) ok hlt hl I ((b0 u.n (by omega)).trans ((t1g u.n (by omega)).trans w00)) ((b0 (u.n+1) (by omega)).trans ((t1g (u.n+1) (by omega)).trans w01)) (hL.bound.move (h':=w.h) (n':=u.n) (no':=fun y=>no y∧y<u.n) (na':=fun y=>na y∧y<u.n) (fun b h1 h2=>⟨bu b h1,h2⟩) (fun b h1 h2=>⟨bu b h1,h2⟩) (Nat.le_refl _)) (hH.grow bu (by omega:u.n≤w.n)) ((s3.same t1.n (by omega)).trans yp) rk (fun _=>by omega) (Nat.le_refl _) (by omega) (by omega)
      (fun s=>by rw [ixs_slice 1 s (y.n+1) 0 _ _ false i hlt,Nat.zero_add,Nat.mul_one]) ⟨_,_,wE,by rw [natRows_nth (by rw [List.length_range];exact hlt)];simp [List.getD,hlt]⟩ (by omega) same jn jle jm jml dd dn (by omega) q2 q3 q7 q8 q24 q25 q26
     exact .inl ⟨hlt,L1,d1,t2,x1,x2,x3,by rw [Nat.mul_succ];exact x4,x5,x6,x7,x8,(x10 2 (by omega) (by simp)).trans q2,(x10 3 (by omega) (by simp)).trans q3,(x10 7 (by omega) (by simp)).trans q7,(x10 8 (by omega) (by simp)).trans q8,(x10 24 (by omega) (by simp)).trans q24,(x10 25 (by omega) (by simp)).trans q25,x9⟩
    ·obtain rfl:i=l.appls.length:=by omega
     have e0:decide ((l.appls.length:Int)<(l.appls.length:Int))=false:=by simp
     refine .inr ⟨.exit 0,L.set 27 (.bool false),d,t,by simp,?_,rfl,same,jn,by omega,jm,jml,dd,dn,?_⟩
     ·simp (disch:=first|omega|(with_unfolding_all exact rfl)|(simp only[new_n,put_n,new_m];omega)|(refine put_m_le ?_;simp only[new_m];omega)) only [K20l1,K20r7,Abs.W,reduceIte,Nat.reduceEqDiff,Nat.reduceAdd,decide_true,decide_false,kLoop_def,Nat.reduceSub,List.cons_append,List.nil_append,List.append_nil,List.length_cons,List.length_nil,Env.find_set,q25,q26,e0]
     ·simp only [Env.find_set,q8,reduceIte,Nat.reduceEqDiff])
  obtain ⟨s'',ed,d0,d1n,d2,d3⟩:=take_dfrs dn (fun c hc=>(dd c hc).2.2)
  simp (disch:=first|omega|(with_unfolding_all exact rfl)|(simp only[new_n,put_n,new_m];omega)|(refine put_m_le ?_;simp only[new_m];omega)) only [K20r18,res20,Abs.W,reduceIte,Nat.reduceEqDiff,Nat.reduceAdd,decide_true,decide_false,kLoop_def,Nat.reduceSub,List.cons_append,List.nil_append,List.append_nil,List.length_cons,List.length_nil,Env.find_set,f8]
  rw [leave_dfrs ed]
  have dl:∀ c ∈ d1,w.n≤c:=fun c hc=>(dd c hc).1
  have hsm:=d2 u.n jm (fun c hc=>by have:=dl c hc;omega)
  have lv:leaveA Try.prog [.tmp 4,.tmp 5] (Env.set 5 (.int .i64 0) (Env.set 4 .nilslice L1)) [] s''=.val (.tup [.nilslice,.int .i64 0]) s'':=by
   have e2:(Env.set 5 (.int .i64 0) (Env.set 4 .nilslice L1)).find 4=.nilslice:=by simp only [Env.find_set,reduceIte,Nat.reduceEqDiff]
   have e3:(Env.set 5 (.int .i64 0) (Env.set 4 .nilslice L1)).find 5=.int .i64 0:=by simp only [Env.find_set,reduceIte,Nat.reduceEqDiff]
   show ARes.val (oneA [Env.find 4 _,Env.find 5 _]) s''=_
   rw [e2,e3]
   rfl
  rw [lv]
  refine ⟨_,_,rfl,⟨fun c hc=>?_,by omega,by omega,hsm,by omega⟩,rfl,fun _=>rfl⟩
  rw [d0 c (fun h=>by have:=dl _ h;omega),same c (by omega)]
  exact bu c hc)
 exact ⟨t,hr.symm.trans e,st⟩
end Go.Proofs.Ytbcjojljiochfaa.walk
set_option maxRecDepth 10000
namespace Go.Proofs.Ytbcjojljiochfaa.walk
open Go.Abs Go.Proofs.Ytbcjojljiochfaa.code
theorem can_idx {l:Letting} (ok:l.Ok) {a st:Nat} (ha:a<l.appls.length) (hst:st<l.stalls.length) (hc:canI l st a=true):∃ k,∃ (h1:k<l.appls[a].wishes.length) (h2:k<l.appls[a].bids.length),l.appls[a].wishes.idxOf (st:Int)=k∧(l.stalls[st].rule=3→l.stalls[st].least≤l.appls[a].bids[k]):=by
 have A:=ok.ap _ (List.getElem_mem ha)
 have h1:(bidOf (st:Int) (reachOf l.stalls (applAt l a))).2=true:=hc
 obtain ⟨x,hx,hxs⟩:=(bidOf_iff (st:Int) _).mp h1
 rw [applAt_of ha] at hx
 unfold reachOf at hx
 obtain ⟨z1,z2⟩:=List.mem_filter.mp hx
 obtain ⟨k,hk,he⟩:=List.getElem_of_mem z1
 rw [List.length_zip] at hk
 rw [List.getElem_zip] at he
 have k1:k<l.appls[a].wishes.length:=by omega
 have k2:k<l.appls[a].bids.length:=by omega
 have e1:l.appls[a].wishes[k]=(st:Int):=by rw [← hxs,← he]
 have e2:l.appls[a].bids[k]=x.2:=by rw [← he]
 refine ⟨k,k1,k2,idx_at k1 e1 fun y hy e=>?_,fun hr=>?_⟩
 ·exact not_mem_take A.nd k1 (by rw [e1,← e];exact hy)
 ·unfold can at z2
  have e3:stallAt l.stalls x.1=l.stalls[st]:=by rw [hxs];unfold stallAt;simp [List.getD,hst]
  rw [e3,hr] at z2
  rw [e2]
  simp at z2
  omega
theorem can_ok (N:Nat) (hN:2≤N) {no na:Nat→Prop} {l:Letting} {vS vA:AV} {a st:Nat} {s:St} (ok:l.Ok) (ha:a<l.appls.length) (hst:st<l.stalls.length) (hc:canI l st a=true) (hL:LetAt no na s.h s.n l vS vA) (hs:s.n+300≤far) :
  call Try.prog X N (.fn 19) [.agg (letV vS vA),.int .i64 (a:Int),.int .i64 (st:Int)] s=.val (.bool true) s:=by
 obtain ⟨n,rfl⟩:∃ n,N=n+1:=⟨N - 1,by omega⟩
 refine call_plain' Try.func19 (fun u uh un um=>?_) rfl
 have hf:far=1000000000:=rfl
 rw [← uh,← un] at hL
 obtain ⟨k,h1,h2,hidx,hbid⟩:=can_idx ok ha hst hc
 obtain ⟨w,hw⟩:∃ w:St,w=u.new (.cells [vS,vA] (tag 28)):=⟨_,rfl⟩
 have wn:w.n=u.n+1:=by rw [hw];rfl
 have wm:w.m=far:=by rw [hw];exact um
 have wg:∀ c,c<u.n→w.h.get c=u.h.get c:=fun c hc=>by rw [hw,get_new_ne _ _ _ (by omega)]
 have w0:w.h.get u.n=some (.cells [vS,vA] (tag 28)):=by rw [hw];exact get_new_eq _ _ _ rfl (by omega)
 have hLw:=hL.grow wg (by omega:u.n≤w.n)
 have kA:=hLw.okV
 have kS:=hLw.okS
 obtain ⟨ww,pa,oa,ca,za,r1,r2,r3,r4,r5,r6⟩:=hLw.getA2 ha
 obtain ⟨w1,w2⟩:=ww
 simp only at r4 r5 r6
 have wl8:=(ok.ap _ (List.getElem_mem ha)).wl
 obtain ⟨ps,os,cs,zs,⟨p0,_⟩,p1,p2,p3⟩:=hLw.getS2 hst
 have c0:=cut_nth p3 (show 0<3 by omega)
 have c1:=cut_nth p3 (show 1<3 by omega)
 rw [Nat.add_zero] at c0
 have m0:nth [AV.int .i64 l.stalls[st].rule,.int .i64 l.stalls[st].least,.int .i64 l.stalls[st].heir] 0=.int .i64 l.stalls[st].rule:=rfl
 have m1:nth [AV.int .i64 l.stalls[st].rule,.int .i64 l.stalls[st].least,.int .i64 l.stalls[st].heir] 1=.int .i64 l.stalls[st].least:=rfl
 rw [m0] at c0
 rw [m1] at c1
 generalize l.appls[a]=A at *
 generalize l.stalls[st]=SR at *
 have sw1:=r5.scal
 have sw2:=r6.scal
 have k5:=r5.okA
 have k6:=r6.okA
 obtain ⟨y,hy⟩:∃ y:St,y=(w.new (.cells [.int .i64 0,.int .i64 0,.nilslice,.nilslice] (tag 37))).put w.n (.cells [.int .i64 A.years,.int .i64 A.token,w1,w2] (tag 37)):=⟨_,rfl⟩
 have yn:y.n=w.n+1:=by rw [hy];rfl
 have ym:u.n≤y.m:=by rw [hy];simp only [St.put,minN_eq,new_m];omega
 have yg:∀ c,c<w.n→y.h.get c=w.h.get c:=fun c hc=>by rw [hy,get_put_ne' _ _ _ _ (by omega),get_new_ne _ _ _ (by omega)]
 have yp:y.h.get w.n=some (.cells [.int .i64 A.years,.int .i64 A.token,w1,w2] (tag 37)):=by rw [hy];exact get_put_eq _ _ _ _ rfl (by omega)
 have y0:=(yg u.n (by omega)).trans w0
 have hWy:=r5.grow yg (by omega:w.n≤y.n)
 have hBy:=r6.grow yg (by omega:w.n≤y.n)
 have lw:=rowLen hWy.at_
 obtain ⟨bb,pb,cb,zb,x1,x2,x3,x4⟩:=rowInt hBy.at_ h2
 have ys:=(yg ps p0).trans p2
 have wo:=wish_ok n (by omega) (a:=.int .i64 A.years) (b:=.int .i64 A.token) (bv:=w2) (st:=(st:Int)) hWy wl8 (by omega)
 rw [hidx] at wo
 have e0:decide ((k:Int)<(A.wishes.length:Int))=true:=decide_eq_true (by omega)
 have u7:=fun cl L s=>congrFun (congrFun (congrFun K19r3s7.eq_1 cl) L) s
 have u8:=fun cl L s=>congrFun (congrFun (congrFun K19r3s8.eq_1 cl) L) s
 have u9:=fun cl L s=>congrFun (congrFun (congrFun K19r3s9.eq_1 cl) L) s
 have u10:=fun cl L s=>congrFun (congrFun (congrFun K19r3s10.eq_1 cl) L) s
 have u11:=fun cl L s=>congrFun (congrFun (congrFun K19r3s11.eq_1 cl) L) s
 have u12:=fun cl L s=>congrFun (congrFun (congrFun K19r3s12.eq_1 cl) L) s
 have u13:=fun cl L s=>congrFun (congrFun (congrFun K19r3s13.eq_1 cl) L) s
 have u14:=fun cl L s=>congrFun (congrFun (congrFun K19r3s14.eq_1 cl) L) s
 have u15:=fun cl L s=>congrFun (congrFun (congrFun K19r3s15.eq_1 cl) L) s
 have u16:=fun cl L s=>congrFun (congrFun (congrFun K19r3s16.eq_1 cl) L) s
 have u17:=fun cl L s=>congrFun (congrFun (congrFun K19r3s17.eq_1 cl) L) s
 have u18:=fun cl L s=>congrFun (congrFun (congrFun K19r3s18.eq_1 cl) L) s
 have u19:=fun cl L s=>congrFun (congrFun (congrFun K19r3s19.eq_1 cl) L) s
 have u20:=fun cl L s=>congrFun (congrFun (congrFun K19r3s20.eq_1 cl) L) s
 have u21:=fun cl L s=>congrFun (congrFun (congrFun K19r3s21.eq_1 cl) L) s
 have u22:=fun cl L s=>congrFun (congrFun (congrFun K19r3s22.eq_1 cl) L) s
 have u23:=fun cl L s=>congrFun (congrFun (congrFun K19r3s23.eq_1 cl) L) s
 have u24:=fun cl L s=>congrFun (congrFun (congrFun K19r3s24.eq_1 cl) L) s
 have u25:=fun cl L s=>congrFun (congrFun (congrFun K19r3s25.eq_1 cl) L) s
 have u26:=fun cl L s=>congrFun (congrFun (congrFun K19r3s26.eq_1 cl) L) s
 have u27:=fun cl L s=>congrFun (congrFun (congrFun K19r3s27.eq_1 cl) L) s
 rw [enter19]
 simp (disch:=first|omega|(with_unfolding_all exact rfl)|(simp only[new_n,put_n,new_m];omega)|(refine put_m_le ?_;simp only[new_m];omega)) only [K19,K19r0,Abs.W,reduceIte,Nat.reduceEqDiff,Nat.reduceAdd,decide_true,decide_false,kLoop_def,Nat.reduceSub,List.cons_append,List.nil_append,List.append_nil,List.length_cons,List.length_nil]
 rw [← hw]
 simp (disch:=first|omega|(with_unfolding_all exact rfl)|(simp only[new_n,put_n,new_m];omega)|(refine put_m_le ?_;simp only[new_m];omega)) only [K19r1,Abs.W,reduceIte,Nat.reduceEqDiff,Nat.reduceAdd,decide_true,decide_false,kLoop_def,Nat.reduceSub,List.cons_append,List.nil_append,List.append_nil,List.length_cons,List.length_nil,Env.find_set,w0,kA,r2,r3,r4,sw1.1,sw1.2.1,sw1.2.2,sw2.1,sw2.2.1,sw2.2.2,Nat.zero_add]
 rw [← hy]
 by_cases hr:SR.rule=3
 ·have e1:decide (SR.rule=3)=true:=decide_eq_true hr
  have e2:decide (SR.least≤A.bids[k])=true:=decide_eq_true (hbid hr)
  simp (config:={ maxSteps:=2000000 }) (disch:=first|omega|(with_unfolding_all exact rfl)|(simp only[new_n,put_n,new_m];omega)|(refine put_m_le ?_;simp only[new_m];omega)) only [K19r2,K19r3,u7,u8,u9,u10,u11,u12,u13,u14,u15,u16,u17,u18,u19,u20,u21,u22,u23,u24,u25,u26,u27,res19,Abs.W,reduceIte,Nat.reduceEqDiff,Nat.reduceAdd,decide_true,decide_false,kLoop_def,Nat.reduceSub,List.cons_append,List.nil_append,List.append_nil,List.length_cons,List.length_nil,Env.find_set,y0,yp,k5,k6,kS,lw,wo,e0,p1,ys,c0,c1,e1,x2,x3,x4,e2,Nat.zero_add,Nat.add_zero]
  exact ⟨_,rfl,ym⟩
 ·have e1:decide (SR.rule=3)=false:=decide_eq_false hr
  simp (config:={ maxSteps:=2000000 }) (disch:=first|omega|(with_unfolding_all exact rfl)|(simp only[new_n,put_n,new_m];omega)|(refine put_m_le ?_;simp only[new_m];omega)) only [K19r2,K19r3,u7,u8,u9,u10,u11,u12,u13,u14,u15,u16,u17,u18,u19,u20,u21,u22,u23,u24,u25,u26,u27,res19,Abs.W,reduceIte,Nat.reduceEqDiff,Nat.reduceAdd,decide_true,decide_false,kLoop_def,Nat.reduceSub,List.cons_append,List.nil_append,List.append_nil,List.length_cons,List.length_nil,Env.find_set,y0,yp,k5,k6,kS,lw,wo,e0,p1,ys,c0,c1,e1,Nat.zero_add,Nat.add_zero]
  exact ⟨_,rfl,ym⟩
end Go.Proofs.Ytbcjojljiochfaa.walk
set_option maxRecDepth 10000
namespace Go.Proofs.Ytbcjojljiochfaa.walk
open Go.Abs Go.Proofs.Ytbcjojljiochfaa.code
theorem once_ex {N d:Nat} {n:Int} {s:St} {r:ARes} (hr:call Try.prog X N (.fn 27) [.ptr d 0,.int .i64 n] s=r) (hN:3≤N) (hd:Die d s.h) (hlt:d<s.n) (hs:s.n+200≤far) (hn:n≤4000000000) :
  ∃ b t,r=.val (.bool b) t∧Stir d s t 0∧Die d t.h:=by
 obtain ⟨m,rfl⟩:∃ m,N=m+1:=⟨N - 1,by omega⟩
 have hf:far=1000000000:=rfl
 obtain ⟨v,t,e,st,⟨x,rfl⟩,hd'⟩:=call_stir_plain (n:=m) (args:=[.ptr d 0,.int .i64 n]) (d:=d) (k:=0) (Q:=fun v=>∃ b,v=.bool b) (R:=Die d) Try.func27 hd (fun u uh un um=>by
  rw [← uh] at hd
  rw [enter27]
  simp (disch:=first|omega|(with_unfolding_all exact rfl)|(simp only[new_n,put_n,new_m];omega)|(refine put_m_le ?_;simp only[new_m];omega)) only [res27,K27r0,K27r1,K27,Abs.W,reduceIte,Nat.reduceEqDiff,Nat.reduceAdd,decide_true,decide_false,kLoop_def,Nat.reduceSub,List.cons_append,List.nil_append,List.append_nil,List.length_cons,List.length_nil]
  generalize hc:call _ _ _ (.fn 15) _ _=r1
  obtain ⟨y,w,rfl,sw,dw,y0,y1⟩:=cast_ex hc (by omega) hd (by omega) (by omega) hn
  simp (disch:=first|omega|(with_unfolding_all exact rfl)|(simp only[new_n,put_n,new_m];omega)|(refine put_m_le ?_;simp only[new_m];omega)) only [res27,K27r0,K27r1,K27,Abs.W,reduceIte,Nat.reduceEqDiff,Nat.reduceAdd,decide_true,decide_false,kLoop_def,Nat.reduceSub,List.cons_append,List.nil_append,List.append_nil,List.length_cons,List.length_nil]
  exact ⟨_,_,rfl,sw,rfl,⟨_,rfl⟩,dw⟩) (by omega)
 exact ⟨x,t,hr.symm.trans e,st,hd'⟩
end Go.Proofs.Ytbcjojljiochfaa.walk
set_option maxRecDepth 10000
namespace Go.Proofs.Ytbcjojljiochfaa.walk
open Go.Abs Go.Proofs.Ytbcjojljiochfaa.code
structure LetJ (u t:St) (d p7:Nat) (l:List StallR) (many:Nat) (vS:AV) (bS kk:Nat):Prop where
 die:Die d t.h
 g7:t.h.get p7=some (.cells [vS,.nilslice] (tag 28))
 is:IsAt t.h t.n bS 3 (tag 53) (l.map StallR.cells) vS
 lo:p7<bS
 same:∀ c,c<p7→c≠d→t.h.get c=u.h.get c
 n:p7<t.n
 le:t.n≤u.n+kk
 m:d≤u.m→d≤t.m
 mle:t.m≤u.m
 dp:d<p7
 ok:∀ s ∈ l,s.Ok many
theorem LetJ.stir {u t z:St} {d p7 many bS kk k:Nat} {l:List StallR} {vS:AV} (J:LetJ u t d p7 l many vS bS kk) (S:Stir d t z k) (D:Die d z.h):LetJ u z d p7 l many vS bS (kk+k):=by
 obtain ⟨jd,j7,ji,jlo,js,jn,jle,jm,jml,jdp,jok⟩:=J
 have:=S.n
 have:=S.le
 exact ⟨D,(S.same p7 jn (by omega)).trans j7,ji.mono (fun h=>S.same bS h (by omega)) (by omega),jlo,fun c hc hcd=>(S.same c (by omega) hcd).trans (js c hc hcd),by omega,by omega,fun h=>S.m (jm h),Nat.le_trans S.mle jml,jdp,jok⟩
theorem let_push {cl:CallF} {L:Env} {u z:St} {r:ORes} {d p7 many bS kk p:Nat} {l:List StallR} {vS:AV} {S:StallR} (hr:K12r8 cl L z=r) (J:LetJ u z d p7 l many vS bS kk) (hS:S.Ok many) (hp:z.h.get p=some (.cells S.cells (tag 53))) (hl:l.length≤7) (hs:u.n+kk+100≤far)
  (q7:L.find 7=.ptr p7 0) (q10:L.find 10=.ptr p 0):∃ M z1 v1 b1,r=.ok M z1∧LetJ u z1 d p7 (l++[S]) many v1 b1 (kk+2):=by
 subst hr
 have hf:far=1000000000:=rfl
 obtain ⟨jd,j7,ji,jlo,js,jn,jle,jm,jml,jdp,jok⟩:=J
 have kv:∀ t,okA (.val vS t)=.val vS t:=ji.okA
 obtain ⟨y,hy⟩:∃ y:St,y=z.new (.cells S.cells 0):=⟨_,rfl⟩
 have yn:y.n=z.n+1:=by rw [hy];rfl
 have ym:y.m=z.m:=by rw [hy];rfl
 have yg:∀ c,c<z.n→y.h.get c=z.h.get c:=fun c hc=>by rw [hy,get_new_ne _ _ _ (by omega)]
 have yp:y.h.get z.n=some (.cells S.cells 0):=by rw [hy];exact get_new_eq _ _ _ rfl (by omega)
 obtain ⟨s7,e7,l7,s7n,s7g,s7m,s7l⟩:=append_at (bytes:=24) (ji.mono (h':=y.h) (n':=y.n) (fun h=>yg bS h) (by omega)) yp rfl rfl (by rw [List.length_map];omega) (by kernel_rfl) (by omega)
 have hlen:(l.map StallR.cells).length=l.length:=List.length_map ..
 rw [hlen] at e7 l7
 obtain ⟨v7,hv7⟩:∃ v7,v7=AV.slice y.n 0 (l.length+1) (l.length+1) true:=⟨_,rfl⟩
 rw [← hv7] at e7 l7
 have sc7:scalars [v7]=true:=by rw [hv7];rfl
 have cc7:cellsOf 1 v7=some [v7]:=by rw [hv7];rfl
 have s9:=(s7g p7 (by omega) (by omega)).trans ((yg p7 (by omega)).trans j7)
 unfold StallR.cells at hp hy
 simp (disch:=first|omega|(with_unfolding_all exact rfl)|(simp only[new_n,put_n,new_m];omega)|(refine put_m_le ?_;simp only[new_m];omega)) only [K12r8,Abs.W,reduceIte,Nat.reduceEqDiff,Nat.reduceAdd,decide_true,decide_false,kLoop_def,Nat.reduceSub,List.cons_append,List.nil_append,List.append_nil,List.length_cons,List.length_nil,Env.find_set,q7,q10,j7,hp,kv,Nat.zero_add]
 rw [← hy]
 simp (disch:=first|omega|(with_unfolding_all exact rfl)|(simp only[new_n,put_n,new_m];omega)|(refine put_m_le ?_;simp only[new_m];omega)) only [Abs.W,reduceIte,Nat.reduceEqDiff,Nat.reduceAdd,decide_true,decide_false,kLoop_def,Nat.reduceSub,List.cons_append,List.nil_append,List.append_nil,List.length_cons,List.length_nil,Env.find_set,e7,q7,s9,sc7,cc7,Nat.zero_add]
 have hcells:(l.map StallR.cells)++[S.cells]=(l++[S]).map StallR.cells:=by rw [List.map_append];rfl
 refine ⟨_,_,v7,y.n,rfl,⟨jd.keep ?_,get_put_eq _ _ _ _ rfl (by omega),?_,by omega,fun c hc hcd=>?_,by simp only [put_n];omega,by simp only [put_n];omega,fun hm=>?_,?_,jdp,fun x hx=>?_⟩⟩
 ·rw [get_put_ne' _ _ _ _ (by omega),s7g d (by omega) (by omega),yg d (by omega)]
 ·rw [← hcells]
  exact l7.mono (fun _=>get_put_ne' _ _ _ _ (by omega)) (by simp only [put_n];omega)
 ·rw [get_put_ne' _ _ _ _ (by omega),s7g c (by omega) (by omega),yg c (by omega)]
  exact js c hc hcd
 ·have:=jm hm
  have:=s7m d (by omega) (by omega) (by omega)
  simp only [St.put,minN_eq];omega
 ·simp only [St.put,minN_eq];omega
 ·rcases List.mem_append.mp hx with hx | hx
  ·exact jok x hx
  ·rw [List.mem_singleton.mp hx];exact hS
theorem let_round (N:Nat) (hN:5≤N) (cx:Ctx) {d p7 many bS kk i:Nat} {l:List StallR} {vS:AV} {u t:St} {L:Env} (J:LetJ u t d p7 l many vS bS kk) (hl:l.length≤7) (hs:u.n+kk+2000≤far) (hum:u.m≤far) (hi:i≤1000) (hmany:many≤1000)
  (q0:L.find 0=.ptr d 0) (q7:L.find 7=.ptr p7 0) (q8:L.find 8=.int .i64 many) (q9:L.find 9=.int .i64 (i+1:Nat)) :
  ∃ L1 t1 S v1 b1,K12l0 (call Try.prog X N) cx L [] t=.done .norm L1 [] t1∧LetJ u t1 d p7 (l++[S]) many v1 b1 (kk+10)∧L1.find 9=.int .i64 (i:Nat)∧∀ c,c<9→L1.find c=L.find c:=by
 have hf:far=1000000000:=rfl
 have jn:=J.n
 have jle:=J.le
 have jdp:=J.dp
 have e0:decide ((0:Int)<((i+1:Nat):Int))=true:=decide_eq_true (by omega)
 have sb:∀ s,aSub s .i64 ((i+1:Nat):Int) 1=.val (.int .i64 (i:Int)) s:=fun s=>by rw [aSub_i64 s _ _ (by omega)];congr 2;omega
 have sm:∀ s,aSub s .i64 (many:Int) 1=.val (.int .i64 ((many:Int) - 1)) s:=fun s=>aSub_i64 s _ _ (by omega)
 simp (disch:=first|omega|(with_unfolding_all exact rfl)|(simp only[new_n,put_n,new_m];omega)|(refine put_m_le ?_;simp only[new_m];omega)) only [K12r4,K12r5,K12l0,Abs.W,reduceIte,Nat.reduceEqDiff,Nat.reduceAdd,decide_true,decide_false,kLoop_def,Nat.reduceSub,List.cons_append,List.nil_append,List.append_nil,List.length_cons,List.length_nil,Env.find_set,Nat.zero_add,q0,q9,e0]
 generalize hc1:call _ _ _ (.fn 26) _ _=r1
 obtain ⟨x1,t1,rfl,st1,d1,x10,x11⟩:=from_ex hc1 (by omega) J.die (by omega) (by omega) (by omega) (by omega) (by omega) (by omega)
 have n1:=st1.n
 have k1:=st1.le
 simp (disch:=first|omega|(with_unfolding_all exact rfl)|(simp only[new_n,put_n,new_m];omega)|(refine put_m_le ?_;simp only[new_m];omega)) only [Abs.W,reduceIte,Nat.reduceEqDiff,Nat.reduceAdd,decide_true,decide_false,kLoop_def,Nat.reduceSub,List.cons_append,List.nil_append,List.append_nil,List.length_cons,List.length_nil,Env.find_set,q0]
 generalize hc2:call _ _ _ (.fn 15) _ _=r2
 obtain ⟨x2,t2,rfl,st2,d2,x20,x21⟩:=cast_ex hc2 (by omega) d1 (by omega) (by omega) (by omega)
 have n2:=st2.n
 have k2:=st2.le
 simp (disch:=first|omega|(with_unfolding_all exact rfl)|(simp only[new_n,put_n,new_m];omega)|(refine put_m_le ?_;simp only[new_m];omega)) only [Abs.W,reduceIte,Nat.reduceEqDiff,Nat.reduceAdd,decide_true,decide_false,kLoop_def,Nat.reduceSub,List.cons_append,List.nil_append,List.append_nil,List.length_cons,List.length_nil,Env.find_set,q0]
 generalize hc3:call _ _ _ (.fn 15) _ _=r3
 obtain ⟨x3,t3,rfl,st3,d3,x30,x31⟩:=cast_ex hc3 (by omega) d2 (by omega) (by omega) (by omega)
 have n3:=st3.n
 have k3:=st3.le
 simp (disch:=first|omega|(with_unfolding_all exact rfl)|(simp only[new_n,put_n,new_m];omega)|(refine put_m_le ?_;simp only[new_m];omega)) only [Abs.W,reduceIte,Nat.reduceEqDiff,Nat.reduceAdd,decide_true,decide_false,kLoop_def,Nat.reduceSub,List.cons_append,List.nil_append,List.append_nil,List.length_cons,List.length_nil,Env.find_set,q0]
 generalize hc4:call _ _ _ (.fn 33) _ _=r4
 obtain ⟨x4,t4,rfl,st4,d4,hx4⟩:=one_ex [0,x2,x3] (b:=t3.n) (sz:=0) hc4 (by omega) (d3.keep (get_new_ne _ _ _ (by omega))) (by simp only [new_n];omega) (by simp only [new_n];omega) (get_new_eq _ _ _ rfl (by omega)) (by simp only [new_n];omega) (by omega) rfl (by omega) (by omega)
 have n4:=st4.n
 have k4:=st4.le
 simp only [new_n] at n4 k4
 have hx4':0≤x4∧x4≤1000:=by simp at hx4;omega
 simp (disch:=first|omega|(with_unfolding_all exact rfl)|(simp only[new_n,put_n,new_m];omega)|(refine put_m_le ?_;simp only[new_m];omega)) only [K12r6,Abs.W,reduceIte,Nat.reduceEqDiff,Nat.reduceAdd,decide_true,decide_false,kLoop_def,Nat.reduceSub,List.cons_append,List.nil_append,List.append_nil,List.length_cons,List.length_nil,Env.find_set,q0,Nat.zero_add]
 have S4:Stir d t t4 1:=(((st1.trans st2).trans st3).new _).trans st4
 obtain ⟨y,hy⟩:∃ y:St,y=(t4.new (.cells [.int .i64 0,.int .i64 0,.int .i64 0] (tag 53))).put t4.n (.cells [.int .i64 x1,.int .i64 x4,.int .i64 (-1)] (tag 53)):=⟨_,rfl⟩
 have Sy:Stir d t y 2:=by rw [hy];exact (S4.new _).put (by omega) _ (.inr (by omega))
 have yn:y.n=t4.n+1:=by rw [hy];rfl
 have yp:y.h.get t4.n=some (.cells [.int .i64 x1,.int .i64 x4,.int .i64 (-1)] (tag 53)):=by rw [hy];exact get_put_eq _ _ _ _ rfl (by omega)
 have dy:Die d y.h:=d4.keep (by rw [hy,get_put_ne' _ _ _ _ (by omega),get_new_ne _ _ _ (by omega)])
 rw [← hy]
 generalize hc5:call _ _ _ (.fn 27) _ _=r5
 obtain ⟨bb,t5,rfl,st5,d5⟩:=once_ex hc5 (by omega) dy (by omega) (by omega) (by omega)
 have n5:=st5.n
 have k5:=st5.le
 have S5:=Sy.trans st5
 have p5:=(st5.same t4.n (by omega) (by omega)).trans yp
 cases bb with
 | false =>
  simp (disch:=first|omega|(with_unfolding_all exact rfl)|(simp only[new_n,put_n,new_m];omega)|(refine put_m_le ?_;simp only[new_m];omega)) only [Abs.W,reduceIte,Nat.reduceEqDiff,Nat.reduceAdd,decide_true,decide_false,kLoop_def,Nat.reduceSub,List.cons_append,List.nil_append,List.append_nil,List.length_cons,List.length_nil,Env.find_set,Nat.zero_add]
  generalize hq:K12r8 _ _ _=q8
  obtain ⟨M,z1,v1,b1,rfl,J1⟩:=let_push (S:=⟨x1,x4, -1⟩) hq (J.stir S5 d5) ⟨by simp only;omega,by simp only;omega,by simp only;omega,by simp only;omega,by simp only;omega,by simp only;omega⟩ p5 hl (by omega) (by simp only [Env.find_set,q7,reduceIte,Nat.reduceEqDiff]) (by simp only [Env.find_set,reduceIte,Nat.reduceEqDiff])
  simp (disch:=first|omega|(with_unfolding_all exact rfl)|(simp only[new_n,put_n,new_m];omega)|(refine put_m_le ?_;simp only[new_m];omega)) only [K12r9,Abs.W,reduceIte,Nat.reduceEqDiff,Nat.reduceAdd,decide_true,decide_false,kLoop_def,Nat.reduceSub,List.cons_append,List.nil_append,List.append_nil,List.length_cons,List.length_nil,Env.find_set,q9,sb]
  obtain ⟨a1,a2,a3,a4,a5,a6,a7,a8,a9,a10,a11⟩:=J1
  refine ⟨_,z1,_,v1,b1,rfl,⟨a1,a2,a3,a4,a5,a6,by omega,a8,a9,a10,a11⟩,by simp only [Env.find_set,reduceIte,Nat.reduceEqDiff],fun c hc=>?_⟩
  simp only [Env.find_set]
  repeat rw [if_neg (by omega)]
 | true =>
  simp (disch:=first|omega|(with_unfolding_all exact rfl)|(simp only[new_n,put_n,new_m];omega)|(refine put_m_le ?_;simp only[new_m];omega)) only [K12r7,Abs.W,reduceIte,Nat.reduceEqDiff,Nat.reduceAdd,decide_true,decide_false,kLoop_def,Nat.reduceSub,List.cons_append,List.nil_append,List.append_nil,List.length_cons,List.length_nil,Env.find_set,q0,q8,sm,Nat.zero_add]
  generalize hc6:call _ _ _ (.fn 26) _ _=r6
  obtain ⟨x6,t6,rfl,st6,d6,x60,x61⟩:=from_ex hc6 (by omega) d5 (by omega) (by omega) (by omega) (by omega) (by omega) (by omega)
  have n6:=st6.n
  have k6:=st6.le
  have p6:=(st6.same t4.n (by omega) (by omega)).trans p5
  simp (disch:=first|omega|(with_unfolding_all exact rfl)|(simp only[new_n,put_n,new_m];omega)|(refine put_m_le ?_;simp only[new_m];omega)) only [Abs.W,reduceIte,Nat.reduceEqDiff,Nat.reduceAdd,decide_true,decide_false,kLoop_def,Nat.reduceSub,List.cons_append,List.nil_append,List.append_nil,List.length_cons,List.length_nil,Env.find_set,p6,Nat.zero_add]
  obtain ⟨z,hz⟩:∃ z:St,z=t6.put t4.n (.cells [.int .i64 x1,.int .i64 x4,.int .i64 x6] (tag 53)):=⟨_,rfl⟩
  have Sz:Stir d t z 2:=by rw [hz];exact ((S5.trans st6).mono (by omega)).put (by omega) _ (.inr (by omega))
  have zp:z.h.get t4.n=some (.cells [.int .i64 x1,.int .i64 x4,.int .i64 x6] (tag 53)):=by rw [hz];exact get_put_eq _ _ _ _ rfl (by omega)
  have dz:Die d z.h:=d6.keep (by rw [hz,get_put_ne' _ _ _ _ (by omega)])
  rw [← hz]
  generalize hq:K12r8 _ _ _=q8
  obtain ⟨M,z1,v1,b1,rfl,J1⟩:=let_push (S:=⟨x1,x4,x6⟩) hq (J.stir Sz dz) ⟨by simp only;omega,by simp only;omega,by simp only;omega,by simp only;omega,by simp only;omega,by simp only;omega⟩ zp hl (by omega) (by simp only [Env.find_set,q7,reduceIte,Nat.reduceEqDiff]) (by simp only [Env.find_set,reduceIte,Nat.reduceEqDiff])
  simp (disch:=first|omega|(with_unfolding_all exact rfl)|(simp only[new_n,put_n,new_m];omega)|(refine put_m_le ?_;simp only[new_m];omega)) only [K12r9,Abs.W,reduceIte,Nat.reduceEqDiff,Nat.reduceAdd,decide_true,decide_false,kLoop_def,Nat.reduceSub,List.cons_append,List.nil_append,List.append_nil,List.length_cons,List.length_nil,Env.find_set,q9,sb]
  obtain ⟨a1,a2,a3,a4,a5,a6,a7,a8,a9,a10,a11⟩:=J1
  refine ⟨_,z1,_,v1,b1,rfl,⟨a1,a2,a3,a4,a5,a6,by omega,a8,a9,a10,a11⟩,by simp only [Env.find_set,reduceIte,Nat.reduceEqDiff],fun c hc=>?_⟩
  simp only [Env.find_set]
  repeat rw [if_neg (by omega)]
theorem let_loop (N:Nat) (hN:5≤N) {cx:Ctx} {d p7 many bS kk i:Nat} {vS:AV} {u w:St} {L:Env} {r:R} (hr:loopN K12l0 rounds (call Try.prog X N) cx L [] w=r) (J:LetJ u w d p7 [] many vS bS kk) (hi:i≤8) (hs:u.n+kk+3000≤far) (hum:u.m≤far) (hmany:many≤1000)
  (q0:L.find 0=.ptr d 0) (q7:L.find 7=.ptr p7 0) (q8:L.find 8=.int .i64 many) (q9:L.find 9=.int .i64 (i:Int)) :
  ∃ L1 t1 l1 v1 b1,r=.done (.exit 0) L1 [] t1∧LetJ u t1 d p7 l1 many v1 b1 (kk+80)∧l1.length=i∧∀ c,c<9→L1.find c=L.find c:=by
 have hf:far=1000000000:=rfl
 obtain ⟨e,L1,t1,rfl,rfl,l1,v1,b1,h1,h3,h5⟩:=loop_of hr (fun j L' t'=>∃ l1 v1 b1,LetJ u t' d p7 l1 many v1 b1 (kk+10 * j)∧l1.length=j∧L'.find 9=.int .i64 ((i - j:Nat):Int)∧∀ c,c<9→L'.find c=L.find c)
  (fun e L' t'=>e=.exit 0∧∃ l1 v1 b1,LetJ u t' d p7 l1 many v1 b1 (kk+80)∧l1.length=i∧∀ c,c<9→L'.find c=L.find c) i (by unfold rounds;omega)
  ⟨[],vS,bS,J,rfl,q9,fun _ _=>rfl⟩
  (fun j L' t' hj ⟨l1,v1,b1,hJ,hb3,p9,g⟩=>by
   by_cases hlt:j<i
   ·obtain ⟨L2,t2,S,v2,b2,z1,z2,z6,z7⟩:=let_round N hN cx (i:=i - j - 1) hJ (by omega) (by omega) hum (by omega) hmany ((g 0 (by omega)).trans q0) ((g 7 (by omega)).trans q7) ((g 8 (by omega)).trans q8) (by rw [p9,show i - j - 1+1=i - j by omega])
    exact .inl ⟨hlt,L2,t2,z1,l1++[S],v2,b2,z2,by simp [hb3],z6.trans (by rw [show i - j - 1=i - (j+1) by omega]),fun c hc=>(z7 c hc).trans (g c hc)⟩
   ·obtain rfl:j=i:=by omega
    have e0:decide ((0:Int)<((0:Nat):Int))=false:=rfl
    rw [Nat.sub_self] at p9
    refine .inr ⟨.exit 0,L'.set 22 (.bool false),t',by simp,?_,rfl,l1,v1,b1,?_,hb3,fun c hc=>?_⟩
    ·simp (disch:=first|omega|(with_unfolding_all exact rfl)|(simp only[new_n,put_n,new_m];omega)|(refine put_m_le ?_;simp only[new_m];omega)) only [K12r4,K12l0,Abs.W,reduceIte,Nat.reduceEqDiff,Nat.reduceAdd,decide_true,decide_false,kLoop_def,Nat.reduceSub,List.cons_append,List.nil_append,List.append_nil,List.length_cons,List.length_nil,Env.find_set,p9,e0]
    ·obtain ⟨a1,a2,a3,a4,a5,a6,a7,a8,a9,a10,a11⟩:=hJ
     exact ⟨a1,a2,a3,a4,a5,a6,by omega,a8,a9,a10,a11⟩
    ·simp only [Env.find_set]
     rw [if_neg (by omega)]
     exact g c hc)
 exact ⟨L1,t1,l1,v1,b1,rfl,h1,h3,h5⟩
end Go.Proofs.Ytbcjojljiochfaa.walk
