/- Stalls are let. -/
import Derived.Test.YthbhjgbpjlnbcaaM8
import Derived.Test.YthbhjgbpjlnbcaaM10
import Derived.Test.YthbhjgbpjlnbcaaCodes
import Derived.Test.YthbhjgbpjlnbcaaWalkAll
set_option linter.unusedSimpArgs false
set_option maxHeartbeats 16000000
set_option linter.unusedVariables false
set_option maxRecDepth 10000
namespace Go.Abs
theorem loop_dinv {body:K} {cl:CallF} {cx:Ctx} (I:Nat→Env→List Nat→St→Prop) (Q:Ex→Env→List Nat→St→Prop) (k:Nat)
  (step:∀ i L d s,i≤k→I i L d s→(i<k∧∃ L1 d1 s1,body cl cx L d s=.done .norm L1 d1 s1∧I (i+1) L1 d1 s1)∨(∃ e L1 d1 s1,e≠.norm∧body cl cx L d s=.done e L1 d1 s1∧Q e L1 d1 s1)) :
  ∀ (m i fuel:Nat) (L:Env) (d:List Nat) (s:St),i+m=k→m<fuel→I i L d s→∃ e L1 d1 s1,loopN body fuel cl cx L d s=.done e L1 d1 s1∧Q e L1 d1 s1
 | m,i,0,_,_,_,_,hf,_=>by omega
 | m,i,fuel+1,L,d,s,hm,hf,hI=>by
  rcases step i L d s (by omega) hI with ⟨hi,L1,d1,s1,h1,h2⟩ | ⟨e,L1,d1,s1,he,h1,h2⟩
  ·obtain ⟨m',rfl⟩:∃ m',m=m'+1:=⟨m - 1,by omega⟩
   obtain ⟨e,L2,d2,s2,h3,h4⟩:=loop_dinv I Q k step m' (i+1) fuel L1 d1 s1 (by omega) (by omega) h2
   exact ⟨e,L2,d2,s2,by rw [loopN_succ,h1];exact h3,h4⟩
  ·refine ⟨e,L1,d1,s1,?_,h2⟩
   rw [loopN_succ,h1]
   cases e<;>first | rfl | exact absurd rfl he
theorem loop_d {body:K} {cl:CallF} {cx:Ctx} {L:Env} {d:List Nat} {s:St} {r:R} (hr:loopN body rounds cl cx L d s=r) (I:Nat→Env→List Nat→St→Prop) (Q:Ex→Env→List Nat→St→Prop) (k:Nat) (hk:k<rounds) (h0:I 0 L d s)
  (step:∀ i L d s,i≤k→I i L d s→(i<k∧∃ L1 d1 s1,body cl cx L d s=.done .norm L1 d1 s1∧I (i+1) L1 d1 s1)∨(∃ e L1 d1 s1,e≠.norm∧body cl cx L d s=.done e L1 d1 s1∧Q e L1 d1 s1)) :
  ∃ e L1 d1 s1,r=.done e L1 d1 s1∧Q e L1 d1 s1:=by
 obtain ⟨e,L1,d1,s1,h1,h2⟩:=loop_dinv I Q k step k 0 rounds L d s (by omega) hk h0
 exact ⟨e,L1,d1,s1,hr.symm.trans h1,h2⟩
theorem take_dfrs:∀ {d:List Nat} {s:St},d.Nodup→(∀ c ∈ d,s.h.get c=some .dfr)→∃ s',takeDfs s d=some s'∧(∀ c,c ∉ d→s'.h.get c=s.h.get c)∧s'.n=s.n∧(∀ u,u≤s.m→(∀ c ∈ d,u≤c)→u≤s'.m)∧s'.m≤s.m
 | [],s,_,_=>⟨s,rfl,fun _ _=>rfl,rfl,fun _ h _=>h,Nat.le_refl _⟩
 | b::d,s,hd,h=>by
  obtain ⟨h1,h2⟩:=List.nodup_cons.mp hd
  have hb:=h b (List.mem_cons_self ..)
  obtain ⟨s',e,a1,a2,a3,a4⟩:=take_dfrs (d:=d) (s:=s.kill b) h2 (fun c hc=>by
   rw [get_kill_ne _ _ _ (show c≠b from fun e=>h1 (by rw [← e];exact hc))]
   exact h c (List.mem_cons_of_mem _ hc))
  have km:(s.kill b).m=min s.m b:=by simp only [St.kill,minN_eq]
  refine ⟨s',?_,fun c hc=>?_,a2,fun u hu hc=>a3 u ?_ (fun c h=>hc c (List.mem_cons_of_mem _ h)),?_⟩
  ·show (match s.h.get b with | some .dfr=>takeDfs (s.kill b) d | _=>none)=_
   rw [hb];exact e
  ·rw [a1 c (fun h=>hc (List.mem_cons_of_mem _ h)),get_kill_ne _ _ _ (fun e=>hc (by rw [e];exact List.mem_cons_self ..))]
  ·rw [km]
   have:=hc b (List.mem_cons_self ..)
   omega
  ·rw [km] at a4;omega
theorem leave_dfrs {P:Program} {rs:List ResultVar} {d:List Nat} {L:Env} {s s':St} (h:takeDfs s d=some s'):leaveA P rs L d s=leaveA P rs L [] s':=by
 unfold leaveA
 rw [h]
 rfl
end Go.Abs
namespace Go.Proofs.Ythbhjgbpjlnbcaa.walk
open Go.Abs Go.Proofs.Ythbhjgbpjlnbcaa.code
theorem repA_hcell (k:Nat):repA k k=hcell (List.replicate k (-1)):=by
 unfold repA hcell intRows
 rw [Nat.sub_self,List.replicate_zero,List.append_nil,List.map_replicate]
 induction k with
 | zero=>rfl
 | succ k ih=>rw [List.replicate_succ,List.replicate_succ,List.flatten_cons,← ih];rfl
theorem holdF_none (k:Nat):holdF (List.replicate k (-1))=fun _ => -1:=by
 funext s
 unfold holdF
 by_cases h:s<k
 ·simp [List.getD,h]
 ·simp [List.getD,h]
theorem Let_ex {N:Nat} {no na:Nat→Prop} {l:Letting} {vS vA:AV} {s:St} {r:ARes} (hr:call Try.prog X N (.fn 18) [.agg (letV vS vA)] s=r) (hN:16≤N) (ok:l.Ok) (hL:LetAt no na s.h s.n l vS vA) (hs:s.n+4000000≤far) :
  ∃ v t hs,r=.val (.tup [v,.int .i64 0]) t∧New s t 2200000∧Sl (fun x=>s.n≤x) t.h t.n 1 (intRows hs) v∧hs.length=l.stalls.length∧(mktOf l).Inv (holdF hs) []:=by
 obtain ⟨M,rfl⟩:∃ M,N=M+5:=⟨N - 5,by omega⟩
 have hf:far=1000000000:=rfl
 obtain ⟨v,t,e,st,v',hs,rfl,hq⟩:=call_new (n:=M+4) (args:=[.agg (letV vS vA)]) (s:=s) (k:=2200000) (Q:=fun v h n=>∃ v' hs,v=.tup [v',.int .i64 0]∧Sl (fun x=>s.n≤x) h n 1 (intRows hs) v'∧hs.length=l.stalls.length∧(mktOf l).Inv (holdF hs) []) Try.func18 rfl (fun u uh un um=>by
  rw [← uh,← un] at hL
  rw [← un]
  have k0:=ok.k0
  have k1:=ok.k1
  have m1:=ok.m1
  have kA:=hL.okV
  have kS:=hL.okS
  have lS:=hL.lenS
  have z0:decide ((0:Int)=0)=true:=rfl
  obtain ⟨w0,hw0⟩:∃ w:St,w=u.new (.cells [vS,vA] (tag 28)):=⟨_,rfl⟩
  have w0n:w0.n=u.n+1:=by rw [hw0];rfl
  have w0m:w0.m=far:=by rw [hw0];exact um
  have w0g:∀ c,c<u.n→w0.h.get c=u.h.get c:=fun c hc=>by rw [hw0,get_new_ne _ _ _ (by omega)]
  have w00:w0.h.get u.n=some (.cells [vS,vA] (tag 28)):=by rw [hw0];exact get_new_eq _ _ _ rfl (by omega)
  have hM:=hL.grow w0g (by omega:u.n≤w0.n)
  have c1:=check_ok (M+4) (by omega) l ok vS vA w0 hM (by omega)
  rw [enter18]
  simp (disch:=first|omega|(with_unfolding_all exact rfl)|(simp only[new_n,put_n,new_m];omega)|(refine put_m_le ?_;simp only[new_m];omega)) only [K18,K18r0,Abs.W,reduceIte,Nat.reduceEqDiff,Nat.reduceAdd,decide_true,decide_false,kLoop_def,Nat.reduceSub,List.cons_append,List.nil_append,List.append_nil,List.length_cons,List.length_nil]
  rw [← hw0]
  simp (disch:=first|omega|(with_unfolding_all exact rfl)|(simp only[new_n,put_n,new_m];omega)|(refine put_m_le ?_;simp only[new_m];omega)) only [K18r1,K18r2,K18r4,Abs.W,reduceIte,Nat.reduceEqDiff,Nat.reduceAdd,decide_true,decide_false,kLoop_def,Nat.reduceSub,List.cons_append,List.nil_append,List.append_nil,List.length_cons,List.length_nil,Env.find_set,w00,c1,z0,kA,kS,Nat.zero_add]
  generalize hc:call _ _ _ (.fn 39) _ _=rc
  obtain ⟨vr,t1,bm,rfl,s1,hR,hbm⟩:=rank_ex hc (by omega) ok hM (by omega)
  have s1n:=s1.n
  have s1l:=s1.le
  have s1m:=s1.m
  obtain ⟨hv,hbm2⟩:=hR.slice (by omega)
  subst hv
  have t1g:∀ c,c<u.n→t1.h.get c=u.h.get c:=fun c hc=>(s1.same c (by omega)).trans (w0g c hc)
  have t10:=(s1.same u.n (by omega)).trans w00
  simp (disch:=first|omega|(with_unfolding_all exact rfl)|(simp only[new_n,put_n,new_m];omega)|(refine put_m_le ?_;simp only[new_m];omega)) only [Abs.W,reduceIte,Nat.reduceEqDiff,Nat.reduceAdd,decide_true,decide_false,kLoop_def,Nat.reduceSub,List.cons_append,List.nil_append,List.append_nil,List.length_cons,List.length_nil,Env.find_set,Nat.zero_add]
  generalize hy:St.put _ _ _=y
  have yn:y.n=t1.n+1:=by rw [← hy,put_n,new_n]
  have yg:∀ c,c<t1.n→y.h.get c=t1.h.get c:=fun c hc=>by rw [← hy,get_put_ne' _ _ _ _ (by omega),get_new_ne _ _ _ (by omega)]
  have yp:∃ z5,y.h.get t1.n=some (.cells [.slice bm 0 l.stalls.length l.stalls.length true] z5):=⟨_,by rw [← hy];exact get_put_eq _ _ _ _ rfl (by omega)⟩
  have ym:y.m=min t1.m t1.n:=by rw [← hy];simp only [St.put,minN_eq,new_m]
  obtain ⟨z5,yp⟩:=yp
  have y0:=(yg u.n (by omega)).trans t10
  obtain ⟨x,hx⟩:∃ x:St,x=y.new (.cells [.int .i64 (-1)] 0):=⟨_,rfl⟩
  have xn:x.n=y.n+1:=by rw [hx];rfl
  have xm:x.m=y.m:=by rw [hx];rfl
  have xg:∀ c,c<y.n→x.h.get c=y.h.get c:=fun c hc=>by rw [hx,get_new_ne _ _ _ (by omega)]
  have xp:x.h.get y.n=some (.cells [.int .i64 (-1)] 0):=by rw [hx];exact get_new_eq _ _ _ rfl (by omega)
  have x0:=(xg u.n (by omega)).trans y0
  simp (disch:=first|omega|(with_unfolding_all exact rfl)|(simp only[new_n,put_n,new_m];omega)|(refine put_m_le ?_;simp only[new_m];omega)) only [K18r5,Abs.W,reduceIte,Nat.reduceEqDiff,Nat.reduceAdd,decide_true,decide_false,kLoop_def,Nat.reduceSub,List.cons_append,List.nil_append,List.append_nil,List.length_cons,List.length_nil,Env.find_set,Nat.zero_add]
  rw [← hx]
  simp (disch:=first|omega|(with_unfolding_all exact rfl)|(simp only[new_n,put_n,new_m];omega)|(refine put_m_le ?_;simp only[new_m];omega)) only [Abs.W,reduceIte,Nat.reduceEqDiff,Nat.reduceAdd,decide_true,decide_false,kLoop_def,Nat.reduceSub,List.cons_append,List.nil_append,List.append_nil,List.length_cons,List.length_nil,Env.find_set,x0,y0,kS,lS,Nat.zero_add]
  generalize hc2:call _ _ _ (.fn 40) _ _=rc
  obtain ⟨t2,rfl,s2,t2n,t2g⟩:=repeat_ex hc2 (by omega) k0 k1 xp (by omega) (by omega)
  have s2m:=s2.m
  simp (disch:=first|omega|(with_unfolding_all exact rfl)|(simp only[new_n,put_n,new_m];omega)|(refine put_m_le ?_;simp only[new_m];omega)) only [Abs.W,reduceIte,Nat.reduceEqDiff,Nat.reduceAdd,decide_true,decide_false,kLoop_def,Nat.reduceSub,List.cons_append,List.nil_append,List.append_nil,List.length_cons,List.length_nil,Env.find_set,Nat.zero_add]
  generalize hy3:St.put _ _ _=y3
  have y3n:y3.n=t2.n+1:=by rw [← hy3,put_n,new_n]
  have y3g:∀ c,c<t2.n→y3.h.get c=t2.h.get c:=fun c hc=>by rw [← hy3,get_put_ne' _ _ _ _ (by omega),get_new_ne _ _ _ (by omega)]
  have y3p:∃ z6,y3.h.get t2.n=some (.cells [.slice x.n 0 l.stalls.length l.stalls.length false] z6):=⟨_,by rw [← hy3];exact get_put_eq _ _ _ _ rfl (by omega)⟩
  have y3m:y3.m=min t2.m t2.n:=by rw [← hy3];simp only [St.put,minN_eq,new_m]
  obtain ⟨z6,y3p⟩:=y3p
  have b3:∀ c,c<x.n→y3.h.get c=x.h.get c:=fun c hc=>(y3g c (by omega)).trans (s2.same c hc)
  have y30:=(b3 u.n (by omega)).trans x0
  have hL3:=hL.grow (h':=y3.h) (n':=y3.n) (fun c hc=>(b3 c (by omega)).trans ((xg c (by omega)).trans ((yg c (by omega)).trans (t1g c hc)))) (by omega)
  simp (disch:=first|omega|(with_unfolding_all exact rfl)|(simp only[new_n,put_n,new_m];omega)|(refine put_m_le ?_;simp only[new_m];omega)) only [K18r6,Abs.W,reduceIte,Nat.reduceEqDiff,Nat.reduceAdd,decide_true,decide_false,kLoop_def,Nat.reduceSub,List.cons_append,List.nil_append,List.append_nil,List.length_cons,List.length_nil,Env.find_set,y30,kS,kA,Nat.zero_add]
  generalize hc3:call _ _ _ (.fn 41) _ _=rc
  obtain ⟨t3,rfl,s3,t3n,t3g⟩:=everybody_ex hc3 (by omega) ok hL3 (by omega)
  have s3m:=s3.m
  simp (disch:=first|omega|(with_unfolding_all exact rfl)|(simp only[new_n,put_n,new_m];omega)|(refine put_m_le ?_;simp only[new_m];omega)) only [Abs.W,reduceIte,Nat.reduceEqDiff,Nat.reduceAdd,decide_true,decide_false,kLoop_def,Nat.reduceSub,List.cons_append,List.nil_append,List.append_nil,List.length_cons,List.length_nil,Env.find_set,Nat.zero_add]
  generalize hw:St.put _ _ _=w
  have wn:w.n=t3.n+1:=by rw [← hw,put_n,new_n]
  have wg:∀ c,c<t3.n→w.h.get c=t3.h.get c:=fun c hc=>by rw [← hw,get_put_ne' _ _ _ _ (by omega),get_new_ne _ _ _ (by omega)]
  have wp:∃ z7,w.h.get t3.n=some (.cells [.slice (y3.n+1) 0 l.appls.length l.appls.length false] z7):=⟨_,by rw [← hw];exact get_put_eq _ _ _ _ rfl (by omega)⟩
  have wm:w.m=min t3.m t3.n:=by rw [← hw];simp only [St.put,minN_eq,new_m]
  obtain ⟨z7,wp⟩:=wp
  have b2:∀ c,c<y3.n→w.h.get c=y3.h.get c:=fun c hc=>(wg c (by omega)).trans (s3.same c hc)
  have b1:∀ c,c<x.n→w.h.get c=x.h.get c:=fun c hc=>(b2 c (by omega)).trans (b3 c hc)
  have b0:∀ c,c<t1.n→w.h.get c=t1.h.get c:=fun c hc=>(b1 c (by omega)).trans ((xg c (by omega)).trans (yg c hc))
  have hB:OfferB (fun y=>no y∧y<u.n) (fun y=>na y∧y<u.n) w u.n t1.n bm t1.n x.n t2.n (y3.n+1) t3.n z5 z6 l vS vA (.slice bm 0 l.stalls.length l.stalls.length true) :=
   ⟨(b0 u.n (by omega)).trans t10,hL.bound.move (fun b h1 h2=>⟨(b0 b (by omega)).trans (t1g b h1),h2⟩) (fun b h1 h2=>⟨(b0 b (by omega)).trans (t1g b h1),h2⟩) (Nat.le_refl _),(b1 t1.n (by omega)).trans ((xg t1.n (by omega)).trans yp),(hR.move (fun _=>by omega) (fun c h1 _=>b0 c h1) (Nat.le_refl _)).weak (by omega),fun _=>by omega,(b2 t2.n (by omega)).trans y3p,by omega,Nat.le_refl _,by omega,by omega,by omega,by omega,by omega⟩
  have hh0:w.h.get x.n=some (.cells (hcell (List.replicate l.stalls.length (-1))) 0):=by
   rw [b2 x.n (by omega),y3g x.n (by omega),t2g,repA_hcell]
  have hq0:QAt w.h w.n (y3.n+1) (List.range l.appls.length) (.slice (y3.n+1) 0 l.appls.length l.appls.length false):=by
   refine ⟨by omega,0,_,0,(wg (y3.n+1) (by omega)).trans t3g,.inl ⟨by rw [List.length_range],?_⟩⟩
   have:=cut1_all (arr (List.range l.appls.length))
   rw [arr_len] at this
   rw [cut_zero]
   exact this
  have hms:(mktOf l).meas (holdF (List.replicate l.stalls.length (-1))) (List.range l.appls.length)≤72:=by
   rw [holdF_none]
   refine Nat.le_trans (Mkt.meas_start (m:=mktOf l)) ?_
   show l.stalls.length * l.appls.length+l.appls.length≤72
   have:=Nat.mul_le_mul k1 m1
   omega
  generalize hlp:loopN _ rounds _ _ _ _ _=rl
  obtain ⟨e,L1,d1,s',rfl,rfl,hs,J,I,f6⟩:=loop_d hlp (fun i L d t=>∃ hs q,OfferJ w t u.n x.n (y3.n+1) t3.n 0 z7 l hs q d (30000 * i)∧(mktOf l).Inv (holdF hs) q∧i+(mktOf l).meas (holdF hs) q≤72∧L.find 1=.ptr u.n 0∧L.find 5=.ptr t1.n 0∧L.find 6=.ptr t2.n 0∧L.find 7=.ptr t3.n 0)
   (fun e L d t=>e=.exit 0∧∃ hs,OfferJ w t u.n x.n (y3.n+1) t3.n 0 z7 l hs [] d (30000 * 72)∧(mktOf l).Inv (holdF hs) []∧L.find 6=.ptr t2.n 0) 72 (by unfold rounds;omega)
   ⟨List.replicate l.stalls.length (-1),List.range l.appls.length,⟨hh0,List.length_replicate,⟨_,_,wp,hq0,.inl rfl⟩,fun _ _ _ _ _=>rfl,Nat.le_refl _,by omega,by omega,by omega,fun c h=>(by cases h),List.nodup_nil⟩,by rw [holdF_none];exact Mkt.Inv.start (mktOf_ok ok),by omega,by simp only [find_cons,reduceIte,Nat.reduceEqDiff],by simp only [find_cons,reduceIte,Nat.reduceEqDiff],by simp only [find_cons,reduceIte,Nat.reduceEqDiff],by simp only [find_cons,reduceIte,Nat.reduceEqDiff]⟩
   (fun i L d t hi ⟨hs,q,J,I,hm,f1,f5,f6,f7⟩=>by
    cases q with
    | nil =>
     obtain ⟨gh,hk,⟨vq,b,gw,hQ,hb⟩,same,jn,jle,jm,jml,dd,dn⟩:=J
     have kq:=hQ.okA
     have lq:=hQ.len
     have e0:decide ((0:Int)<((0:Nat):Int))=false:=by simp
     refine .inr ⟨.exit 0,L.set 27 (.bool false),d,t,by simp,?_,rfl,hs,⟨gh,hk,⟨vq,b,gw,hQ,hb⟩,same,jn,by omega,jm,jml,dd,dn⟩,I,?_⟩
     ·simp (disch:=first|omega|(with_unfolding_all exact rfl)|(simp only[new_n,put_n,new_m];omega)|(refine put_m_le ?_;simp only[new_m];omega)) only [K18l0,K18r7,Abs.W,reduceIte,Nat.reduceEqDiff,Nat.reduceAdd,decide_true,decide_false,kLoop_def,Nat.reduceSub,List.cons_append,List.nil_append,List.append_nil,List.length_cons,List.length_nil,Env.find_set,f7,gw,kq,lq,e0,Nat.zero_add]
     ·simp only [Env.find_set,f6,reduceIte,Nat.reduceEqDiff]
    | cons a r =>
     have hr:r.length≤90:=by
      have:(a::r).length≤(mktOf l).meas (holdF hs) (a::r):=Nat.le_add_left _ _
      rw [List.length_cons] at this
      omega
     obtain ⟨L1,d1,t1',hs1,q1,e1,J1,I1,hm1,g1,g5,g6,g7⟩:=offer_round M (by omega) ok hB J I hr f1 f5 f6 f7 (by omega)
     exact .inl ⟨by omega,L1,d1,t1',e1,hs1,q1,by rw [Nat.mul_succ];exact J1,I1,by omega,g1,g5,g6,g7⟩)
  obtain ⟨gh,hk,_,same,jn,jle,jm,jml,dd,dn⟩:=J
  obtain ⟨s'',ed,d0,d1n,d2,d3⟩:=take_dfrs dn (fun c hc=>(dd c hc).2.2)
  have g6:=(same t2.n (by omega) (by omega) (by omega) (by omega)).trans ((b2 t2.n (by omega)).trans y3p)
  simp (disch:=first|omega|(with_unfolding_all exact rfl)|(simp only[new_n,put_n,new_m];omega)|(refine put_m_le ?_;simp only[new_m];omega)) only [K18r11,res18,Abs.W,reduceIte,Nat.reduceEqDiff,Nat.reduceAdd,decide_true,decide_false,kLoop_def,Nat.reduceSub,List.cons_append,List.nil_append,List.append_nil,List.length_cons,List.length_nil,Env.find_set,f6,g6,Nat.zero_add]
  rw [leave_dfrs ed]
  have dl:∀ c ∈ d1,w.n≤c:=fun c hc=>(dd c hc).1
  have hsm:=d2 u.n jm (fun c hc=>by have:=dl c hc;omega)
  have lv:leaveA Try.prog [.tmp 2,.tmp 3] (Env.set 3 (.int .i64 0) (Env.set 2 (.slice x.n 0 l.stalls.length l.stalls.length false) L1)) [] s''=.val (.tup [.slice x.n 0 l.stalls.length l.stalls.length false,.int .i64 0]) s'':=by
   have e2:(Env.set 3 (.int .i64 0) (Env.set 2 (.slice x.n 0 l.stalls.length l.stalls.length false) L1)).find 2=.slice x.n 0 l.stalls.length l.stalls.length false:=by simp only [Env.find_set,reduceIte,Nat.reduceEqDiff]
   have e3:(Env.set 3 (.int .i64 0) (Env.set 2 (.slice x.n 0 l.stalls.length l.stalls.length false) L1)).find 3=.int .i64 0:=by simp only [Env.find_set,reduceIte,Nat.reduceEqDiff]
   show ARes.val (oneA [Env.find 2 _,Env.find 3 _]) s''=_
   rw [e2,e3]
   rfl
  rw [lv]
  refine ⟨_,_,rfl,⟨fun c hc=>?_,by omega,by omega,hsm,by omega⟩,rfl,_,hs,rfl,⟨hcell_wide hs,.inr ⟨x.n,0,l.stalls.length,false,_,0,by omega,by omega,⟨by unfold intRows;rw [List.length_map];omega,fun h=>(by cases h)⟩,?_,(d0 x.n (fun h=>by have:=dl _ h;omega)).trans gh,?_⟩⟩,hk,I⟩
  ·rw [d0 c (fun h=>by have:=dl _ h;omega),same c (by omega) (by omega) (by omega) (by omega),b0 c (by omega)]
   exact t1g c hc
  ·have:(intRows hs).length=l.stalls.length:=by unfold intRows;rw [List.length_map];exact hk
   rw [this]
  ·rw [cut_zero,← flatten_len (hcell_wide hs)]
   exact cut1_all (hcell hs))
 exact ⟨v',t,hs,hr.symm.trans e,st,hq⟩
end Go.Proofs.Ythbhjgbpjlnbcaa.walk
set_option maxRecDepth 10000
namespace Go.Proofs.Ythbhjgbpjlnbcaa.walk
open Go.Abs Go.Proofs.Ythbhjgbpjlnbcaa.code
theorem rowsOf_set:∀ {l:List Appl} {ws:List (AV × AV)} {i:Nat} {A:Appl} {w:AV × AV},rowsOf (l.set i A) (ws.set i w)=(rowsOf l ws).set i (A.row w)
 | [],_,_,_,_=>by simp [rowsOf]
 | _::_,[],_,_,_=>by simp [rowsOf]
 | a::l,v::ws,0,_,_=>rfl
 | a::l,v::ws,i+1,A,w=>by
  have:=rowsOf_set (l:=l) (ws:=ws) (i:=i) (A:=A) (w:=w)
  unfold rowsOf at this ⊢
  rw [List.set_cons_succ,List.set_cons_succ,List.zipWith_cons_cons,this,List.zipWith_cons_cons,List.set_cons_succ]
theorem told_cells {l:List Appl} {ws:List (AV × AV)} {i:Nat} (h:ws.length=l.length) (hi:i<l.length) (y z:Int) (vw vb:AV) (hy:l[i].years=y) (hz:l[i].token=z) (wl bl:List Int):((rowsOf l ws).flatten.set (i * 4+2) vw).set (i * 4+3) vb=(rowsOf (l.set i ⟨y,z,wl,bl⟩) (ws.set i (vw,vb))).flatten:=by
 have lr:=rowsOf_len h
 have hi':i<(rowsOf l ws).length:=by omega
 have wd:=rowsOf_wide h
 have er:(rowsOf l ws)[i]=l[i].row ws[i]:=rowsOf_get hi' hi (by omega)
 have e1:=flat_setA vw (rows:=rowsOf l ws) (w:=4) (i:=i) (j:=2) wd hi' (by omega)
 rw [e1]
 have wd2:∀ r ∈ (rowsOf l ws).set i ((rowsOf l ws)[i].set 2 vw),r.length=4:=fun r hr=>by
  rcases List.mem_or_eq_of_mem_set hr with h | h
  ·exact wd r h
  ·rw [h,List.length_set];exact wd _ (List.getElem_mem hi')
 have e2:=flat_setA vb (rows:=(rowsOf l ws).set i ((rowsOf l ws)[i].set 2 vw)) (w:=4) (i:=i) (j:=3) wd2 (by rw [List.length_set];exact hi') (by omega)
 rw [e2,List.getElem_set_self,List.set_set,er,rowsOf_set]
 congr 2
 unfold Appl.row
 rw [hy,hz]
 rfl
end Go.Proofs.Ythbhjgbpjlnbcaa.walk
set_option maxRecDepth 10000
namespace Go.Proofs.Ythbhjgbpjlnbcaa.walk
open Go.Abs Go.Proofs.Ythbhjgbpjlnbcaa.code
noncomputable abbrev awd (n:Nat):CallF:=knows 14 (call Try.prog X n)
def MetS (h:Heap) (n bm lo:Nat) (M:List (List Nat)) (v:AV):Prop :=
 ∃ vs:List AV,vs.length=M.length∧IsAt h n bm 1 (tag 22) (vs.map fun v=>[v]) v∧∀ j (h1:j<vs.length) (h2:j<M.length),Sl (fun x=>lo≤x∧x≠bm) h n 1 (natRows M[j]) vs[j]
section
variable {h h':Heap} {n n' bm lo:Nat} {M:List (List Nat)} {v:AV}
theorem MetS.nil (h:Heap) (n bm lo:Nat):MetS h n bm lo [] .nilslice:=⟨[],rfl,IsAt.nil _ _ _ _ _,fun j h1 _=>by simp at h1⟩
theorem MetS.move (a:MetS h n bm lo M v) (hb:bm<n→lo≤bm) (hh:∀ c,c<n→lo≤c→h'.get c=h.get c) (hn:n≤n'):MetS h' n' bm lo M v:=by
 obtain ⟨vs,h1,h2,h3⟩:=a
 exact ⟨vs,h1,h2.mono (fun h=>hh _ h (hb h)) hn,fun j j1 j2=>(h3 j j1 j2).move (fun c hc hl=>⟨hh c hc hl.1,hl⟩) hn⟩
theorem MetS.okA (a:MetS h n bm lo M v) (t:St):Abs.okA (.val v t)=.val v t:=by obtain ⟨rows,h1,h2,h3⟩:=a;exact h2.okA t
theorem MetS.len (a:MetS h n bm lo M v) (s:St):lenSlA s v=.val (.int .i64 (M.length:Int)) s:=by
 obtain ⟨vs,h1,h2,h3⟩:=a
 have:=h2.rows.at_.len s
 rw [List.length_map,h1] at this
 exact this
theorem MetS.get (a:MetS h n bm lo M v) {j:Nat} (hj:j<M.length) :
  ∃ w p c sz,Sl (fun x=>lo≤x∧x≠bm) h n 1 (natRows M[j]) w∧(∀ s,ixsA 1 s v (.int .i64 (j:Int))=.val (.ptr bm p) s)∧h.get bm=some (.cells c sz)∧nth c p=w:=by
 obtain ⟨vs,h1,h2,h3⟩:=a
 have hr:j<vs.length:=by omega
 rcases h2.is with ⟨z,_⟩ | ⟨_,z1,z2,z3⟩
 ·rw [List.map_eq_nil_iff] at z
  subst z
  simp at hr
 ·refine ⟨vs[j],0+j * 1,_,_,h3 j hr hj,fun s=>by rw [z2];exact ixs_slice 1 s bm 0 _ _ true j (by rw [List.length_map];exact hr),z3,?_⟩
  rw [Nat.zero_add]
  have:=flatten_cut (rows:=vs.map fun v=>[v]) (w:=1) (i:=j) h2.wide (by rw [List.length_map];exact hr)
  exact cut1_nth (this.trans (by simp))
end
theorem MetS.push {s:St} {bm lo:Nat} {M:List (List Nat)} {v:AV} (a:MetS s.h s.n bm lo M v) {l:List Nat} {w:AV} (hw:Sl (fun x=>lo≤x∧x≠bm) s.h s.n 1 (natRows l) w) {p sz:Nat} (hp:s.h.get p=some (.cells [w] sz)) (hl:M.length+1≤1000) (hs:s.n+10≤far) :
  ∃ v' s',appendA false 1 24 (tag 22) s v (.slice p 0 1 1 false)=.val v' s'∧MetS s'.h s'.n s.n lo (M++[l]) v'∧s'.n=s.n+1∧(∀ c,c<s.n→c≠bm→s'.h.get c=s.h.get c):=by
 have hf:far=1000000000:=rfl
 obtain ⟨vs,h1,h2,h3⟩:=a
 obtain ⟨s',e1,e2,e3,e4,e5,e6⟩:=append_at (bytes:=24) h2 hp rfl hw.scal.1 (by rw [List.length_map];omega) (by kernel_rfl) (by omega)
 have mv:∀ {l:List Nat} {w:AV},Sl (fun x=>lo≤x∧x≠bm) s.h s.n 1 (natRows l) w→Sl (fun x=>lo≤x∧x≠s.n) s'.h s'.n 1 (natRows l) w:=fun q=>q.move (fun b b1 b2=>⟨e4 b b1 b2.2,b2.1,by omega⟩) (by omega)
 refine ⟨_,s',e1,⟨vs++[w],by simp [h1],?_,fun j j1 j2=>?_⟩,e3,e4⟩
 ·rw [List.map_append];exact e2
 ·by_cases e:j<vs.length
  ·rw [List.getElem_append_left e,List.getElem_append_left (by omega)]
   exact mv (h3 j e (by omega))
  ·have hj:j=vs.length:=by rw [List.length_append,List.length_singleton] at j1;omega
   subst hj
   rw [List.getElem_append_right (Nat.le_refl _),List.getElem_append_right (by omega)]
   simp only [h1,Nat.sub_self,List.getElem_singleton]
   exact mv hw
/-! ### The draw has each once -/
def draws (n base from_ j:Nat):List (List Nat):=(List.range j).map fun i=>pickL n (base+from_+i) (List.range n)
structure DrawnJ (w t:St) (p4 lo bS bA who bm n base from_ j kk:Nat) (l:Letting) (vS vA vm:AV):Prop where
 own:∃ x,0≤x∧x≤1000000000∧LetOwn t.h w.n lo bS bA (l.withTok who x) vS vA
 g4:t.h.get p4=some (.cells [vS,vA] (tag 28))
 met:MetS t.h t.n bm w.n (draws n base from_ j) vm
 bmc:(w.n≤bm∧bm<t.n)∨far<bm
 n:w.n≤t.n
 le:t.n≤w.n+kk
end Go.Proofs.Ythbhjgbpjlnbcaa.walk
set_option maxRecDepth 10000
namespace Go.Proofs.Ythbhjgbpjlnbcaa.walk
open Go.Abs Go.Proofs.Ythbhjgbpjlnbcaa.code
theorem endO_one {M:Env} {s:St} {t u:Nat} (h:apartA (M.find t) (M.find u)=true):endO [(t,u)] (.ok M s)=.ok M s:=endO_ok s (by rw [endOk_cons h,endOk_nil])
theorem room_w {N:Nat} (hN:1≤N) {L:Env} {t:St} {r:ORes} {bA wo k p4 sz q z4:Nat} {F:List AV} {wl:List Int} {vw vS vA:AV} {no:Nat→Prop} (hr:K7r10 (awd N) L t=r)
  (gA:t.h.get bA=some (.cells F sz)) (hF:wo+4≤F.length) (nF:nth F (wo+2)=vw) (hW:Sl no t.h t.n 1 (intRows wl) vw) (hno:¬ no bA) (hk:k≤wl.length) (hwl:wl.length≤8) (g4:t.h.get p4=some (.cells [vS,vA] z4)) (kS:∀ t,okA (.val vS t)=.val vS t) (lS:∀ s,lenSlA s vS=.val (.int .i64 (q:Int)) s) (h4:p4<t.n∧p4≠bA) (hbA:bA<t.n) (hs:t.n+1000≤far) (hm:t.m≤far)
  (q4:L.find 4=.ptr p4 0) (q7:L.find 7=.ptr bA wo) (q8:L.find 8=.int .i64 (k:Nat)) :
  ∃ M t1 v' b',r=.ok M t1∧t1.h.get bA=some (.cells (F.set (wo+2) v') sz)∧IsAt t1.h t1.n b' 1 (tag 3) (intRows (wl.take k++(q:Int)::wl.drop k)) v'∧t.n≤b'∧(∀ c,c<t.n→c≠bA→t1.h.get c=t.h.get c)∧t.n≤t1.n∧t1.n≤t.n+10∧(∀ u,u≤bA→u≤t.m→u≤t1.m)∧t1.m≤t.m:=by
 subst hr
 have hf:far=1000000000:=rfl
 have knC:∀ args s,awd N (.fn 28) args s=call Try.prog X N (.fn 28) args s:=fun _ _=>rfl
 have kw:=hW.okA
 obtain ⟨v61,e61,S61⟩:=hW.to (i:=k) (by rw [intRows_len];exact hk)
 rw [intRows_take] at S61
 obtain ⟨v73,e73,R73⟩:=hW.from_ (i:=k) (by rw [intRows_len];exact hk)
 rw [intRows_drop] at R73
 simp (disch:=first|omega|(with_unfolding_all exact rfl)|(simp only[new_n,put_n,new_m];omega)|(refine put_m_le ?_;simp only[new_m];omega)) only [K7r10,Abs.W,reduceIte,Nat.reduceEqDiff,Nat.reduceAdd,decide_true,decide_false,kLoop_def,Nat.reduceSub,List.cons_append,List.nil_append,List.append_nil,List.length_cons,List.length_nil,Env.find_set,q4,q7,q8,gA,nF,kw,kSlice_def,optEv_some,optEv_none,e61,knC,Nat.zero_add]
 generalize hc:call _ _ _ (.fn 28) _ _=rc
 obtain ⟨v62,t2,rfl,s2,S2,I2,Z2⟩:=copyInts_ex (l:=wl.take k) hc hN S61 (by rw [List.length_take];omega) (by show t.n+100≤far;omega)
 have s2n:t.n≤t2.n:=s2.n
 have s2l:t2.n≤t.n+2:=s2.le
 have s2m:t2.m=far:=s2.m
 have t2g:∀ c,c<t.n→t2.h.get c=t.h.get c:=s2.same
 have k62:=S2.okA
 have mm:minN t.m t2.m=t.m:=by rw [minN_min];omega
 have t24:=(t2g p4 h4.1).trans g4
 have t2A:=(t2g bA hbA).trans gA
 obtain ⟨y,hy⟩:∃ y:St,y=(⟨t2.h,t2.n,t.m⟩:St).new (.cells [.int .i64 (q:Int)] 0):=⟨_,rfl⟩
 have yn:y.n=t2.n+1:=by rw [hy];rfl
 have ym:y.m=t.m:=by rw [hy];rfl
 have yg:∀ c,c<t2.n→y.h.get c=t2.h.get c:=fun c hc=>by rw [hy];exact get_new_ne _ _ _ (by show c≠t2.n;omega)
 have yp:y.h.get t2.n=some (.cells [.int .i64 (q:Int)] 0):=by rw [hy];exact get_new_eq _ _ _ rfl (by show t2.n<_;omega)
 have t2z:wl.take k=[]→t.n<t2.n:=fun h=>by
  obtain ⟨sz,h1,h2⟩:=Z2 h
  rcases S2.is with ⟨_,z⟩ | ⟨bb,o,cap,e,c,sz,z1,z2,z3,z4,_⟩
  ·rw [h1] at z;cases z
  ·rw [h1] at z4
   injection z4 with z5
   have z5:t.n=bb:=z5
   omega
 obtain ⟨v67,t3,e67,I67,n3,g3,m3,m3'⟩:=copy_push (l:=wl.take k) (s:=y) (a:=t.n) (fun h=>(I2 h).mono (fun hb=>yg _ hb) (by omega)) (fun h=>by obtain ⟨sz,h1,h2⟩:=Z2 h;exact ⟨sz,h1,(yg _ (t2z h)).trans h2⟩) yp (by rw [List.length_take];omega) (by omega)
 rw [hy] at e67
 have yt:∀ c,c<t.n→y.h.get c=t.h.get c:=fun c hc=>(yg c (by omega)).trans (t2g c hc)
 have t3t:∀ c,c<t.n→t3.h.get c=t.h.get c:=fun c hc=>(g3 c (by omega) (by omega)).trans (yt c hc)
 have t3A:=(t3t bA hbA).trans gA
 obtain ⟨v74,t4,b4,e74,I74,hb4,n4,n4',g4',m4,m4'⟩:=app_rest (bytes:=8) I67 (by unfold intRows;simp) R73 (fun c hc hn=>t3t c hc) (fun r hr=>by unfold intRows at hr;obtain ⟨x,_,rfl⟩:=List.mem_map.mp hr;rfl) (by rw [intRows_len,intRows_len,List.length_append,List.length_take,List.length_drop];simp;omega) (by kernel_rfl) (by omega)
 rw [← intRows_app,List.append_assoc,List.singleton_append] at I74
 have t4t:∀ c,c<t.n→t4.h.get c=t.h.get c:=fun c hc=>(g4' c (by omega) (by omega)).trans (t3t c hc)
 have t4A:=(t4t bA hbA).trans gA
 have k67:=I67.okA
 have k74:=I74.scal
 have ov:=over_cell (c:=F) (i:=wo+2) v74 (by omega)
 simp (disch:=first|omega|(with_unfolding_all exact rfl)|(simp only[new_n,put_n,new_m];omega)|(refine put_m_le ?_;simp only[new_m];omega)) only [thenT_val,mm,Abs.W,reduceIte,Nat.reduceEqDiff,Nat.reduceAdd,decide_true,decide_false,kLoop_def,Nat.reduceSub,List.cons_append,List.nil_append,List.append_nil,List.length_cons,List.length_nil,Env.find_set,q4,q7,q8,t24,t2A,t3A,kS,lS,nF,kw,e67,kSlice_def,optEv_some,optEv_none,e73,R73.ok,e74,k74.1,k74.2,t4A,ov,Nat.zero_add]
 have ap:apartA v62 (.ptr bA (wo+2))=true:=S2.apart (c:=bA) (by show ¬ t.n≤bA;omega)
 rw [endO_one (by simp only [find_cons,Env.find_set,reduceIte,Nat.reduceEqDiff];exact ap)]
 refine ⟨_,_,v74,b4,rfl,get_put_eq _ _ _ _ rfl (by omega),I74.mono (fun _=>get_put_ne' _ _ _ _ (by omega)) (Nat.le_refl _),by omega,fun c h1 h2=>(get_put_ne' _ _ _ _ h2).trans (t4t c h1),by rw [put_n];omega,by rw [put_n];omega,fun u h1 h2=>?_,by simp only [St.put,minN_eq];omega⟩
 have:=m3 u (by omega) (by omega) (by omega)
 have:=m4 u (by omega) (by omega)
 simp only [St.put,minN_eq]
 omega
theorem room_b {N:Nat} (hN:3≤N) {L:Env} {t:St} {r:ORes} {bA wo k d sz:Nat} {F:List AV} {wl:List Int} {vw:AV} {no:Nat→Prop} (hr:K7r11 (awd N) L t=r)
  (gA:t.h.get bA=some (.cells F sz)) (hF:wo+4≤F.length) (nF:nth F (wo+3)=vw) (hW:Sl no t.h t.n 1 (intRows wl) vw) (hno:¬ no bA) (hnd:¬ no d) (hk:k≤wl.length) (hwl:wl.length≤8) (hd:Die d t.h) (hdb:d<t.n∧d≠bA) (hbA:bA<t.n) (hs:t.n+1000≤far) (hm:t.m≤far)
  (q3:L.find 3=.ptr d 0) (q7:L.find 7=.ptr bA wo) (q8:L.find 8=.int .i64 (k:Nat)) :
  ∃ (q:Int) (M:Env) (t1:St) (v':AV) (b':Nat),r=.ok M t1∧0≤q∧q≤8∧Die d t1.h∧t1.h.get bA=some (.cells (F.set (wo+3) v') sz)∧IsAt t1.h t1.n b' 1 (tag 3) (intRows (wl.take k++q::wl.drop k)) v'∧t.n≤b'∧(∀ c,c<t.n→c≠bA→c≠d→t1.h.get c=t.h.get c)∧t.n≤t1.n∧t1.n≤t.n+10∧(∀ u,u≤bA→u≤d→u≤t.m→u≤t1.m)∧t1.m≤t.m:=by
 subst hr
 have hf:far=1000000000:=rfl
 have knC:∀ args s,awd N (.fn 28) args s=call Try.prog X N (.fn 28) args s:=fun _ _=>rfl
 have knD:∀ args s,awd N (.fn 15) args s=call Try.prog X N (.fn 15) args s:=fun _ _=>rfl
 have kw:=hW.okA
 obtain ⟨v61,e61,S61⟩:=hW.to (i:=k) (by rw [intRows_len];exact hk)
 rw [intRows_take] at S61
 obtain ⟨v73,e73,R73⟩:=hW.from_ (i:=k) (by rw [intRows_len];exact hk)
 rw [intRows_drop] at R73
 simp (disch:=first|omega|(with_unfolding_all exact rfl)|(simp only[new_n,put_n,new_m];omega)|(refine put_m_le ?_;simp only[new_m];omega)) only [K7r11,Abs.W,reduceIte,Nat.reduceEqDiff,Nat.reduceAdd,decide_true,decide_false,kLoop_def,Nat.reduceSub,List.cons_append,List.nil_append,List.append_nil,List.length_cons,List.length_nil,Env.find_set,q7,q8,gA,nF,kw,kSlice_def,optEv_some,optEv_none,e61,knC,Nat.zero_add]
 generalize hc:call _ _ _ (.fn 28) _ _=rc
 obtain ⟨v62,t2,rfl,s2,S2,I2,Z2⟩:=copyInts_ex (l:=wl.take k) hc (by omega) S61 (by rw [List.length_take];omega) (by show t.n+100≤far;omega)
 have s2n:t.n≤t2.n:=s2.n
 have s2l:t2.n≤t.n+2:=s2.le
 have s2m:t2.m=far:=s2.m
 have t2g:∀ c,c<t.n→t2.h.get c=t.h.get c:=s2.same
 have k62:=S2.okA
 have mm:minN t.m t2.m=t.m:=by rw [minN_min];omega
 have hd2:Die d t2.h:=Die.keep hd (t2g d hdb.1)
 simp (disch:=first|omega|(with_unfolding_all exact rfl)|(simp only[new_n,put_n,new_m];omega)|(refine put_m_le ?_;simp only[new_m];omega)) only [thenT_val,mm,Abs.W,reduceIte,Nat.reduceEqDiff,Nat.reduceAdd,decide_true,decide_false,kLoop_def,Nat.reduceSub,List.cons_append,List.nil_append,List.append_nil,List.length_cons,List.length_nil,Env.find_set,q3,knD,Nat.zero_add]
 generalize hc2:call _ _ _ (.fn 15) _ _=rc
 obtain ⟨q,t9,rfl,sd,d9,q0,q1⟩:=cast_ex (s:=⟨t2.h,t2.n,far⟩) hc2 (by omega) hd2 (by show d<t2.n;omega) (by show t2.n+100≤far;omega) (by omega)
 have s9n:t2.n≤t9.n:=sd.n
 have s9l:t9.n≤t2.n+0:=sd.le
 have s9e:t9.n=t2.n:=by omega
 have t9g:∀ c,c<t2.n→c≠d→t9.h.get c=t2.h.get c:=sd.same
 have s9m:d≤t9.m:=sd.m (by show d≤far;omega)
 have hmq2:minN t.m t9.m=min t.m t9.m:=minN_min _ _
 have t2A:=(t2g bA hbA).trans gA
 have t9A:=(t9g bA (by omega) (Ne.symm hdb.2)).trans t2A
 have kA:keptV t2.h t9.h (.ptr bA (wo+3))=true:=by rw [keptV_ptr,t9A,t2A,sameO_cells]
 obtain ⟨y,hy⟩:∃ y:St,y=(⟨t9.h,t9.n,minN t.m t9.m⟩:St).new (.cells [.int .i64 q] 0):=⟨_,rfl⟩
 have yn:y.n=t9.n+1:=by rw [hy];rfl
 have ym:y.m=min t.m t9.m:=by rw [← hmq2,hy];rfl
 have yg:∀ c,c<t2.n→c≠d→y.h.get c=t2.h.get c:=fun c hc hcd=>by rw [hy];exact (get_new_ne _ _ _ (by show c≠t9.n;omega)).trans (t9g c hc hcd)
 have yp:y.h.get t9.n=some (.cells [.int .i64 q] 0):=by rw [hy];exact get_new_eq _ _ _ rfl (by show t9.n<_;omega)
 have t2z:wl.take k=[]→t.n<t2.n:=fun h=>by
  obtain ⟨sz,h1,h2⟩:=Z2 h
  rcases S2.is with ⟨_,z⟩ | ⟨bb,o,cap,e,c,sz,z1,z2,z3,z4,_⟩
  ·rw [h1] at z;cases z
  ·rw [h1] at z4
   injection z4 with z5
   have z5:t.n=bb:=z5
   omega
 obtain ⟨v67,t3,e67,I67,n3,g3,m3,m3'⟩:=copy_push (l:=wl.take k) (s:=y) (a:=t.n) (fun h=>(I2 h).mono (fun hb=>yg (t.n+1) hb (show t.n+1≠d by have:=hdb.1;omega)) (by omega)) (fun h=>by obtain ⟨sz,h1,h2⟩:=Z2 h;exact ⟨sz,h1,(yg t.n (t2z h) (show t.n≠d by have:=hdb.1;omega)).trans h2⟩) yp (by rw [List.length_take];omega) (by omega)
 rw [hy] at e67
 have yt:∀ c,c<t.n→c≠d→y.h.get c=t.h.get c:=fun c hc hcd=>(yg c (by omega) hcd).trans (t2g c hc)
 have t3t:∀ c,c<t.n→c≠d→t3.h.get c=t.h.get c:=fun c hc hcd=>(g3 c (by omega) (by omega)).trans (yt c hc hcd)
 have t3A:=(t3t bA hbA (Ne.symm hdb.2)).trans gA
 obtain ⟨v74,t4,b4,e74,I74,hb4,n4,n4',g4',m4,m4'⟩:=app_rest (bytes:=8) I67 (by unfold intRows;simp) R73 (fun c hc hn=>t3t c hc (fun e=>hnd (e▸hn))) (fun r hr=>by unfold intRows at hr;obtain ⟨x,_,rfl⟩:=List.mem_map.mp hr;rfl) (by rw [intRows_len,intRows_len,List.length_append,List.length_take,List.length_drop];simp;omega) (by kernel_rfl) (by omega)
 rw [← intRows_app,List.append_assoc,List.singleton_append] at I74
 have t4t:∀ c,c<t.n→c≠d→t4.h.get c=t.h.get c:=fun c hc hcd=>(g4' c (by omega) (by omega)).trans (t3t c hc hcd)
 have t4A:=(t4t bA hbA (Ne.symm hdb.2)).trans gA
 have k67:=I67.okA
 have k74:=I74.scal
 have ov:=over_cell (c:=F) (i:=wo+3) v74 (by omega)
 simp (disch:=first|omega|(with_unfolding_all exact rfl)|(simp only[new_n,put_n,new_m];omega)|(refine put_m_le ?_;simp only[new_m];omega)) only [thenT_turn,Abs.W,reduceIte,Nat.reduceEqDiff,Nat.reduceAdd,decide_true,decide_false,kLoop_def,Nat.reduceSub,List.cons_append,List.nil_append,List.append_nil,List.length_cons,List.length_nil,Env.find_set,q3,q7,q8,t2A,t9A,t3A,nF,kw,e67,kSlice_def,optEv_some,optEv_none,e73,R73.ok,e74,k74.1,k74.2,t4A,ov,Nat.zero_add]
 rw [endT_kept (l:=[91]) (s':=t9) (by simp only [keptAll_cons,keptAll_nil,find_cons,Env.find_set,kA,reduceIte,Nat.reduceEqDiff,Bool.and_self])]
 have ap:apartA v62 (.ptr bA (wo+3))=true:=S2.apart (c:=bA) (by show ¬ t.n≤bA;omega)
 rw [endO_one (by simp only [find_cons,Env.find_set,reduceIte,Nat.reduceEqDiff];exact ap)]
 refine ⟨q,_,_,v74,b4,rfl,q0,by omega,Die.keep d9 ?_,get_put_eq _ _ _ _ rfl (by omega),I74.mono (fun _=>get_put_ne' _ _ _ _ (by omega)) (Nat.le_refl _),by omega,fun c h1 h2 h3=>(get_put_ne' _ _ _ _ h2).trans (t4t c h1 h3),by rw [put_n];omega,by rw [put_n];omega,fun u h1 h2 h3=>?_,by simp only [St.put,minN_eq];omega⟩
 ·rw [get_put_ne' _ _ _ _ hdb.2,g4' d (by omega) (by omega),g3 d (by omega) (by omega),hy]
  exact get_new_ne _ _ _ (by show d≠t9.n;omega)
 have:=m3 u (by omega) (by omega) (by omega)
 have:=m4 u (by omega) (by omega)
 simp only [St.put,minN_eq]
 omega
end Go.Proofs.Ythbhjgbpjlnbcaa.walk
set_option maxRecDepth 10000
namespace Go.Proofs.Ythbhjgbpjlnbcaa.walk
open Go.Abs Go.Proofs.Ythbhjgbpjlnbcaa.code
theorem set_own {w t:St} {lo bS bA i sz:Nat} {l:Letting} {v1 v2 vw vb:AV} {ws:List (AV × AV)} {wl bl:List Int} (hi:i<l.appls.length) (hs:IsAt w.h w.n bS 3 (tag 53) (l.stalls.map StallR.cells) v1) (hws:ws.length=l.appls.length) (hA:IsAt w.h w.n bA 4 (tag 37) (rowsOf l.appls ws) v2) (hsz:w.h.get bA=some (.cells (rowsOf l.appls ws).flatten sz))
  (hl:∀ i (h1:i<ws.length) (h2:i<l.appls.length),Sl (fun x=>lo≤x∧x≠bA) w.h w.n 1 (intRows l.appls[i].wishes) ws[i].1∧Sl (fun x=>lo≤x∧x≠bA) w.h w.n 1 (intRows l.appls[i].bids) ws[i].2) (h3:lo≤bS∧lo≤bA∧bS≠bA)
  (gA:t.h.get bA=some (.cells (((rowsOf l.appls ws).flatten.set (i * 4+2) vw).set (i * 4+3) vb) sz)) (hw:Sl (fun x=>lo≤x∧x≠bA) t.h t.n 1 (intRows wl) vw) (hb:Sl (fun x=>lo≤x∧x≠bA) t.h t.n 1 (intRows bl) vb) (same:∀ c,c<w.n→lo≤c→c≠bA→t.h.get c=w.h.get c) (jn:w.n≤t.n):LetOwn t.h t.n lo bS bA (l.told i wl bl) v1 v2:=by
 have ec:=told_cells hws hi l.appls[i].years l.appls[i].token vw vb rfl rfl wl bl
 rw [ec] at gA
 have eA:(l.told i wl bl).appls=l.appls.set i ⟨l.appls[i].years,l.appls[i].token,wl,bl⟩:=by unfold Letting.told;rw [applAt_of hi]
 have lr:=rowsOf_len hws
 have hws':(ws.set i (vw,vb)).length=(l.appls.set i ⟨l.appls[i].years,l.appls[i].token,wl,bl⟩).length:=by rw [List.length_set,List.length_set];exact hws
 refine ⟨hs.mono (fun h=>same bS h h3.1 h3.2.2) jn,⟨ws.set i (vw,vb),by rw [eA];exact hws',?_,fun j h1 h2=>?_⟩,h3⟩
 ·rw [eA]
  rcases hA.is with ⟨z,_⟩ | ⟨_,z1,z2,z3⟩
  ·rw [z] at lr;simp at lr;omega
  ·have hz:sz=4+tag 37:=by
    rw [hsz] at z3
    injection z3 with z3
    injection z3
   rw [hz] at gA
   have lr':=rowsOf_len hws'
   refine ⟨rowsOf_wide hws',.inr ⟨fun e=>?_,by omega,?_,gA⟩⟩
   ·rw [e] at lr';simp at lr';omega
   ·rw [z2,lr,lr',List.length_set]
 ·have h2':j<l.appls.length:=by rw [told_len] at h2;exact h2
  have h1':j<ws.length:=by omega
  by_cases e:j=i
  ·subst e
   have e1:(l.told j wl bl).appls[j]=⟨l.appls[j].years,l.appls[j].token,wl,bl⟩:=by
    simp only [eA,List.getElem_set_self]
   rw [e1,List.getElem_set_self]
   exact ⟨hw,hb⟩
  ·have e1:(l.told i wl bl).appls[j]=l.appls[j]:=by
    simp only [eA,List.getElem_set_ne (Ne.symm e)]
   rw [e1,List.getElem_set_ne (Ne.symm e)]
   exact ⟨(hl j h1' h2').1.move (fun b hb hn=>⟨same b hb hn.1 hn.2,hn⟩) jn,(hl j h1' h2').2.move (fun b hb hn=>⟨same b hb hn.1 hn.2,hn⟩) jn⟩
theorem told_room {l m:Letting} {i k:Nat} {q:Int} (R:RoomL l m) (hi:i<l.appls.length) (hi':i<m.appls.length) (he:m.appls[i]=l.appls[i]) (hk:k≤l.appls[i].wishes.length) (q0:0≤q) (q1:q≤8):RoomL l (m.told i (l.appls[i].wishes.take k++(l.stalls.length:Int)::l.appls[i].wishes.drop k) (l.appls[i].bids.take k++q::l.appls[i].bids.drop k)):=by
 refine ⟨R.st,by rw [told_len];exact R.len,fun j h h'=>?_,R.k⟩
 have h2:j<m.appls.length:=by rw [told_len] at h';exact h'
 by_cases e:j=i
 ·subst e
  refine .inr ⟨k,q,hk,q0,q1,?_⟩
  simp only [Letting.told,List.getElem_set_self,applAt_of hi',he]
 ·have:=R.ap j h h2
  simp only [Letting.told,List.getElem_set_ne (Ne.symm e)]
  exact this
structure RoomJ (u t:St) (d p5 lo bS bA i kk:Nat) (l:Letting) (vS v2:AV):Prop where
 m:∃ m,RoomL l m∧(∀ j (h:j<l.appls.length) (h':j<m.appls.length),i≤j→m.appls[j]=l.appls[j])∧LetOwn t.h t.n lo bS bA m vS v2
 g5:t.h.get p5=some (.cells [vS,v2] (tag 28))
 die:Die d t.h
 same:∀ c,c<lo→c≠d→t.h.get c=u.h.get c
 n:u.n≤t.n
 le:t.n≤u.n+kk
 ml:t.m≤far
theorem room_round (N:Nat) (hN:8≤N) (cx:Ctx) {u t:St} {d p4 p5 lo bS bA i kk z4:Nat} {l:Letting} {vS vA vS1 v2:AV} {L:Env} (J:RoomJ u t d p5 lo bS bA i kk l vS1 v2) (ok:l.Ok) (g4:u.h.get p4=some (.cells [vS,vA] z4)) (kS:∀ t,okA (.val vS t)=.val vS t) (lS:∀ s,lenSlA s vS=.val (.int .i64 (l.stalls.length:Int)) s) (hi:i<l.appls.length) (hd:d<lo) (h4:p4<lo∧p4≠d) (h5:p5<u.n∧p5≠bA∧lo≤p5) (hlo:lo≤u.n) (hs:u.n+kk+2000≤far)
  (q3:L.find 3=.ptr d 0) (q4:L.find 4=.ptr p4 0) (q5:L.find 5=.ptr p5 0) (q6:L.find 6=.int .i64 (i:Nat)) :
  ∃ L1 t1,K7l0 (awd N) cx L [] t=.done .norm L1 [] t1∧RoomJ u t1 d p5 lo bS bA (i+1) (kk+30) l vS1 v2∧L1.find 6=.int .i64 (i+1:Nat)∧∀ c,c<6→L1.find c=L.find c:=by
 have hf:far=1000000000:=rfl
 have knC:∀ args s,awd N (.fn 15) args s=call Try.prog X N (.fn 15) args s:=fun _ _=>rfl
 have knO:∀ args s,awd N (.fn 27) args s=call Try.prog X N (.fn 27) args s:=fun _ _=>rfl
 obtain ⟨⟨m,R,hm,own⟩,g5,die,same,jn,jle,jml⟩:=J
 have rl:=R.len
 have kA:=own.at_.okV
 have lA:=own.at_.lenA
 have m1:=ok.m1
 have A0:=ok.ap _ (List.getElem_mem hi)
 have hi':i<m.appls.length:=by omega
 have he:=hm i hi hi' (Nat.le_refl _)
 have hwl:=A0.wl
 have hbl:=A0.bl
 obtain ⟨hsS,⟨ws,w1,w2,w3⟩,l1,l2,l3⟩:=own
 have lr:=rowsOf_len w1
 have hb2:v2=.slice bA 0 m.appls.length m.appls.length true∧bA<t.n∧t.h.get bA=some (.cells (rowsOf m.appls ws).flatten (4+tag 37)):=by
  rcases w2.is with ⟨z,_⟩ | ⟨_,z1,z2,z3⟩
  ·rw [z] at lr;simp at lr;omega
  ·rw [lr] at z2;exact ⟨z2,z1,z3⟩
 obtain ⟨hv2,hb2,gF⟩:=hb2
 have hiw:i<ws.length:=by omega
 have hw3:=w3 i hiw hi'
 rw [he] at hw3
 have flen:(rowsOf m.appls ws).flatten.length=m.appls.length * 4:=by rw [flatten_len (rowsOf_wide w1),lr]
 have ei:i * 4+4≤(rowsOf m.appls ws).flatten.length:=by omega
 have hcut:=flatten_cut (rowsOf_wide w1) (show i<(rowsOf m.appls ws).length by omega)
 have er:(rowsOf m.appls ws)[i]=m.appls[i].row ws[i]:=rowsOf_get _ hi' hiw
 rw [er] at hcut
 have n2:nth (rowsOf m.appls ws).flatten (i * 4+2)=ws[i].1:=cut_nth hcut (by omega)
 have n3:nth (rowsOf m.appls ws).flatten (i * 4+3)=ws[i].2:=cut_nth hcut (by omega)
 have ix2:∀ s,ixsA 4 s v2 (.int .i64 (i:Int))=.val (.ptr bA (i * 4)) s:=fun s=>by rw [hv2,ixs_slice 4 s bA 0 _ _ true i hi',Nat.zero_add]
 have e0:decide ((i:Int)<(m.appls.length:Int))=true:=decide_eq_true (by omega)
 have ad:∀ s,aAdd s .i64 (i:Int) 1=.val (.int .i64 ((i:Int)+1)) s:=fun s=>aAdd_i64 s _ _ (by omega)
 have kw:=hw3.1.okA
 have lw:=rowLen hw3.1.at_
 have adw:∀ s,aAdd s .i64 (l.appls[i].wishes.length:Int) 1=.val (.int .i64 ((l.appls[i].wishes.length:Int)+1)) s:=fun s=>aAdd_i64 s _ _ (by omega)
 simp (disch:=first|omega|(with_unfolding_all exact rfl)|(simp only[new_n,put_n,new_m];omega)|(refine put_m_le ?_;simp only[new_m];omega)) only [K7l0,K7r6,K7r7,K7r8,Abs.W,reduceIte,Nat.reduceEqDiff,Nat.reduceAdd,decide_true,decide_false,kLoop_def,Nat.reduceSub,List.cons_append,List.nil_append,List.append_nil,List.length_cons,List.length_nil,Env.find_set,q3,q4,q5,q6,g5,kA,lA,e0,ix2,gF,n2,kw,lw,adw,knC,Nat.zero_add]
 generalize hc1:call _ _ _ (.fn 15) _ _=r1
 obtain ⟨x1,t1,rfl,st1,d1,x10,x11⟩:=cast_ex hc1 (by omega) die (by omega) (by omega) (by omega)
 obtain ⟨k,rfl⟩:∃ n:Nat,x1=n:=⟨x1.toNat,by omega⟩
 have hk:k≤l.appls[i].wishes.length:=by omega
 have s1n:=st1.n
 have s1l:=st1.le
 have s1m:=st1.mle
 simp (disch:=first|omega|(with_unfolding_all exact rfl)|(simp only[new_n,put_n,new_m];omega)|(refine put_m_le ?_;simp only[new_m];omega)) only [K7r9,Abs.W,reduceIte,Nat.reduceEqDiff,Nat.reduceAdd,decide_true,decide_false,kLoop_def,Nat.reduceSub,List.cons_append,List.nil_append,List.append_nil,List.length_cons,List.length_nil,Env.find_set,q3,knO,Nat.zero_add]
 generalize hc2:call _ _ _ (.fn 27) _ _=r2
 obtain ⟨bo,t2,rfl,st2,d2⟩:=once_ex hc2 (by omega) d1 (by omega) (by omega) (by omega)
 have s2n:=st2.n
 have s2l:=st2.le
 have s2m:=st2.mle
 have g2:∀ c,c<t.n→c≠d→t2.h.get c=t.h.get c:=fun c h1 h2=>(st2.same c (by omega) h2).trans (st1.same c h1 h2)
 have own2:LetOwn t2.h t2.n lo bS bA m vS1 v2:=LetOwn.grow (h:=t.h) (n:=t.n) ⟨hsS,⟨ws,w1,w2,w3⟩,l1,l2,l3⟩ (fun c h1 h2=>g2 c h1 (by omega)) (by omega)
 cases bo with
 | false =>
  refine ⟨_,t2,by
   simp (disch:=first|omega|(with_unfolding_all exact rfl)|(simp only[new_n,put_n,new_m];omega)|(refine put_m_le ?_;simp only[new_m];omega)) only [K7r12,Abs.W,reduceIte,Nat.reduceEqDiff,Nat.reduceAdd,decide_true,decide_false,kLoop_def,Nat.reduceSub,List.cons_append,List.nil_append,List.append_nil,List.length_cons,List.length_nil,Env.find_set,q6,ad]
   rfl,⟨⟨m,R,fun j h h' hj=>hm j h h' (by omega),own2⟩,(g2 p5 (by omega) (by omega)).trans g5,d2,fun c h1 h2=>(g2 c (by omega) h2).trans (same c h1 h2),by omega,by omega,by omega⟩,?_,fun c hc=>?_⟩
  ·simp only [Env.find_set,reduceIte,Nat.reduceEqDiff];rfl
  ·simp only [Env.find_set]
   repeat rw [if_neg (by omega)]
 | true =>
  have g4':t2.h.get p4=some (.cells [vS,vA] z4):=(g2 p4 (by omega) h4.2).trans ((same p4 h4.1 h4.2).trans g4)
  have gF2:=(g2 bA hb2 (by omega)).trans gF
  have W2:Sl (fun x=>lo≤x∧x≠bA) t2.h t2.n 1 (intRows l.appls[i].wishes) ws[i].1:=hw3.1.move (fun b hb hn=>⟨g2 b hb (by omega),hn⟩) (by omega)
  simp (disch:=first|omega|(with_unfolding_all exact rfl)|(simp only[new_n,put_n,new_m];omega)|(refine put_m_le ?_;simp only[new_m];omega)) only [Abs.W,reduceIte,Nat.reduceEqDiff,Nat.reduceAdd,decide_true,decide_false,kLoop_def,Nat.reduceSub,List.cons_append,List.nil_append,List.append_nil,List.length_cons,List.length_nil,Env.find_set]
  generalize hr10:K7r10 _ _ _=rr
  obtain ⟨M3,t3,v3,b3,rfl,gA3,I3,hb3,g3,n3',n3l,m3,m3l⟩:=room_w (N:=N) (by omega) (k:=k) (q:=l.stalls.length) hr10 gF2 ei n2 W2 (fun h=>h.2 rfl) hk hwl g4' kS lS ⟨by omega,by omega⟩ (by omega) (by omega) (by omega)
   (by simp only [find_cons,Env.find_set,q4,reduceIte,Nat.reduceEqDiff]) (by simp only [find_cons,Env.find_set,reduceIte,Nat.reduceEqDiff]) (by simp only [find_cons,Env.find_set,reduceIte,Nat.reduceEqDiff])
  have d3:Die d t3.h:=Die.keep d2 (g3 d (by omega) (by omega))
  have W3:Sl (fun x=>lo≤x∧x≠bA) t3.h t3.n 1 (intRows l.appls[i].bids) ws[i].2:=hw3.2.move (fun b hb hn=>⟨(g3 b (by omega) hn.2).trans (g2 b hb (by omega)),hn⟩) (by omega)
  have nF3:nth ((rowsOf m.appls ws).flatten.set (i * 4+2) v3) (i * 4+3)=ws[i].2:=by rw [nth_set_ne _ (by omega) (by omega)];exact n3
  simp (disch:=first|omega|(with_unfolding_all exact rfl)|(simp only[new_n,put_n,new_m];omega)|(refine put_m_le ?_;simp only[new_m];omega)) only [Abs.W,reduceIte,Nat.reduceEqDiff,Nat.reduceAdd,decide_true,decide_false,kLoop_def,Nat.reduceSub,List.cons_append,List.nil_append,List.append_nil,List.length_cons,List.length_nil,Env.find_set]
  generalize hr11:K7r11 _ _ _=rr
  obtain ⟨q,M4,t4,v4,b4,rfl,c0,c1,d4,gA4,I4,hb4,g4,n4',n4l,m4,m4l⟩:=room_b (N:=N) (by omega) (k:=k) hr11 gA3 (by rw [List.length_set];exact ei) nF3 W3 (fun h=>h.2 rfl) (fun h=>by omega) (by omega) (by omega) d3 ⟨by omega,by omega⟩ (by omega) (by omega) (by omega)
   (by simp only [find_cons,Env.find_set,q3,reduceIte,Nat.reduceEqDiff]) (by simp only [find_cons,Env.find_set,reduceIte,Nat.reduceEqDiff]) (by simp only [find_cons,Env.find_set,reduceIte,Nat.reduceEqDiff])
  have hb3t:b3<t3.n:=by
   rcases I3.is with ⟨z,_⟩ | ⟨_,z1,_⟩
   ·have:=congrArg List.length z
    rw [intRows_len,List.length_append] at this
    simp at this
   ·exact z1
  have g24:∀ c,c<t2.n→lo≤c→c≠bA→t4.h.get c=t2.h.get c:=fun c h1 h2 h3=>(g4 c (by omega) h3 (by omega)).trans (g3 c h1 h3)
  have own4:=set_own (w:=t2) (t:=t4) (lo:=lo) (bS:=bS) (wl:=l.appls[i].wishes.take k++(l.stalls.length:Int)::l.appls[i].wishes.drop k) (bl:=l.appls[i].bids.take k++q::l.appls[i].bids.drop k) hi' (hsS.mono (fun h=>g2 bS h (by omega)) (by omega)) w1 (w2.mono (fun h=>g2 bA h (by omega)) (by omega)) gF2 (fun j h1 h2=>⟨(w3 j h1 h2).1.move (fun b hb hn=>⟨g2 b hb (by omega),hn⟩) (by omega),(w3 j h1 h2).2.move (fun b hb hn=>⟨g2 b hb (by omega),hn⟩) (by omega)⟩) ⟨l1,l2,l3⟩ gA4
   (Sl.of_at (I3.mono (h':=t4.h) (n':=t4.n) (fun h=>g4 b3 h (by omega) (by omega)) (by omega)) fun _=>⟨by omega,by omega⟩) (Sl.of_at I4 fun _=>⟨by omega,by omega⟩) g24 (by omega)
  have R4:=told_room (k:=k) (q:=q) R hi hi' he hk c0 c1
  refine ⟨_,t4,by
   simp (disch:=first|omega|(with_unfolding_all exact rfl)|(simp only[new_n,put_n,new_m];omega)|(refine put_m_le ?_;simp only[new_m];omega)) only [K7r12,Abs.W,reduceIte,Nat.reduceEqDiff,Nat.reduceAdd,decide_true,decide_false,kLoop_def,Nat.reduceSub,List.cons_append,List.nil_append,List.append_nil,List.length_cons,List.length_nil,Env.find_set,q6,ad]
   rfl,⟨⟨_,R4,fun j h h' hj=>?_,own4⟩,(g4 p5 (by omega) (by omega) (by omega)).trans ((g3 p5 (by omega) (by omega)).trans ((g2 p5 (by omega) (by omega)).trans g5)),d4,fun c h1 h2=>(g4 c (by omega) (by omega) h2).trans ((g3 c (by omega) (by omega)).trans ((g2 c (by omega) h2).trans (same c h1 h2))),by omega,by omega,by omega⟩,?_,fun c hc=>?_⟩
  ·have h2:j<m.appls.length:=by rw [told_len] at h';exact h'
   have:=hm j h h2 (by omega)
   simp only [Letting.told,List.getElem_set_ne (show i≠j by omega)]
   exact this
  ·simp only [Env.find_set,reduceIte,Nat.reduceEqDiff];rfl
  ·simp only [Env.find_set]
   repeat rw [if_neg (by omega)]
end Go.Proofs.Ythbhjgbpjlnbcaa.walk
