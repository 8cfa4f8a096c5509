/- At which place in its wishes a stall stands; which one it has. -/
import Derived.Test.YthbhjgbpjlnbcaaM5
import Derived.Test.YthbhjgbpjlnbcaaCodes
import Derived.Test.YthbhjgbpjlnbcaaM3
import Derived.Test.YthbhjgbpjlnbcaaM1
import Derived.Test.YthbhjgbpjlnbcaaWalkAll
set_option linter.unusedSimpArgs false
set_option maxHeartbeats 16000000
set_option linter.unusedVariables false
set_option maxRecDepth 10000
namespace Go.Proofs.Ythbhjgbpjlnbcaa.walk
open Go.Abs Go.Proofs.Ythbhjgbpjlnbcaa.code
theorem idx_at {l:List Int} {x:Int} {i:Nat} (hi:i<l.length) (hx:l[i]=x) (h:∀ y ∈ l.take i,y≠x):l.idxOf x=i:=by
 have e:l=l.take i++l[i]::l.drop (i+1):=(take_split hi).symm
 have hn:x ∉ l.take i:=fun hm=>h x hm rfl
 rw [e,List.idxOf_append,if_neg hn,hx,List.idxOf_cons_self,List.length_take]
 omega
theorem idx_none' {l:List Int} {x:Int} (h:∀ y ∈ l,y≠x):l.idxOf x=l.length:=List.idxOf_eq_length fun hm=>h x hm rfl
theorem wish_ok (N:Nat) (hN:1≤N) {no:Nat→Prop} {a b bv wv:AV} {wl:List Int} {st:Int} {s:St} (hR:Sl no s.h s.n 1 (intRows wl) wv) (hl:wl.length≤8) (hs:s.n+100≤far) :
  call Try.prog X N (.fn 30) [.agg [a,b,wv,bv],.int .i64 st] s=.val (.int .i64 (wl.idxOf st:Nat)) s:=by
 obtain ⟨n,rfl⟩:∃ n,N=n+1:=⟨N - 1,by omega⟩
 refine call_plain' Try.func30 (fun u uh un um=>?_) rfl
 have hf:far=1000000000:=rfl
 rw [← uh,← un] at hR
 obtain ⟨w,hw⟩:∃ w:St,w=u.new (.cells [a,b,wv,bv] (tag 37)):=⟨_,rfl⟩
 have wn:w.n=u.n+1:=by rw [hw];rfl
 have wm:w.m=far:=by rw [hw];exact um
 have wg:∀ c,c<u.n→w.h.get c=u.h.get c:=fun c hc=>by rw [hw,get_new_ne _ _ _ (by omega)]
 have w0:w.h.get u.n=some (.cells [a,b,wv,bv] (tag 37)):=by rw [hw];exact get_new_eq _ _ _ rfl (by omega)
 have hRw:=hR.grow wg (by omega:u.n≤w.n)
 have kv:=hRw.okA
 have lv:=rowLen hRw.at_
 rw [enter30]
 simp (disch:=first|omega|(with_unfolding_all exact rfl)|(simp only[new_n,put_n,new_m];omega)|(refine put_m_le ?_;simp only[new_m];omega)) only [K30,K30r0,Abs.W,reduceIte,Nat.reduceEqDiff,Nat.reduceAdd,decide_true,decide_false,kLoop_def,Nat.reduceSub,List.cons_append,List.nil_append,List.append_nil,List.length_cons,List.length_nil]
 rw [← hw]
 simp (disch:=first|omega|(with_unfolding_all exact rfl)|(simp only[new_n,put_n,new_m];omega)|(refine put_m_le ?_;simp only[new_m];omega)) only [K30r1,Abs.W,reduceIte,Nat.reduceEqDiff,Nat.reduceAdd,decide_true,decide_false,kLoop_def,Nat.reduceSub,List.cons_append,List.nil_append,List.append_nil,List.length_cons,List.length_nil,Env.find_set]
 generalize hlp:loopN _ rounds _ _ _ _ _=q1
 obtain ⟨e,L1,s1,rfl,rfl,hQ⟩:=loop_of hlp (fun i L t=>t=w∧L.find 1=.int .i64 st∧L.find 2=.ptr u.n 0∧L.find 5=.int .i64 (i:Nat)∧∀ y ∈ wl.take i,y≠st)
  (fun e L t=>t=w∧((e=.ret∧L.find 4=.int .i64 (wl.idxOf st:Nat))∨(e=.exit 0∧L.find 2=.ptr u.n 0∧wl.idxOf st=wl.length))) wl.length (by unfold rounds;omega)
  ⟨rfl,by simp only [find_cons,Env.find_set,reduceIte,Nat.reduceEqDiff],by simp only [find_cons,Env.find_set,reduceIte,Nat.reduceEqDiff],by simp only [find_cons,Env.find_set,reduceIte,Nat.reduceEqDiff];rfl,by simp⟩
  (fun i L t hi ⟨ht,q1,q2,q5,hx⟩=>by
   subst ht
   by_cases hlt:i<wl.length
   ·have e0:decide ((i:Int)<(wl.length:Int))=true:=decide_eq_true (by omega)
    obtain ⟨b1,p1,c1,sz1,r1,r2,r3,r4⟩:=rowInt hRw.at_ hlt
    have ad:∀ s,aAdd s .i64 (i:Int) 1=.val (.int .i64 ((i:Int)+1)) s:=fun s=>aAdd_i64 s _ _ (by omega)
    by_cases he:wl[i]=st
    ·have e1:decide (wl[i]=st)=true:=decide_eq_true he
     refine .inr ⟨.ret,_,t,by simp,by
      simp (disch:=first|omega|(with_unfolding_all exact rfl)|(simp only[new_n,put_n,new_m];omega)|(refine put_m_le ?_;simp only[new_m];omega)) only [K30l0,K30r2,K30r3,K30r4,Abs.W,reduceIte,Nat.reduceEqDiff,Nat.reduceAdd,decide_true,decide_false,kLoop_def,Nat.reduceSub,List.cons_append,List.nil_append,List.append_nil,List.length_cons,List.length_nil,Env.find_set,q1,q2,q5,w0,kv,lv,e0,r2,r3,r4,e1,Nat.zero_add]
      rfl,rfl,.inl ⟨rfl,by rw [idx_at hlt he hx];simp only [Env.find_set,reduceIte,Nat.reduceEqDiff]⟩⟩
    ·have e1:decide (wl[i]=st)=false:=decide_eq_false he
     refine .inl ⟨hlt,_,t,by
      simp (disch:=first|omega|(with_unfolding_all exact rfl)|(simp only[new_n,put_n,new_m];omega)|(refine put_m_le ?_;simp only[new_m];omega)) only [K30l0,K30r2,K30r3,K30r5,Abs.W,reduceIte,Nat.reduceEqDiff,Nat.reduceAdd,decide_true,decide_false,kLoop_def,Nat.reduceSub,List.cons_append,List.nil_append,List.append_nil,List.length_cons,List.length_nil,Env.find_set,q1,q2,q5,w0,kv,lv,e0,r2,r3,r4,e1,ad,Nat.zero_add]
      rfl,rfl,?_,?_,?_,?_⟩
     ·simp only [Env.find_set,q1,reduceIte,Nat.reduceEqDiff]
     ·simp only [Env.find_set,q2,reduceIte,Nat.reduceEqDiff]
     ·simp only [Env.find_set,reduceIte,Nat.reduceEqDiff];rfl
     ·intro y hy
      rw [take_snoc hlt] at hy
      rcases List.mem_append.mp hy with h | h
      ·exact hx y h
      ·rw [List.mem_singleton.mp h];exact he
   ·obtain rfl:i=wl.length:=by omega
    have e0:decide ((wl.length:Int)<(wl.length:Int))=false:=by simp
    rw [List.take_length] at hx
    refine .inr ⟨.exit 0,L.set 10 (.bool false),t,by simp,?_,rfl,.inr ⟨rfl,?_,idx_none' hx⟩⟩
    ·simp (disch:=first|omega|(with_unfolding_all exact rfl)|(simp only[new_n,put_n,new_m];omega)|(refine put_m_le ?_;simp only[new_m];omega)) only [K30l0,K30r2,Abs.W,reduceIte,Nat.reduceEqDiff,Nat.reduceAdd,decide_true,decide_false,kLoop_def,Nat.reduceSub,List.cons_append,List.nil_append,List.append_nil,List.length_cons,List.length_nil,Env.find_set,q1,q2,q5,w0,kv,lv,e0,Nat.zero_add]
    ·simp only [Env.find_set,q2,reduceIte,Nat.reduceEqDiff])
 rcases hQ with ⟨rfl,h4⟩ | ⟨rfl,h2,h3⟩
 ·simp (disch:=first|omega|(with_unfolding_all exact rfl)|(simp only[new_n,put_n,new_m];omega)|(refine put_m_le ?_;simp only[new_m];omega)) only [res30,Abs.W,reduceIte,Nat.reduceEqDiff,Nat.reduceAdd,decide_true,decide_false,kLoop_def,Nat.reduceSub,List.cons_append,List.nil_append,List.append_nil,List.length_cons,List.length_nil,Env.find_set,h4]
  exact ⟨_,rfl,by omega⟩
 ·rw [h3]
  simp (disch:=first|omega|(with_unfolding_all exact rfl)|(simp only[new_n,put_n,new_m];omega)|(refine put_m_le ?_;simp only[new_m];omega)) only [K30r6,res30,Abs.W,reduceIte,Nat.reduceEqDiff,Nat.reduceAdd,decide_true,decide_false,kLoop_def,Nat.reduceSub,List.cons_append,List.nil_append,List.append_nil,List.length_cons,List.length_nil,Env.find_set,h2,w0,kv,lv,Nat.zero_add]
  exact ⟨_,rfl,by omega⟩
end Go.Proofs.Ythbhjgbpjlnbcaa.walk
set_option maxRecDepth 10000
namespace Go.Proofs.Ythbhjgbpjlnbcaa.walk
open Go.Abs Go.Proofs.Ythbhjgbpjlnbcaa.code
end Go.Proofs.Ythbhjgbpjlnbcaa.walk
set_option maxRecDepth 10000
namespace Go.Abs
theorem loop_dinv {body:K} {cl:CallF} {cx:Ctx} (I:Nat→Env→List Nat→St→Prop) (Q:Ex→Env→List Nat→St→Prop) (k:Nat)
  (step:∀ i L d s,i≤k→I i L d s→(i<k∧∃ L1 d1 s1,body cl cx L d s=.done .norm L1 d1 s1∧I (i+1) L1 d1 s1)∨(∃ e L1 d1 s1,e≠.norm∧body cl cx L d s=.done e L1 d1 s1∧Q e L1 d1 s1)) :
  ∀ (m i fuel:Nat) (L:Env) (d:List Nat) (s:St),i+m=k→m<fuel→I i L d s→∃ e L1 d1 s1,loopN body fuel cl cx L d s=.done e L1 d1 s1∧Q e L1 d1 s1
 | m,i,0,_,_,_,_,hf,_=>by omega
 | m,i,fuel+1,L,d,s,hm,hf,hI=>by
  rcases step i L d s (by omega) hI with ⟨hi,L1,d1,s1,h1,h2⟩ | ⟨e,L1,d1,s1,he,h1,h2⟩
  ·obtain ⟨m',rfl⟩:∃ m',m=m'+1:=⟨m - 1,by omega⟩
   obtain ⟨e,L2,d2,s2,h3,h4⟩:=loop_dinv I Q k step m' (i+1) fuel L1 d1 s1 (by omega) (by omega) h2
   exact ⟨e,L2,d2,s2,by rw [loopN_succ,h1];exact h3,h4⟩
  ·refine ⟨e,L1,d1,s1,?_,h2⟩
   rw [loopN_succ,h1]
   cases e<;>first | rfl | exact absurd rfl he
theorem loop_d {body:K} {cl:CallF} {cx:Ctx} {L:Env} {d:List Nat} {s:St} {r:R} (hr:loopN body rounds cl cx L d s=r) (I:Nat→Env→List Nat→St→Prop) (Q:Ex→Env→List Nat→St→Prop) (k:Nat) (hk:k<rounds) (h0:I 0 L d s)
  (step:∀ i L d s,i≤k→I i L d s→(i<k∧∃ L1 d1 s1,body cl cx L d s=.done .norm L1 d1 s1∧I (i+1) L1 d1 s1)∨(∃ e L1 d1 s1,e≠.norm∧body cl cx L d s=.done e L1 d1 s1∧Q e L1 d1 s1)) :
  ∃ e L1 d1 s1,r=.done e L1 d1 s1∧Q e L1 d1 s1:=by
 obtain ⟨e,L1,d1,s1,h1,h2⟩:=loop_dinv I Q k step k 0 rounds L d s (by omega) hk h0
 exact ⟨e,L1,d1,s1,hr.symm.trans h1,h2⟩
theorem take_dfrs:∀ {d:List Nat} {s:St},d.Nodup→(∀ c ∈ d,s.h.get c=some .dfr)→∃ s',takeDfs s d=some s'∧(∀ c,c ∉ d→s'.h.get c=s.h.get c)∧s'.n=s.n∧(∀ u,u≤s.m→(∀ c ∈ d,u≤c)→u≤s'.m)∧s'.m≤s.m
 | [],s,_,_=>⟨s,rfl,fun _ _=>rfl,rfl,fun _ h _=>h,Nat.le_refl _⟩
 | b::d,s,hd,h=>by
  obtain ⟨h1,h2⟩:=List.nodup_cons.mp hd
  have hb:=h b (List.mem_cons_self ..)
  obtain ⟨s',e,a1,a2,a3,a4⟩:=take_dfrs (d:=d) (s:=s.kill b) h2 (fun c hc=>by
   rw [get_kill_ne _ _ _ (show c≠b from fun e=>h1 (by rw [← e];exact hc))]
   exact h c (List.mem_cons_of_mem _ hc))
  have km:(s.kill b).m=min s.m b:=by simp only [St.kill,minN_eq]
  refine ⟨s',?_,fun c hc=>?_,a2,fun u hu hc=>a3 u ?_ (fun c h=>hc c (List.mem_cons_of_mem _ h)),?_⟩
  ·show (match s.h.get b with | some .dfr=>takeDfs (s.kill b) d | _=>none)=_
   rw [hb];exact e
  ·rw [a1 c (fun h=>hc (List.mem_cons_of_mem _ h)),get_kill_ne _ _ _ (fun e=>hc (by rw [e];exact List.mem_cons_self ..))]
  ·rw [km]
   have:=hc b (List.mem_cons_self ..)
   omega
  ·rw [km] at a4;omega
theorem leave_dfrs {P:Program} {rs:List ResultVar} {d:List Nat} {L:Env} {s s':St} (h:takeDfs s d=some s'):leaveA P rs L d s=leaveA P rs L [] s':=by
 unfold leaveA
 rw [h]
 rfl
end Go.Abs
namespace Go.Proofs.Ythbhjgbpjlnbcaa.walk
open Go.Abs Go.Proofs.Ythbhjgbpjlnbcaa.code
theorem repA_hcell (k:Nat):repA k k=hcell (List.replicate k (-1)):=by
 unfold repA hcell intRows
 rw [Nat.sub_self,List.replicate_zero,List.append_nil,List.map_replicate]
 induction k with
 | zero=>rfl
 | succ k ih=>rw [List.replicate_succ,List.replicate_succ,List.flatten_cons,← ih];rfl
theorem holdF_none (k:Nat):holdF (List.replicate k (-1))=fun _ => -1:=by
 funext s
 unfold holdF
 by_cases h:s<k
 ·simp [List.getD,h]
 ·simp [List.getD,h]
theorem Let_ex {N:Nat} {no na:Nat→Prop} {l:Letting} {vS vA:AV} {s:St} {r:ARes} (hr:call Try.prog X N (.fn 18) [.agg (letV vS vA)] s=r) (hN:16≤N) (ok:l.Ok) (hL:LetAt no na s.h s.n l vS vA) (hs:s.n+4000000≤far) :
  ∃ v t hs,r=.val (.tup [v,.int .i64 0]) t∧New s t 2200000∧Sl (fun x=>s.n≤x) t.h t.n 1 (intRows hs) v∧hs.length=l.stalls.length∧(mktOf l).Inv (holdF hs) []:=by
 obtain ⟨M,rfl⟩:∃ M,N=M+5:=⟨N - 5,by omega⟩
 have hf:far=1000000000:=rfl
 obtain ⟨v,t,e,st,v',hs,rfl,hq⟩:=call_new (n:=M+4) (args:=[.agg (letV vS vA)]) (s:=s) (k:=2200000) (Q:=fun v h n=>∃ v' hs,v=.tup [v',.int .i64 0]∧Sl (fun x=>s.n≤x) h n 1 (intRows hs) v'∧hs.length=l.stalls.length∧(mktOf l).Inv (holdF hs) []) Try.func18 rfl (fun u uh un um=>by
  rw [← uh,← un] at hL
  rw [← un]
  have k0:=ok.k0
  have k1:=ok.k1
  have m1:=ok.m1
  have kA:=hL.okV
  have kS:=hL.okS
  have lS:=hL.lenS
  have z0:decide ((0:Int)=0)=true:=rfl
  obtain ⟨w0,hw0⟩:∃ w:St,w=u.new (.cells [vS,vA] (tag 28)):=⟨_,rfl⟩
  have w0n:w0.n=u.n+1:=by rw [hw0];rfl
  have w0m:w0.m=far:=by rw [hw0];exact um
  have w0g:∀ c,c<u.n→w0.h.get c=u.h.get c:=fun c hc=>by rw [hw0,get_new_ne _ _ _ (by omega)]
  have w00:w0.h.get u.n=some (.cells [vS,vA] (tag 28)):=by rw [hw0];exact get_new_eq _ _ _ rfl (by omega)
  have hM:=hL.grow w0g (by omega:u.n≤w0.n)
  have c1:=check_ok (M+4) (by omega) l ok vS vA w0 hM (by omega)
  rw [enter18]
  simp (disch:=first|omega|(with_unfolding_all exact rfl)|(simp only[new_n,put_n,new_m];omega)|(refine put_m_le ?_;simp only[new_m];omega)) only [K18,K18r0,Abs.W,reduceIte,Nat.reduceEqDiff,Nat.reduceAdd,decide_true,decide_false,kLoop_def,Nat.reduceSub,List.cons_append,List.nil_append,List.append_nil,List.length_cons,List.length_nil]
  rw [← hw0]
  simp (disch:=first|omega|(with_unfolding_all exact rfl)|(simp only[new_n,put_n,new_m];omega)|(refine put_m_le ?_;simp only[new_m];omega)) only [K18r1,K18r2,K18r4,Abs.W,reduceIte,Nat.reduceEqDiff,Nat.reduceAdd,decide_true,decide_false,kLoop_def,Nat.reduceSub,List.cons_append,List.nil_append,List.append_nil,List.length_cons,List.length_nil,Env.find_set,w00,c1,z0,kA,kS,Nat.zero_add]
  generalize hc:call _ _ _ (.fn 39) _ _=rc
  obtain ⟨vr,t1,bm,rfl,s1,hR,hbm⟩:=rank_ex hc (by omega) ok hM (by omega)
  have s1n:=s1.n
  have s1l:=s1.le
  have s1m:=s1.m
  obtain ⟨hv,hbm2⟩:=hR.slice (by omega)
  subst hv
  have t1g:∀ c,c<u.n→t1.h.get c=u.h.get c:=fun c hc=>(s1.same c (by omega)).trans (w0g c hc)
  have t10:=(s1.same u.n (by omega)).trans w00
  simp (disch:=first|omega|(with_unfolding_all exact rfl)|(simp only[new_n,put_n,new_m];omega)|(refine put_m_le ?_;simp only[new_m];omega)) only [Abs.W,reduceIte,Nat.reduceEqDiff,Nat.reduceAdd,decide_true,decide_false,kLoop_def,Nat.reduceSub,List.cons_append,List.nil_append,List.append_nil,List.length_cons,List.length_nil,Env.find_set,Nat.zero_add]
  generalize hy:St.put _ _ _=y
  have yn:y.n=t1.n+1:=by rw [← hy,put_n,new_n]
  have yg:∀ c,c<t1.n→y.h.get c=t1.h.get c:=fun c hc=>by rw [← hy,get_put_ne' _ _ _ _ (by omega),get_new_ne _ _ _ (by omega)]
  have yp:∃ z5,y.h.get t1.n=some (.cells [.slice bm 0 l.stalls.length l.stalls.length true] z5):=⟨_,by rw [← hy];exact get_put_eq _ _ _ _ rfl (by omega)⟩
  have ym:y.m=min t1.m t1.n:=by rw [← hy];simp only [St.put,minN_eq,new_m]
  obtain ⟨z5,yp⟩:=yp
  have y0:=(yg u.n (by omega)).trans t10
  obtain ⟨x,hx⟩:∃ x:St,x=y.new (.cells [.int .i64 (-1)] 0):=⟨_,rfl⟩
  have xn:x.n=y.n+1:=by rw [hx];rfl
  have xm:x.m=y.m:=by rw [hx];rfl
  have xg:∀ c,c<y.n→x.h.get c=y.h.get c:=fun c hc=>by rw [hx,get_new_ne _ _ _ (by omega)]
  have xp:x.h.get y.n=some (.cells [.int .i64 (-1)] 0):=by rw [hx];exact get_new_eq _ _ _ rfl (by omega)
  have x0:=(xg u.n (by omega)).trans y0
  simp (disch:=first|omega|(with_unfolding_all exact rfl)|(simp only[new_n,put_n,new_m];omega)|(refine put_m_le ?_;simp only[new_m];omega)) only [K18r5,Abs.W,reduceIte,Nat.reduceEqDiff,Nat.reduceAdd,decide_true,decide_false,kLoop_def,Nat.reduceSub,List.cons_append,List.nil_append,List.append_nil,List.length_cons,List.length_nil,Env.find_set,Nat.zero_add]
  rw [← hx]
  simp (disch:=first|omega|(with_unfolding_all exact rfl)|(simp only[new_n,put_n,new_m];omega)|(refine put_m_le ?_;simp only[new_m];omega)) only [Abs.W,reduceIte,Nat.reduceEqDiff,Nat.reduceAdd,decide_true,decide_false,kLoop_def,Nat.reduceSub,List.cons_append,List.nil_append,List.append_nil,List.length_cons,List.length_nil,Env.find_set,x0,y0,kS,lS,Nat.zero_add]
  generalize hc2:call _ _ _ (.fn 40) _ _=rc
  obtain ⟨t2,rfl,s2,t2n,t2g⟩:=repeat_ex hc2 (by omega) k0 k1 xp (by omega) (by omega)
  have s2m:=s2.m
  simp (disch:=first|omega|(with_unfolding_all exact rfl)|(simp only[new_n,put_n,new_m];omega)|(refine put_m_le ?_;simp only[new_m];omega)) only [Abs.W,reduceIte,Nat.reduceEqDiff,Nat.reduceAdd,decide_true,decide_false,kLoop_def,Nat.reduceSub,List.cons_append,List.nil_append,List.append_nil,List.length_cons,List.length_nil,Env.find_set,Nat.zero_add]
  generalize hy3:St.put _ _ _=y3
  have y3n:y3.n=t2.n+1:=by rw [← hy3,put_n,new_n]
  have y3g:∀ c,c<t2.n→y3.h.get c=t2.h.get c:=fun c hc=>by rw [← hy3,get_put_ne' _ _ _ _ (by omega),get_new_ne _ _ _ (by omega)]
  have y3p:∃ z6,y3.h.get t2.n=some (.cells [.slice x.n 0 l.stalls.length l.stalls.length false] z6):=⟨_,by rw [← hy3];exact get_put_eq _ _ _ _ rfl (by omega)⟩
  have y3m:y3.m=min t2.m t2.n:=by rw [← hy3];simp only [St.put,minN_eq,new_m]
  obtain ⟨z6,y3p⟩:=y3p
  have b3:∀ c,c<x.n→y3.h.get c=x.h.get c:=fun c hc=>(y3g c (by omega)).trans (s2.same c hc)
  have y30:=(b3 u.n (by omega)).trans x0
  have hL3:=hL.grow (h':=y3.h) (n':=y3.n) (fun c hc=>(b3 c (by omega)).trans ((xg c (by omega)).trans ((yg c (by omega)).trans (t1g c hc)))) (by omega)
  simp (disch:=first|omega|(with_unfolding_all exact rfl)|(simp only[new_n,put_n,new_m];omega)|(refine put_m_le ?_;simp only[new_m];omega)) only [K18r6,Abs.W,reduceIte,Nat.reduceEqDiff,Nat.reduceAdd,decide_true,decide_false,kLoop_def,Nat.reduceSub,List.cons_append,List.nil_append,List.append_nil,List.length_cons,List.length_nil,Env.find_set,y30,kS,kA,Nat.zero_add]
  generalize hc3:call _ _ _ (.fn 41) _ _=rc
  obtain ⟨t3,rfl,s3,t3n,t3g⟩:=everybody_ex hc3 (by omega) ok hL3 (by omega)
  have s3m:=s3.m
  simp (disch:=first|omega|(with_unfolding_all exact rfl)|(simp only[new_n,put_n,new_m];omega)|(refine put_m_le ?_;simp only[new_m];omega)) only [Abs.W,reduceIte,Nat.reduceEqDiff,Nat.reduceAdd,decide_true,decide_false,kLoop_def,Nat.reduceSub,List.cons_append,List.nil_append,List.append_nil,List.length_cons,List.length_nil,Env.find_set,Nat.zero_add]
  generalize hw:St.put _ _ _=w
  have wn:w.n=t3.n+1:=by rw [← hw,put_n,new_n]
  have wg:∀ c,c<t3.n→w.h.get c=t3.h.get c:=fun c hc=>by rw [← hw,get_put_ne' _ _ _ _ (by omega),get_new_ne _ _ _ (by omega)]
  have wp:∃ z7,w.h.get t3.n=some (.cells [.slice (y3.n+1) 0 l.appls.length l.appls.length false] z7):=⟨_,by rw [← hw];exact get_put_eq _ _ _ _ rfl (by omega)⟩
  have wm:w.m=min t3.m t3.n:=by rw [← hw];simp only [St.put,minN_eq,new_m]
  obtain ⟨z7,wp⟩:=wp
  have b2:∀ c,c<y3.n→w.h.get c=y3.h.get c:=fun c hc=>(wg c (by omega)).trans (s3.same c hc)
  have b1:∀ c,c<x.n→w.h.get c=x.h.get c:=fun c hc=>(b2 c (by omega)).trans (b3 c hc)
  have b0:∀ c,c<t1.n→w.h.get c=t1.h.get c:=fun c hc=>(b1 c (by omega)).trans ((xg c (by omega)).trans (yg c hc))
  have hB:OfferB (fun y=>no y∧y<u.n) (fun y=>na y∧y<u.n) w u.n t1.n bm t1.n x.n t2.n (y3.n+1) t3.n z5 z6 l vS vA (.slice bm 0 l.stalls.length l.stalls.length true) :=
   ⟨(b0 u.n (by omega)).trans t10,hL.bound.move (fun b h1 h2=>⟨(b0 b (by omega)).trans (t1g b h1),h2⟩) (fun b h1 h2=>⟨(b0 b (by omega)).trans (t1g b h1),h2⟩) (Nat.le_refl _),(b1 t1.n (by omega)).trans ((xg t1.n (by omega)).trans yp),(hR.move (fun _=>by omega) (fun c h1 _=>b0 c h1) (Nat.le_refl _)).weak (by omega),fun _=>by omega,(b2 t2.n (by omega)).trans y3p,by omega,Nat.le_refl _,by omega,by omega,by omega,by omega,by omega⟩
  have hh0:w.h.get x.n=some (.cells (hcell (List.replicate l.stalls.length (-1))) 0):=by
   rw [b2 x.n (by omega),y3g x.n (by omega),t2g,repA_hcell]
  have hq0:QAt w.h w.n (y3.n+1) (List.range l.appls.length) (.slice (y3.n+1) 0 l.appls.length l.appls.length false):=by
   refine ⟨by omega,0,_,0,(wg (y3.n+1) (by omega)).trans t3g,.inl ⟨by rw [List.length_range],?_⟩⟩
   have:=cut1_all (arr (List.range l.appls.length))
   rw [arr_len] at this
   rw [cut_zero]
   exact this
  have hms:(mktOf l).meas (holdF (List.replicate l.stalls.length (-1))) (List.range l.appls.length)≤72:=by
   rw [holdF_none]
   refine Nat.le_trans (Mkt.meas_start (m:=mktOf l)) ?_
   show l.stalls.length * l.appls.length+l.appls.length≤72
   have:=Nat.mul_le_mul k1 m1
   omega
  generalize hlp:loopN _ rounds _ _ _ _ _=rl
  obtain ⟨e,L1,d1,s',rfl,rfl,hs,J,I,f6⟩:=loop_d hlp (fun i L d t=>∃ hs q,OfferJ w t u.n x.n (y3.n+1) t3.n 0 z7 l hs q d (30000 * i)∧(mktOf l).Inv (holdF hs) q∧i+(mktOf l).meas (holdF hs) q≤72∧L.find 1=.ptr u.n 0∧L.find 5=.ptr t1.n 0∧L.find 6=.ptr t2.n 0∧L.find 7=.ptr t3.n 0)
   (fun e L d t=>e=.exit 0∧∃ hs,OfferJ w t u.n x.n (y3.n+1) t3.n 0 z7 l hs [] d (30000 * 72)∧(mktOf l).Inv (holdF hs) []∧L.find 6=.ptr t2.n 0) 72 (by unfold rounds;omega)
   ⟨List.replicate l.stalls.length (-1),List.range l.appls.length,⟨hh0,List.length_replicate,⟨_,_,wp,hq0,.inl rfl⟩,fun _ _ _ _ _=>rfl,Nat.le_refl _,by omega,by omega,by omega,fun c h=>(by cases h),List.nodup_nil⟩,by rw [holdF_none];exact Mkt.Inv.start (mktOf_ok ok),by omega,by simp only [find_cons,reduceIte,Nat.reduceEqDiff],by simp only [find_cons,reduceIte,Nat.reduceEqDiff],by simp only [find_cons,reduceIte,Nat.reduceEqDiff],by simp only [find_cons,reduceIte,Nat.reduceEqDiff]⟩
   (fun i L d t hi ⟨hs,q,J,I,hm,f1,f5,f6,f7⟩=>by
    cases q with
    | nil =>
     obtain ⟨gh,hk,⟨vq,b,gw,hQ,hb⟩,same,jn,jle,jm,jml,dd,dn⟩:=J
     have kq:=hQ.okA
     have lq:=hQ.len
     have e0:decide ((0:Int)<((0:Nat):Int))=false:=by simp
     refine .inr ⟨.exit 0,L.set 27 (.bool false),d,t,by simp,?_,rfl,hs,⟨gh,hk,⟨vq,b,gw,hQ,hb⟩,same,jn,by omega,jm,jml,dd,dn⟩,I,?_⟩
     ·simp (disch:=first|omega|(with_unfolding_all exact rfl)|(simp only[new_n,put_n,new_m];omega)|(refine put_m_le ?_;simp only[new_m];omega)) only [K18l0,K18r7,Abs.W,reduceIte,Nat.reduceEqDiff,Nat.reduceAdd,decide_true,decide_false,kLoop_def,Nat.reduceSub,List.cons_append,List.nil_append,List.append_nil,List.length_cons,List.length_nil,Env.find_set,f7,gw,kq,lq,e0,Nat.zero_add]
     ·simp only [Env.find_set,f6,reduceIte,Nat.reduceEqDiff]
    | cons a r =>
     have hr:r.length≤90:=by
      have:(a::r).length≤(mktOf l).meas (holdF hs) (a::r):=Nat.le_add_left _ _
      rw [List.length_cons] at this
      omega
     obtain ⟨L1,d1,t1',hs1,q1,e1,J1,I1,hm1,g1,g5,g6,g7⟩:=offer_round M (by omega) ok hB J I hr f1 f5 f6 f7 (by omega)
     exact .inl ⟨by omega,L1,d1,t1',e1,hs1,q1,by rw [Nat.mul_succ];exact J1,I1,by omega,g1,g5,g6,g7⟩)
  obtain ⟨gh,hk,_,same,jn,jle,jm,jml,dd,dn⟩:=J
  obtain ⟨s'',ed,d0,d1n,d2,d3⟩:=take_dfrs dn (fun c hc=>(dd c hc).2.2)
  have g6:=(same t2.n (by omega) (by omega) (by omega) (by omega)).trans ((b2 t2.n (by omega)).trans y3p)
  simp (disch:=first|omega|(with_unfolding_all exact rfl)|(simp only[new_n,put_n,new_m];omega)|(refine put_m_le ?_;simp only[new_m];omega)) only [K18r11,res18,Abs.W,reduceIte,Nat.reduceEqDiff,Nat.reduceAdd,decide_true,decide_false,kLoop_def,Nat.reduceSub,List.cons_append,List.nil_append,List.append_nil,List.length_cons,List.length_nil,Env.find_set,f6,g6,Nat.zero_add]
  rw [leave_dfrs ed]
  have dl:∀ c ∈ d1,w.n≤c:=fun c hc=>(dd c hc).1
  have hsm:=d2 u.n jm (fun c hc=>by have:=dl c hc;omega)
  have lv:leaveA Try.prog [.tmp 2,.tmp 3] (Env.set 3 (.int .i64 0) (Env.set 2 (.slice x.n 0 l.stalls.length l.stalls.length false) L1)) [] s''=.val (.tup [.slice x.n 0 l.stalls.length l.stalls.length false,.int .i64 0]) s'':=by
   have e2:(Env.set 3 (.int .i64 0) (Env.set 2 (.slice x.n 0 l.stalls.length l.stalls.length false) L1)).find 2=.slice x.n 0 l.stalls.length l.stalls.length false:=by simp only [Env.find_set,reduceIte,Nat.reduceEqDiff]
   have e3:(Env.set 3 (.int .i64 0) (Env.set 2 (.slice x.n 0 l.stalls.length l.stalls.length false) L1)).find 3=.int .i64 0:=by simp only [Env.find_set,reduceIte,Nat.reduceEqDiff]
   show ARes.val (oneA [Env.find 2 _,Env.find 3 _]) s''=_
   rw [e2,e3]
   rfl
  rw [lv]
  refine ⟨_,_,rfl,⟨fun c hc=>?_,by omega,by omega,hsm,by omega⟩,rfl,_,hs,rfl,⟨hcell_wide hs,.inr ⟨x.n,0,l.stalls.length,false,_,0,by omega,by omega,⟨by unfold intRows;rw [List.length_map];omega,fun h=>(by cases h)⟩,?_,(d0 x.n (fun h=>by have:=dl _ h;omega)).trans gh,?_⟩⟩,hk,I⟩
  ·rw [d0 c (fun h=>by have:=dl _ h;omega),same c (by omega) (by omega) (by omega) (by omega),b0 c (by omega)]
   exact t1g c hc
  ·have:(intRows hs).length=l.stalls.length:=by unfold intRows;rw [List.length_map];exact hk
   rw [this]
  ·rw [cut_zero,← flatten_len (hcell_wide hs)]
   exact cut1_all (hcell hs))
 exact ⟨v',t,hs,hr.symm.trans e,st,hq⟩
end Go.Proofs.Ythbhjgbpjlnbcaa.walk
set_option maxRecDepth 10000
namespace Go.Proofs.Ythbhjgbpjlnbcaa.walk
open Go.Abs Go.Proofs.Ythbhjgbpjlnbcaa.code
theorem Inv_valid {l:Letting} (ok:l.Ok) {hs:List Int} (hl:hs.length=l.stalls.length) (I:(mktOf l).Inv (holdF hs) []):ValidH l hs:=by
 have e:∀ s (h:s<hs.length),holdF hs s=hs[s]:=fun s h=>by unfold holdF;simp [List.getD,h]
 refine ⟨hl,fun s h=>?_,fun s t h h' he hn=>?_⟩
 ·rcases I.form s with h0 | ⟨a,h0⟩
  ·exact .inl (by rw [← e s h];exact h0)
  ·obtain ⟨q1,q2⟩:=I.hold s a h0
   exact .inr ⟨a,by rw [← e s h];exact h0,q1,(canI_iff ok q1).mpr q2⟩
 ·rcases I.form s with h0 | ⟨a,h0⟩
  ·exact absurd (by rw [← e s h];exact h0) hn
  ·exact I.inj s t a h0 (by rw [e t h',← he,← e s h];exact h0)
end Go.Proofs.Ythbhjgbpjlnbcaa.walk
set_option maxRecDepth 10000
namespace Go.Proofs.Ythbhjgbpjlnbcaa.walk
open Go.Abs Go.Proofs.Ythbhjgbpjlnbcaa.code
end Go.Proofs.Ythbhjgbpjlnbcaa.walk
set_option maxRecDepth 10000
namespace Go.Proofs.Ythbhjgbpjlnbcaa.walk
open Go.Abs Go.Proofs.Ythbhjgbpjlnbcaa.code
theorem can_idx {l:Letting} (ok:l.Ok) {a st:Nat} (ha:a<l.appls.length) (hst:st<l.stalls.length) (hc:canI l st a=true):∃ k,∃ (h1:k<l.appls[a].wishes.length) (h2:k<l.appls[a].bids.length),l.appls[a].wishes.idxOf (st:Int)=k∧(l.stalls[st].rule=3→l.stalls[st].least≤l.appls[a].bids[k]):=by
 have A:=ok.ap _ (List.getElem_mem ha)
 have h1:(bidOf (st:Int) (reachOf l.stalls (applAt l a))).2=true:=hc
 obtain ⟨x,hx,hxs⟩:=(bidOf_iff (st:Int) _).mp h1
 rw [applAt_of ha] at hx
 unfold reachOf at hx
 obtain ⟨z1,z2⟩:=List.mem_filter.mp hx
 obtain ⟨k,hk,he⟩:=List.getElem_of_mem z1
 rw [List.length_zip] at hk
 rw [List.getElem_zip] at he
 have k1:k<l.appls[a].wishes.length:=by omega
 have k2:k<l.appls[a].bids.length:=by omega
 have e1:l.appls[a].wishes[k]=(st:Int):=by rw [← hxs,← he]
 have e2:l.appls[a].bids[k]=x.2:=by rw [← he]
 refine ⟨k,k1,k2,idx_at k1 e1 fun y hy e=>?_,fun hr=>?_⟩
 ·exact not_mem_take A.nd k1 (by rw [e1,← e];exact hy)
 ·unfold can at z2
  have e3:stallAt l.stalls x.1=l.stalls[st]:=by rw [hxs];unfold stallAt;simp [List.getD,hst]
  rw [e3,hr] at z2
  rw [e2]
  simp at z2
  omega
end Go.Proofs.Ythbhjgbpjlnbcaa.walk
set_option maxRecDepth 10000
namespace Go.Proofs.Ythbhjgbpjlnbcaa.walk
theorem len_sub:∀ {l k:List Nat},l.Nodup→(∀ x ∈ l,x ∈ k)→l.length≤k.length
 | [],_,_,_=>Nat.zero_le _
 | x::l,k,hd,h=>by
  obtain ⟨h1,h2⟩:=List.nodup_cons.mp hd
  have hx:=h x (List.mem_cons_self ..)
  have:=len_sub (l:=l) (k:=k.erase x) h2 fun y hy=>(List.mem_erase_of_ne (fun e=>h1 (by rw [← e];exact hy))).mpr (h y (List.mem_cons_of_mem _ hy))
  rw [List.length_erase_of_mem hx] at this
  have hp:=List.length_pos_of_mem hx
  rw [List.length_cons]
  omega
namespace Mkt
variable (m:Mkt)
structure Stable (μ:Nat→Int):Prop where
 form:∀ s,μ s = -1∨∃ a:Nat,μ s=a
 hold:∀ s (a:Nat),μ s=a→a<m.n∧s ∈ m.R a
 inj:∀ s t (a:Nat),μ s=a→μ t=a→s=t
 stab:∀ a,a<m.n→∀ s ∈ m.R a,(∃ t,μ t=a∧m.pos a t≤m.pos a s)∨¬ m.Better s a (μ s)
variable {m}
theorem Inv.stable {H:Nat→Int} (I:m.Inv H []):m.Stable H:=⟨I.form,I.hold,I.inj,fun a ha=>I.stab a ha (by simp)⟩
end Mkt
end Go.Proofs.Ythbhjgbpjlnbcaa.walk
set_option maxRecDepth 10000
namespace Go.Proofs.Ythbhjgbpjlnbcaa.walk
open Go.Abs Go.Proofs.Ythbhjgbpjlnbcaa.code
theorem app_all {no:Nat→Prop} {s:St} {p w bytes tg sz:Nat} {rows:List (List AV)} {y:AV} (hY:Sl no s.h s.n w rows y) (hp:s.h.get p=some (.cells [] sz)) (hpn:p<s.n) (hsc:scalars rows.flatten=true) (hb:rows.length * bytes≤1000000) (htg:szOf (w+tg)=w) (hs:s.n+10≤far) :
  ∃ v s',appendA false w bytes tg s (.slice p 0 0 0 false) y=.val v s'∧Sl (fun x=>x=p∨x=s.n) s'.h s'.n w rows v∧(rows≠[]→IsAt s'.h s'.n s.n w tg rows v)∧s.n≤s'.n∧s'.n≤s.n+1∧(∀ c,c<s.n→s'.h.get c=s.h.get c)∧min s.m p≤s'.m∧s'.m≤s.m∧plain v=false∧(rows=[]→v=.slice p 0 0 0 false):=by
 have hf:far=1000000000:=rfl
 have hfl:=flatten_len hY.wide
 have e1:lenA y=some rows.length∧firstA w rows.length s y=some rows.flatten:=by
  rcases hY.is with ⟨h1,h2⟩ | ⟨b,o,cap,e,c,zz,h1,_,h2,h3,h4,h5⟩
  ·subst h1 h2;exact ⟨rfl,rfl⟩
  ·subst h3
   refine ⟨rfl,?_⟩
   show (match s.h.get b with | some (.cells c _)=>Abs.cut o (rows.length * w) c | some (.fam c _ q _)=>Abs.cut o (rows.length * w) (c.take q) | _=>none)=_
   rw [h4]
   exact h5
 have hA:appendA false w bytes tg s (.slice p 0 0 0 false) y=growA w bytes tg rows.length rows.flatten s (.slice p 0 0 0 false):=by
  unfold appendA
  simp only [e1.1,e1.2,hfl,Nat.beq_refl,hsc]
 have e2:Nat.ble (rows.length * bytes) limit=true:=Nat.ble_eq_true_of_le (by unfold limit;omega)
 rw [hA]
 by_cases h0:rows=[]
 ·subst h0
  refine ⟨.slice p 0 0 0 false,s.put p (.cells [] sz),?_,⟨hY.wide,.inr ⟨p,0,0,false,[],sz,hpn,.inl rfl,⟨Nat.le_refl _,fun h=>(by cases h)⟩,rfl,get_put_eq _ _ _ _ rfl (by omega),?_⟩⟩,fun h=>absurd rfl h,Nat.le_refl _,by rw [put_n];omega,fun c hc=>?_,by simp only [St.put,minN_eq];omega,by simp only [St.put,minN_eq];omega,rfl,fun _=>rfl⟩
  ·unfold growA
   simp only [hp,List.length_nil,List.flatten_nil,Nat.zero_mul,Nat.add_zero]
   rfl
  ·simp only [List.length_nil,Nat.zero_mul];rfl
  ·by_cases e:c=p
   ·subst e;rw [get_put_eq _ _ _ _ rfl (by omega)];exact hp.symm
   ·rw [get_put_ne' _ _ _ _ e]
 ·have hl:0<rows.length:=List.length_pos_iff.mpr h0
  have e3:Nat.ble rows.length 0=false:=by
   cases h:Nat.ble rows.length 0 with
   | false=>rfl
   | true=>have:=Nat.le_of_ble_eq_true h;omega
  have gI:IsAt (s.new (.cells rows.flatten (w+tg))).h (s.new (.cells rows.flatten (w+tg))).n s.n w tg rows (.slice s.n 0 rows.length rows.length true):=⟨hY.wide,.inr ⟨h0,by rw [new_n];omega,rfl,get_new_eq _ _ _ rfl (by omega)⟩⟩
  refine ⟨.slice s.n 0 rows.length rows.length true,s.new (.cells rows.flatten (w+tg)),?_,Sl.of_at gI fun _=>.inr rfl,fun _=>gI,by rw [new_n];omega,by rw [new_n];omega,fun c hc=>get_new_ne _ _ _ (by omega),by rw [new_m];omega,by rw [new_m];omega,rfl,fun h=>absurd h h0⟩
  unfold growA
  simp only [hp,Nat.zero_add,e3,e2,Nat.zero_mul]
  rfl
theorem intRows_scal (l:List Int):scalars (intRows l).flatten=true:=scalars_flatten fun r hr=>by
 unfold intRows at hr
 obtain ⟨x,_,rfl⟩:=List.mem_map.mp hr
 rfl
end Go.Proofs.Ythbhjgbpjlnbcaa.walk
set_option maxRecDepth 10000
namespace Go.Proofs.Ythbhjgbpjlnbcaa.walk
open Go.Abs Go.Proofs.Ythbhjgbpjlnbcaa.code
theorem once_ex {N d:Nat} {n:Int} {s:St} {r:ARes} (hr:call Try.prog X N (.fn 27) [.ptr d 0,.int .i64 n] s=r) (hN:3≤N) (hd:Die d s.h) (hlt:d<s.n) (hs:s.n+200≤far) (hn:n≤4000000000) :
  ∃ b t,r=.val (.bool b) t∧Stir d s t 0∧Die d t.h:=by
 obtain ⟨m,rfl⟩:∃ m,N=m+1:=⟨N - 1,by omega⟩
 have hf:far=1000000000:=rfl
 obtain ⟨v,t,e,st,⟨x,rfl⟩,hd'⟩:=call_stir_plain (n:=m) (args:=[.ptr d 0,.int .i64 n]) (d:=d) (k:=0) (Q:=fun v=>∃ b,v=.bool b) (R:=Die d) Try.func27 hd (fun u uh un um=>by
  rw [← uh] at hd
  rw [enter27]
  simp (disch:=first|omega|(with_unfolding_all exact rfl)|(simp only[new_n,put_n,new_m];omega)|(refine put_m_le ?_;simp only[new_m];omega)) only [res27,K27r0,K27r1,K27,Abs.W,reduceIte,Nat.reduceEqDiff,Nat.reduceAdd,decide_true,decide_false,kLoop_def,Nat.reduceSub,List.cons_append,List.nil_append,List.append_nil,List.length_cons,List.length_nil]
  generalize hc:call _ _ _ (.fn 15) _ _=r1
  obtain ⟨y,w,rfl,sw,dw,y0,y1⟩:=cast_ex hc (by omega) hd (by omega) (by omega) hn
  simp (disch:=first|omega|(with_unfolding_all exact rfl)|(simp only[new_n,put_n,new_m];omega)|(refine put_m_le ?_;simp only[new_m];omega)) only [res27,K27r0,K27r1,K27,Abs.W,reduceIte,Nat.reduceEqDiff,Nat.reduceAdd,decide_true,decide_false,kLoop_def,Nat.reduceSub,List.cons_append,List.nil_append,List.append_nil,List.length_cons,List.length_nil]
  exact ⟨_,_,rfl,sw,rfl,⟨_,rfl⟩,dw⟩) (by omega)
 exact ⟨x,t,hr.symm.trans e,st,hd'⟩
end Go.Proofs.Ythbhjgbpjlnbcaa.walk
