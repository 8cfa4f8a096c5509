/- Benches that may be: weighings, scales, trials, and all together. -/
import Derived.Test.YtkkdiibgjgnbhaaM1
import Derived.Test.YtkkdiibgjgnbhaaCodes
import Derived.Test.YtkkdiibgjgnbhaaWalkAll
set_option maxHeartbeats 16000000
set_option linter.unusedVariables false
set_option maxRecDepth 10000
namespace Go.Proofs.Ytkkdiibgjgnbhaa.walk
open Go.Abs Go.Proofs.Ytkkdiibgjgnbhaa.code
theorem weighings_ok (N:Nat) (hN:5≤N) (b:Bench) (ok:b.Ok) (v1 v2 v3 v4:AV) (s:St) (hB:BenchAt s.h s.n b v1 v2 v3 v4) (hs:s.n+3000≤far) :
  call Try.prog X N (.fn 41) [.agg (benchV v1 v2 v3 v4 b.days)] s=.val (.int .i64 0) s:=by
 obtain ⟨n,rfl⟩:∃ n,N=n+1:=⟨N - 1,by omega⟩
 refine call_plain' Try.func41 (fun u uh un um=>?_) rfl
 have hff:far=1000000000:=rfl
 rw [← uh,← un] at hB
 have k1:∀ t,okA (.val v1 t)=.val v1 t:=fun t=>okA_ne hB.m.ne
 have k2:∀ t,okA (.val v2 t)=.val v2 t:=fun t=>okA_ne hB.w.ne
 have l2:=hB.w.len
 rw [List.length_map] at l2
 have l1:=hB.m.len
 rw [List.length_map] at l1
 obtain ⟨w,hw⟩:∃ w:St,w=u.new (.cells (benchV v1 v2 v3 v4 b.days) (tag 28)):=⟨_,rfl⟩
 have wn:w.n=u.n+1:=by rw [hw];rfl
 have wm:w.m=far:=by rw [hw];exact um
 have wg:∀ c,c<u.n→w.h.get c=u.h.get c:=fun c hc=>by rw [hw,get_new_ne _ _ _ (by omega)]
 have w0:w.h.get u.n=some (.cells (benchV v1 v2 v3 v4 b.days) (tag 28)):=by rw [hw];exact get_new_eq _ _ _ rfl (by omega)
 have hR:=hB.w.grow wg (by omega:u.n≤w.n)
 have z0:decide ((0:Int)=0)=true:=rfl
 have c1:=ok.w1
 unfold benchV at w0 hw ⊢
 rw [enter41]
 simp (disch:=first|omega|(with_unfolding_all exact rfl)|(simp only[new_n,put_n,new_m];omega)|(refine put_m_le ?_;simp only[new_m];omega)) only [K41,K41r0,Abs.W,reduceIte,Nat.reduceEqDiff,Nat.reduceAdd]
 rw [← hw]
 simp (disch:=first|omega|(with_unfolding_all exact rfl)|(simp only[new_n,put_n,new_m];omega)|(refine put_m_le ?_;simp only[new_m];omega)) only [K41r1,K41r2,K41r4,Abs.W,reduceIte,Nat.reduceEqDiff,decide_true,kLoop_def,Nat.reduceSub,w0,k2,l2,counted_ok,Nat.zero_add]
 generalize hl1:loopN _ rounds _ _ _ _ _=q1
 obtain ⟨e,L1,s1,rfl,rfl,hE⟩:=loop_of hl1
  (fun i L' t=>L'.find 1=.ptr u.n 0∧L'.find 16=v2∧L'.find 17=.int .i64 b.ws.length∧L'.find 18=.int .i64 i∧Beside w t (10 * i))
  (fun e L1 s1=>e=.exit 0∧Beside w s1 (10 * b.ws.length))
  b.ws.length (by unfold rounds;omega) ⟨by simp only [find_cons,reduceIte,Nat.reduceEqDiff],by simp only [find_cons,reduceIte,Nat.reduceEqDiff],by simp only [find_cons,reduceIte,Nat.reduceEqDiff],by simp only [find_cons,reduceIte,Nat.reduceEqDiff];rfl,Beside.refl w (by omega) wm⟩
  (fun i L' t hi ⟨q1,q16,q17,q18,hE⟩=>by
   have tn:=hE.n
   have tl:=hE.le
   have tm:=hE.m
   have tf:=hE.far
   by_cases hlt:i<b.ws.length
   ·have e0:decide ((i:Int)<(b.ws.length:Int))=true:=decide_eq_true (by omega)
    obtain ⟨p,o,cs,sz,r1,r2,r3,r4⟩:=(hR.grow hE.same tn).at_ i (by simpa using hlt)
    rw [List.getElem_map] at r4
    obtain ⟨a0,a1,b0,b1,ab,o0,o1,o2⟩:=ok.wok _ (List.getElem_mem hlt)
    generalize b.ws[i]=M at *
    unfold Weigh.cells at r4
    have g1:=(hE.same u.n (by omega)).trans w0
    have nab:decide (M.a=M.b)=false:=decide_eq_false ab
    have ad:∀ s,aAdd s .i64 (i:Int) 1=.val (.int .i64 ((i:Int)+1)) s:=fun s=>aAdd_i64 s _ _ (by omega)
    refine .inl ⟨hlt,_,_,by
     simp (disch:=first|omega|(with_unfolding_all exact rfl)|(simp only[new_n,put_n,new_m];omega)|(refine put_m_le ?_;simp only[new_m];omega)) only [K41r5,K41r6,K41r7,K41r8,K41r9,K41r10,K41r11,K41r12,K41r13,K41r14,K41r15,K41l0,Abs.W,reduceIte,Nat.reduceEqDiff,Nat.reduceAdd,decide_true,Nat.reduceSub,Env.find_set,q1,q16,q17,q18,e0,r2,r3,r4,g1,k1,l1,nab,named_ok,ckSpan_ok,or_new2,ad,Nat.zero_add]
     rfl,?_,?_,?_,?_,(((hE.new _).put _ tn).new _).mono (by omega)⟩
    ·simp only [Env.find_set,q1,reduceIte,Nat.reduceEqDiff]
    ·simp only [Env.find_set,q16,reduceIte,Nat.reduceEqDiff]
    ·simp only [Env.find_set,q17,reduceIte,Nat.reduceEqDiff]
    ·simp only [Env.find_set,reduceIte,Nat.reduceEqDiff];rfl
   ·obtain rfl:i=b.ws.length:=by omega
    have e0:decide ((b.ws.length:Int)<(b.ws.length:Int))=false:=by simp
    refine .inr ⟨.exit 0,L'.set 19 (.bool false),t,by simp,?_,rfl,hE⟩
    simp (disch:=first|omega|(with_unfolding_all exact rfl)|(simp only[new_n,put_n,new_m];omega)|(refine put_m_le ?_;simp only[new_m];omega)) only [K41l0,K41r5,Abs.W,reduceIte,Env.find_set,q17,q18,e0])
 simp (disch:=first|omega|(with_unfolding_all exact rfl)|(simp only[new_n,put_n,new_m];omega)|(refine put_m_le ?_;simp only[new_m];omega)) only [K41r16,res41,Abs.W,reduceIte,Env.find_set]
 refine ⟨s1,rfl,?_⟩
 have:=hE.m
 omega
theorem scales_ok (N:Nat) (hN:5≤N) (b:Bench) (ok:b.Ok) (v1 v2 v3 v4:AV) (s:St) (hB:BenchAt s.h s.n b v1 v2 v3 v4) (hs:s.n+3000≤far) :
  call Try.prog X N (.fn 42) [.agg (benchV v1 v2 v3 v4 b.days)] s=.val (.int .i64 0) s:=by
 obtain ⟨n,rfl⟩:∃ n,N=n+1:=⟨N - 1,by omega⟩
 refine call_plain' Try.func42 (fun u uh un um=>?_) rfl
 have hff:far=1000000000:=rfl
 rw [← uh,← un] at hB
 have k1:∀ t,okA (.val v3 t)=.val v3 t:=fun t=>okA_ne hB.s.ne
 have l1:=hB.s.len
 rw [List.length_map] at l1
 obtain ⟨w,hw⟩:∃ w:St,w=u.new (.cells (benchV v1 v2 v3 v4 b.days) (tag 28)):=⟨_,rfl⟩
 have wn:w.n=u.n+1:=by rw [hw];rfl
 have wm:w.m=far:=by rw [hw];exact um
 have wg:∀ c,c<u.n→w.h.get c=u.h.get c:=fun c hc=>by rw [hw,get_new_ne _ _ _ (by omega)]
 have w0:w.h.get u.n=some (.cells (benchV v1 v2 v3 v4 b.days) (tag 28)):=by rw [hw];exact get_new_eq _ _ _ rfl (by omega)
 have hR:=hB.s.grow wg (by omega:u.n≤w.n)
 have z0:decide ((0:Int)=0)=true:=rfl
 have c0:=ok.s0
 have c1:=ok.s1
 unfold benchV at w0 hw ⊢
 rw [enter42]
 simp (disch:=first|omega|(with_unfolding_all exact rfl)|(simp only[new_n,put_n,new_m];omega)|(refine put_m_le ?_;simp only[new_m];omega)) only [K42,K42r0,Abs.W,reduceIte,Nat.reduceEqDiff,Nat.reduceAdd]
 rw [← hw]
 simp (disch:=first|omega|(with_unfolding_all exact rfl)|(simp only[new_n,put_n,new_m];omega)|(refine put_m_le ?_;simp only[new_m];omega)) only [K42r1,K42r2,K42r4,Abs.W,reduceIte,Nat.reduceEqDiff,decide_true,kLoop_def,Nat.reduceSub,w0,k1,l1,counted_ok,Nat.zero_add]
 generalize hl1:loopN _ rounds _ _ _ _ _=q1
 obtain ⟨e,L1,s1,rfl,rfl,hE⟩:=loop_of hl1
  (fun i L' t=>L'.find 15=v3∧L'.find 16=.int .i64 b.ss.length∧L'.find 17=.int .i64 i∧Beside w t (10 * i))
  (fun e L1 s1=>e=.exit 0∧Beside w s1 (10 * b.ss.length))
  b.ss.length (by unfold rounds;omega) ⟨by simp only [find_cons,reduceIte,Nat.reduceEqDiff],by simp only [find_cons,reduceIte,Nat.reduceEqDiff],by simp only [find_cons,reduceIte,Nat.reduceEqDiff];rfl,Beside.refl w (by omega) wm⟩
  (fun i L' t hi ⟨q15,q16,q17,hE⟩=>by
   have tn:=hE.n
   have tl:=hE.le
   have tm:=hE.m
   have tf:=hE.far
   by_cases hlt:i<b.ss.length
   ·have e0:decide ((i:Int)<(b.ss.length:Int))=true:=decide_eq_true (by omega)
    obtain ⟨p,o,cs,sz,r1,r2,r3,r4⟩:=(hR.grow hE.same tn).at_ i (by simpa using hlt)
    rw [List.getElem_map] at r4
    obtain ⟨f0,f1,f2,o0,o1,o2⟩:=ok.sok _ (List.getElem_mem hlt)
    generalize b.ss[i]=M at *
    unfold Scl.cells at r4
    have a1:∀ s,aAdd s .i64 (i:Int) 1=.val (.int .i64 ((i:Int)+1)) s:=fun s=>aAdd_i64 s _ _ (by omega)
    refine .inl ⟨hlt,_,_,by
     simp (disch:=first|omega|(with_unfolding_all exact rfl)|(simp only[new_n,put_n,new_m];omega)|(refine put_m_le ?_;simp only[new_m];omega)) only [K42l0,K42r5,K42r6,K42r7,K42r8,K42r10,Abs.W,reduceIte,Nat.reduceEqDiff,Nat.reduceAdd,decide_true,Nat.reduceSub,Env.find_set,q15,q16,q17,e0,r2,r3,r4,ckSpan_ok,or_new2,a1,Nat.zero_add]
     rfl,?_,?_,?_,(((hE.new _).put _ tn).new _).mono (by omega)⟩
    ·simp only [Env.find_set,q15,reduceIte,Nat.reduceEqDiff]
    ·simp only [Env.find_set,q16,reduceIte,Nat.reduceEqDiff]
    ·simp only [Env.find_set,reduceIte,Nat.reduceEqDiff];rfl
   ·obtain rfl:i=b.ss.length:=by omega
    have e0:decide ((b.ss.length:Int)<(b.ss.length:Int))=false:=by simp
    refine .inr ⟨.exit 0,L'.set 18 (.bool false),t,by simp,?_,rfl,hE⟩
    simp (disch:=first|omega|(with_unfolding_all exact rfl)|(simp only[new_n,put_n,new_m];omega)|(refine put_m_le ?_;simp only[new_m];omega)) only [K42l0,K42r5,Abs.W,reduceIte,Env.find_set,q16,q17,e0])
 simp (disch:=first|omega|(with_unfolding_all exact rfl)|(simp only[new_n,put_n,new_m];omega)|(refine put_m_le ?_;simp only[new_m];omega)) only [K42r11,res42,Abs.W,reduceIte,Env.find_set]
 refine ⟨s1,rfl,?_⟩
 have:=hE.m
 omega
theorem trials_ok (N:Nat) (hN:5≤N) (b:Bench) (ok:b.Ok) (v1 v2 v3 v4:AV) (s:St) (hB:BenchAt s.h s.n b v1 v2 v3 v4) (hs:s.n+3000≤far) :
  call Try.prog X N (.fn 44) [.agg (benchV v1 v2 v3 v4 b.days)] s=.val (.int .i64 0) s:=by
 obtain ⟨n,rfl⟩:∃ n,N=n+1:=⟨N - 1,by omega⟩
 refine call_plain' Try.func44 (fun u uh un um=>?_) rfl
 have hff:far=1000000000:=rfl
 rw [← uh,← un] at hB
 have k1:∀ t,okA (.val v1 t)=.val v1 t:=fun t=>okA_ne hB.m.ne
 have k3:∀ t,okA (.val v3 t)=.val v3 t:=fun t=>okA_ne hB.s.ne
 have k4:∀ t,okA (.val v4 t)=.val v4 t:=fun t=>okA_ne hB.t.ne
 have l3:=hB.s.len
 rw [List.length_map] at l3
 have l4:=hB.t.len
 rw [List.length_map] at l4
 have l1:=hB.m.len
 rw [List.length_map] at l1
 obtain ⟨w,hw⟩:∃ w:St,w=u.new (.cells (benchV v1 v2 v3 v4 b.days) (tag 28)):=⟨_,rfl⟩
 have wn:w.n=u.n+1:=by rw [hw];rfl
 have wm:w.m=far:=by rw [hw];exact um
 have wg:∀ c,c<u.n→w.h.get c=u.h.get c:=fun c hc=>by rw [hw,get_new_ne _ _ _ (by omega)]
 have w0:w.h.get u.n=some (.cells (benchV v1 v2 v3 v4 b.days) (tag 28)):=by rw [hw];exact get_new_eq _ _ _ rfl (by omega)
 have hR:=hB.t.grow wg (by omega:u.n≤w.n)
 have z0:decide ((0:Int)=0)=true:=rfl
 have c1:=ok.t1
 unfold benchV at w0 hw ⊢
 rw [enter44]
 simp (disch:=first|omega|(with_unfolding_all exact rfl)|(simp only[new_n,put_n,new_m];omega)|(refine put_m_le ?_;simp only[new_m];omega)) only [K44,K44r0,Abs.W,reduceIte,Nat.reduceEqDiff,Nat.reduceAdd]
 rw [← hw]
 simp (disch:=first|omega|(with_unfolding_all exact rfl)|(simp only[new_n,put_n,new_m];omega)|(refine put_m_le ?_;simp only[new_m];omega)) only [K44r1,K44r2,K44r4,Abs.W,reduceIte,Nat.reduceEqDiff,decide_true,kLoop_def,Nat.reduceSub,w0,k4,l4,counted_ok,Nat.zero_add]
 generalize hl1:loopN _ rounds _ _ _ _ _=q1
 obtain ⟨e,L1,s1,rfl,rfl,hE⟩:=loop_of hl1
  (fun i L' t=>L'.find 1=.ptr u.n 0∧L'.find 15=v4∧L'.find 16=.int .i64 b.ts.length∧L'.find 17=.int .i64 i∧Beside w t (10 * i))
  (fun e L1 s1=>e=.exit 0∧Beside w s1 (10 * b.ts.length))
  b.ts.length (by unfold rounds;omega) ⟨by simp only [find_cons,reduceIte,Nat.reduceEqDiff],by simp only [find_cons,reduceIte,Nat.reduceEqDiff],by simp only [find_cons,reduceIte,Nat.reduceEqDiff],by simp only [find_cons,reduceIte,Nat.reduceEqDiff];rfl,Beside.refl w (by omega) wm⟩
  (fun i L' t hi ⟨q1,q15,q16,q17,hE⟩=>by
   have tn:=hE.n
   have tl:=hE.le
   have tm:=hE.m
   have tf:=hE.far
   by_cases hlt:i<b.ts.length
   ·have e0:decide ((i:Int)<(b.ts.length:Int))=true:=decide_eq_true (by omega)
    obtain ⟨p,o,cs,sz,r1,r2,r3,r4⟩:=(hR.grow hE.same tn).at_ i (by simpa using hlt)
    rw [List.getElem_map] at r4
    obtain ⟨s0,s1,m0,m1,d0,d1,x0,x1⟩:=ok.tok _ (List.getElem_mem hlt)
    generalize b.ts[i]=M at *
    unfold Trial.cells at r4
    have g1:=(hE.same u.n (by omega)).trans w0
    have ad:∀ s,aAdd s .i64 (i:Int) 1=.val (.int .i64 ((i:Int)+1)) s:=fun s=>aAdd_i64 s _ _ (by omega)
    refine .inl ⟨hlt,_,_,by
     simp (disch:=first|omega|(with_unfolding_all exact rfl)|(simp only[new_n,put_n,new_m];omega)|(refine put_m_le ?_;simp only[new_m];omega)) only [K44l0,K44r5,K44r6,K44r7,K44r8,K44r10,Abs.W,reduceIte,Nat.reduceEqDiff,Nat.reduceAdd,decide_true,Nat.reduceSub,Env.find_set,q1,q15,q16,q17,e0,r2,r3,r4,g1,k1,l1,k3,l3,within_ok,named_ok,or_new4,ad,Nat.zero_add]
     rfl,?_,?_,?_,?_,(((hE.new _).put _ tn).new _).mono (by omega)⟩
    ·simp only [Env.find_set,q1,reduceIte,Nat.reduceEqDiff]
    ·simp only [Env.find_set,q15,reduceIte,Nat.reduceEqDiff]
    ·simp only [Env.find_set,q16,reduceIte,Nat.reduceEqDiff]
    ·simp only [Env.find_set,reduceIte,Nat.reduceEqDiff];rfl
   ·obtain rfl:i=b.ts.length:=by omega
    have e0:decide ((b.ts.length:Int)<(b.ts.length:Int))=false:=by simp
    refine .inr ⟨.exit 0,L'.set 18 (.bool false),t,by simp,?_,rfl,hE⟩
    simp (disch:=first|omega|(with_unfolding_all exact rfl)|(simp only[new_n,put_n,new_m];omega)|(refine put_m_le ?_;simp only[new_m];omega)) only [K44l0,K44r5,Abs.W,reduceIte,Env.find_set,q16,q17,e0])
 simp (disch:=first|omega|(with_unfolding_all exact rfl)|(simp only[new_n,put_n,new_m];omega)|(refine put_m_le ?_;simp only[new_m];omega)) only [K44r11,res44,Abs.W,reduceIte,Env.find_set]
 refine ⟨s1,rfl,?_⟩
 have:=hE.m
 omega
theorem ckBench_ok (N:Nat) (hN:6≤N) (b:Bench) (ok:b.Ok) (v1 v2 v3 v4:AV) (s:St) (hB:BenchAt s.h s.n b v1 v2 v3 v4) (hs:s.n+4000≤far) :
  call Try.prog X N (.fn 16) [.agg (benchV v1 v2 v3 v4 b.days)] s=.val (.int .i64 0) s:=by
 obtain ⟨n,rfl⟩:∃ n,N=n+1:=⟨N - 1,by omega⟩
 refine call_plain' Try.func16 (fun u uh un um=>?_) rfl
 have hff:far=1000000000:=rfl
 rw [← uh,← un] at hB
 obtain ⟨w,hw⟩:∃ w:St,w=u.new (.cells (benchV v1 v2 v3 v4 b.days) (tag 28)):=⟨_,rfl⟩
 have wn:w.n=u.n+1:=by rw [hw];rfl
 have wm:w.m=far:=by rw [hw];exact um
 have wg:∀ c,c<u.n→w.h.get c=u.h.get c:=fun c hc=>by rw [hw,get_new_ne _ _ _ (by omega)]
 have w0:w.h.get u.n=some (.cells (benchV v1 v2 v3 v4 b.days) (tag 28)):=by rw [hw];exact get_new_eq _ _ _ rfl (by omega)
 have hBw:∀ m,BenchAt (⟨w.h,w.n,m⟩:St).h (⟨w.h,w.n,m⟩:St).n b v1 v2 v3 v4:=fun m=>hB.grow wg (by show u.n≤w.n;omega)
 have e1:=fun m=>masses_ok n (by omega) b ok v1 v2 v3 v4 ⟨w.h,w.n,m⟩ (hBw m) (by show w.n+3000≤far;omega)
 have e2:=fun m=>weighings_ok n (by omega) b ok v1 v2 v3 v4 ⟨w.h,w.n,m⟩ (hBw m) (by show w.n+3000≤far;omega)
 have e3:=fun m=>scales_ok n (by omega) b ok v1 v2 v3 v4 ⟨w.h,w.n,m⟩ (hBw m) (by show w.n+3000≤far;omega)
 have e4:=fun m=>trials_ok n (by omega) b ok v1 v2 v3 v4 ⟨w.h,w.n,m⟩ (hBw m) (by show w.n+3000≤far;omega)
 have d1:=ok.d1
 have hwn:w.n≤far:=by omega
 have hwm:w.m≤far:=by omega
 unfold benchV at w0 hw e1 e2 e3 e4 ⊢
 rw [enter16]
 simp (disch:=first|omega|(with_unfolding_all exact rfl)|(simp only[new_n,put_n,new_m];omega)|(refine put_m_le ?_;simp only[new_m];omega)) only [K16,K16r0,Abs.W,reduceIte,Nat.reduceEqDiff,Nat.reduceAdd]
 rw [← hw]
 simp (disch:=first|omega|(with_unfolding_all exact rfl)|(simp only[new_n,put_n,new_m];omega)|(refine put_m_le ?_;simp only[new_m];omega)) only [K16r1,Abs.W,reduceIte,Nat.reduceEqDiff,Nat.reduceSub,w0,e1,e2,e3,e4,thenT_same _ _ _ _ _ _ _ hwn hwm,within_ok,or_new5,Nat.zero_add]
 exact ⟨_,rfl,by simp only [new_m];omega⟩
end Go.Proofs.Ytkkdiibgjgnbhaa.walk
set_option maxRecDepth 10000
namespace Go.Proofs.Ytkkdiibgjgnbhaa.walk
open Go.Abs Go.Proofs.Ytkkdiibgjgnbhaa.code
def Die (d:Nat) (h:Heap):Prop:=∃ f,h.get d=some (.cells [.int .u64 f] (tag 57))
theorem roll_ex {N d:Nat} {s:St} {r:ARes} (hr:call Try.prog X N (.fn 12) [.ptr d 0] s=r) (hN:1≤N) (hd:Die d s.h) (hlt:d<s.n) (hs:s.n+10≤far) :
  ∃ x t,r=.val (.int .u64 x) t∧Stir d s t 0∧Die d t.h∧0≤x∧x≤18446744073709551615:=by
 obtain ⟨n,rfl⟩:∃ n,N=n+1:=⟨N - 1,by omega⟩
 have hf:far=1000000000:=rfl
 obtain ⟨f,hg⟩:=hd
 obtain ⟨v,t,e,st,⟨x,rfl,x0,x1⟩,hd'⟩:=call_stir_plain (n:=n) (args:=[.ptr d 0]) (d:=d) (k:=0) (Q:=fun v=>∃ x,v=.int .u64 x∧0≤x∧x≤18446744073709551615) (R:=Die d) Try.func12 ⟨f,hg⟩ (fun u uh un um=>by
  rw [← uh] at hg
  rw [enter12]
  simp (disch:=first|omega|(with_unfolding_all exact rfl)|(simp only[new_n,put_n,new_m];omega)|(refine put_m_le ?_;simp only[new_m];omega)) only [res12,K12r0,K12r1,K12r2,K12r3,K12r4,K12r5,K12,Abs.W,reduceIte,Nat.reduceEqDiff,Nat.reduceSub,hg,Nat.zero_add,kShr_def,shrA_u64,aAdd_def,aMul_def,aXor_def]
  refine ⟨_,_,rfl,(Stir.refl d u).put (by omega) _ (.inl rfl),rfl,⟨_,rfl,?_⟩,⟨_,get_put_eq _ _ _ _ rfl (by omega)⟩⟩
  exact xorI_range _ _) (by omega)
 exact ⟨x,t,hr.symm.trans e,st,hd',x0,x1⟩
theorem cast_ex {N d:Nat} {n:Int} {s:St} {r:ARes} (hr:call Try.prog X N (.fn 32) [.ptr d 0,.int .i64 n] s=r) (hN:2≤N) (hd:Die d s.h) (hlt:d<s.n) (hs:s.n+100≤far) (hn:n≤1000000000) :
  ∃ x t,r=.val (.int .i64 x) t∧Stir d s t 0∧Die d t.h∧0≤x∧(x<n∨x=0):=by
 obtain ⟨m,rfl⟩:∃ m,N=m+1:=⟨N - 1,by omega⟩
 have hf:far=1000000000:=rfl
 obtain ⟨v,t,e,st,⟨x,rfl,x0,x1⟩,hd'⟩:=call_stir_plain (n:=m) (args:=[.ptr d 0,.int .i64 n]) (d:=d) (k:=0) (Q:=fun v=>∃ x,v=.int .i64 x∧0≤x∧(x<n∨x=0)) (R:=Die d) Try.func32 hd (fun u uh un um=>by
  rw [← uh] at hd
  rw [enter32]
  by_cases hlow:n<2
  ·have e0:decide (n<2)=true:=by simpa using hlow
   simp (disch:=first|omega|(with_unfolding_all exact rfl)|(simp only[new_n,put_n,new_m];omega)|(refine put_m_le ?_;simp only[new_m];omega)) only [res32,K32r0,K32r1,K32r2,K32r3,K32,Abs.W,reduceIte,Nat.reduceEqDiff,Nat.reduceAdd,e0]
   exact ⟨_,_,rfl,Stir.refl d u,rfl,⟨0,rfl,by omega,.inr rfl⟩,hd⟩
  ·have e0:decide (n<2)=false:=by simpa using hlow
   simp (disch:=first|omega|(with_unfolding_all exact rfl)|(simp only[new_n,put_n,new_m];omega)|(refine put_m_le ?_;simp only[new_m];omega)) only [K32r0,K32r1,K32r2,K32r3,K32,Abs.W,reduceIte,Nat.reduceEqDiff,Nat.reduceAdd,e0]
   generalize hc:call _ _ _ (.fn 12) _ _=r1
   obtain ⟨y,w,rfl,sw,dw,y0,y1⟩:=roll_ex hc (by omega) hd (by omega) (by omega)
   have q0:0≤shrI y 2:=shrI_nonneg _ _ y0
   have q2:0≤(shrI y 2).tmod n:=Int.tmod_nonneg _ q0
   have q3:(shrI y 2).tmod n<n:=Int.tmod_lt_of_pos _ (by omega)
   have w1:wrapA .u64 n=n:=wrap_u64 n (by omega)
   have w2:wrapA .i64 ((shrI y 2).tmod n)=(shrI y 2).tmod n:=wrap_in _ (by omega)
   have w3:∀ s,aRem s .u64 (shrI y 2) n=.val (.int .u64 ((shrI y 2).tmod n)) s:=fun s=>aRem_ne s _ _ _ (by omega)
   simp (disch:=first|omega|(with_unfolding_all exact rfl)|(simp only[new_n,put_n,new_m];omega)|(refine put_m_le ?_;simp only[new_m];omega)) only [res32,Abs.W,reduceIte,Nat.reduceEqDiff,kShr_def,shrA_u64,cviA_int,w1,w2,w3]
   exact ⟨_,_,rfl,sw,rfl,⟨_,rfl,q2,.inl q3⟩,dw⟩) (by omega)
 exact ⟨x,t,hr.symm.trans e,st,hd',x0,x1⟩
theorem from_ex {N d:Nat} {lo hi:Int} {s:St} {r:ARes} (hr:call Try.prog X N (.fn 33) [.ptr d 0,.int .i64 lo,.int .i64 hi] s=r) (hN:3≤N) (hd:Die d s.h) (hlt:d<s.n) (hs:s.n+200≤far)
  (h0 : -100000000≤lo) (h1:lo≤100000000) (h2 : -100000000≤hi) (h3:hi≤100000000) :
  ∃ x t,r=.val (.int .i64 x) t∧Stir d s t 0∧Die d t.h∧lo≤x∧(x≤hi∨x=lo):=by
 obtain ⟨m,rfl⟩:∃ m,N=m+1:=⟨N - 1,by omega⟩
 have hf:far=1000000000:=rfl
 obtain ⟨v,t,e,st,⟨x,rfl,x0,x1⟩,hd'⟩:=call_stir_plain (n:=m) (args:=[.ptr d 0,.int .i64 lo,.int .i64 hi]) (d:=d) (k:=0) (Q:=fun v=>∃ x,v=.int .i64 x∧lo≤x∧(x≤hi∨x=lo)) (R:=Die d) Try.func33 hd (fun u uh un um=>by
  rw [← uh] at hd
  have a1:∀ s,aSub s .i64 hi lo=.val (.int .i64 (hi - lo)) s:=fun s=>aSub_i64 s _ _ (by omega)
  have a2:∀ s,aAdd s .i64 (hi - lo) 1=.val (.int .i64 (hi - lo+1)) s:=fun s=>aAdd_i64 s _ _ (by omega)
  rw [enter33]
  simp (disch:=first|omega|(with_unfolding_all exact rfl)|(simp only[new_n,put_n,new_m];omega)|(refine put_m_le ?_;simp only[new_m];omega)) only [K33r0,K33r1,K33,Abs.W,reduceIte,Nat.reduceEqDiff,Nat.reduceAdd,a1,a2]
  generalize hc:call _ _ _ (.fn 32) _ _=r1
  obtain ⟨y,w,rfl,sw,dw,y0,y1⟩:=cast_ex hc (by omega) hd (by omega) (by omega) (by omega)
  have a3:∀ s,aAdd s .i64 lo y=.val (.int .i64 (lo+y)) s:=fun s=>aAdd_i64 s _ _ (by omega)
  simp (disch:=first|omega|(with_unfolding_all exact rfl)|(simp only[new_n,put_n,new_m];omega)|(refine put_m_le ?_;simp only[new_m];omega)) only [res33,Abs.W,reduceIte,Nat.reduceEqDiff,a3]
  exact ⟨_,_,rfl,sw,rfl,⟨_,rfl,by omega,by omega⟩,dw⟩) (by omega)
 exact ⟨x,t,hr.symm.trans e,st,hd',x0,x1⟩
theorem nth_ints:∀ {l:List Int} {i:Nat},i<l.length→∃ x ∈ l,nth (l.map fun x=>AV.int .i64 x) i=.int .i64 x
 | [],i,h=>by simp at h
 | a::l,0,_=>⟨a,List.mem_cons_self ..,rfl⟩
 | a::l,i+1,h=>by
  obtain ⟨x,hx,e⟩:=nth_ints (l:=l) (i:=i) (by simpa using h)
  exact ⟨x,List.mem_cons_of_mem _ hx,e⟩
theorem one_ex {N d b:Nat} {k sz:Nat} (l:List Int) {s:St} {r:ARes} (hr:call Try.prog X N (.fn 35) [.ptr d 0,.slice b 0 k k false] s=r) (hN:3≤N) (hd:Die d s.h) (hlt:d<s.n) (hs:s.n+200≤far)
  (hb:s.h.get b=some (.cells (l.map fun x=>AV.int .i64 x) sz)) (hbn:b<s.n) (hbd:b≠d) (hl:l.length=k) (h0:0<k) (hk:k≤1000) :
  ∃ x t,r=.val (.int .i64 x) t∧Stir d s t 0∧Die d t.h∧x ∈ l:=by
 obtain ⟨m,rfl⟩:∃ m,N=m+1:=⟨N - 1,by omega⟩
 have hf:far=1000000000:=rfl
 obtain ⟨v,t,e,st,⟨x,rfl,hx⟩,hd'⟩:=call_stir_plain (n:=m) (args:=[.ptr d 0,.slice b 0 k k false]) (d:=d) (k:=0) (Q:=fun v=>∃ x,v=.int .i64 x∧x ∈ l) (R:=Die d) Try.func35 hd (fun u uh un um=>by
  rw [← uh] at hd hb
  have e0:decide ((k:Int)=0)=false:=by simp;omega
  rw [enter35]
  simp (disch:=first|omega|(with_unfolding_all exact rfl)|(simp only[new_n,put_n,new_m];omega)|(refine put_m_le ?_;simp only[new_m];omega)) only [K35r0,K35r1,K35r2,K35r3,K35,Abs.W,reduceIte,Nat.reduceEqDiff,Nat.reduceAdd,e0]
  generalize hc:call _ _ _ (.fn 32) _ _=r1
  obtain ⟨y,w,rfl,sw,dw,y0,y1⟩:=cast_ex hc (by omega) hd (by omega) (by omega) (by omega)
  obtain ⟨i,rfl⟩:∃ i:Nat,y=i:=⟨y.toNat,by omega⟩
  have hi:i<k:=by omega
  obtain ⟨x,hx,hn⟩:=nth_ints (l:=l) (i:=i) (by omega)
  have hg:w.h.get b=some (.cells (l.map fun x=>AV.int .i64 x) sz):=by rw [sw.same b (by omega) hbd];exact hb
  simp (disch:=first|omega|(with_unfolding_all exact rfl)|(simp only[new_n,put_n,new_m];omega)|(refine put_m_le ?_;simp only[new_m];omega)) only [res35,Abs.W,reduceIte,Nat.reduceEqDiff,ixs_slice _ _ _ _ _ _ _ _ hi,Nat.mul_one,Nat.zero_add,hg,hn]
  exact ⟨_,_,rfl,sw,rfl,⟨x,rfl,hx⟩,dw⟩) (by omega)
 exact ⟨x,t,hr.symm.trans e,st,hd',hx⟩
theorem span_ex {N d:Nat} {lo hi:Int} {s:St} {r:ARes} (hr:call Try.prog X N (.fn 34) [.ptr d 0,.int .i64 lo,.int .i64 hi] s=r) (hN:4≤N) (hd:Die d s.h) (hlt:d<s.n) (hs:s.n+300≤far)
  (h0 : -1000000≤lo) (h1:lo≤hi) (h2:hi≤1000000) :
  ∃ a b t,r=.val (.agg [.int .i64 a,.int .i64 b]) t∧Stir d s t 2∧Die d t.h∧lo≤a∧a≤b∧b≤hi:=by
 obtain ⟨m,rfl⟩:∃ m,N=m+1:=⟨N - 1,by omega⟩
 have hf:far=1000000000:=rfl
 obtain ⟨v,t,e,st,⟨a,b,rfl,x0,x1,x2⟩,hd'⟩:=call_stir_plain (n:=m) (args:=[.ptr d 0,.int .i64 lo,.int .i64 hi]) (d:=d) (k:=2) (Q:=fun v=>∃ a b,v=.agg [.int .i64 a,.int .i64 b]∧lo≤a∧a≤b∧b≤hi) (R:=Die d) Try.func34 hd (fun u uh un um=>by
  rw [← uh] at hd
  have sh:shapeT Try.prog 44=some (some 2):=by kernel_rfl
  rw [enter34]
  simp (disch:=first|omega|(with_unfolding_all exact rfl)|(simp only[new_n,put_n,new_m];omega)|(refine put_m_le ?_;simp only[new_m];omega)) only [K34r0,K34r1,K34r2,K34r3,K34,Abs.W,reduceIte,Nat.reduceEqDiff,Nat.reduceAdd]
  generalize hc:call _ _ _ (.fn 33) _ _=r1
  obtain ⟨x,w,rfl,sw,dw,y0,y1⟩:=from_ex hc (by omega) (by obtain ⟨f,hg⟩:=hd;exact ⟨f,by rw [get_new_ne _ _ _ (by omega)];exact hg⟩) (by simp only [new_n];omega) (by simp only [new_n];omega) (by omega) (by omega) (by omega) (by omega)
  have wn:=sw.n
  have wl:=sw.le
  simp only [new_n] at wn wl
  have a1:∀ s,aAdd s .i64 x 4=.val (.int .i64 (x+4)) s:=fun s=>aAdd_i64 s _ _ (by omega)
  simp (disch:=first|omega|(with_unfolding_all exact rfl)|(simp only[new_n,put_n,new_m];omega)|(refine put_m_le ?_;simp only[new_m];omega)) only [Abs.W,reduceIte,Nat.reduceEqDiff,Nat.reduceSub,a1,kFold_def,foldA_nil,foldA_cons,minA_i64]
  generalize hc2:call _ _ _ (.fn 35) _ _=r2
  obtain ⟨y,w2,rfl,sw2,dw2,ym⟩:=one_ex [x,min hi (x+4),hi] hc2 (by omega) (by obtain ⟨f,hg⟩:=dw;exact ⟨f,by rw [get_new_ne _ _ _ (by omega)];exact hg⟩) (by simp only [new_n];omega) (by simp only [new_n];omega) (get_new_eq _ _ _ rfl (by omega)) (by simp only [new_n];omega) (by omega) rfl (by omega) (by omega)
  have wn2:=sw2.n
  have wl2:=sw2.le
  simp only [new_n] at wn2 wl2
  have ym':x≤y∧y≤hi:=by
   simp only [List.mem_cons,List.not_mem_nil,or_false] at ym
   omega
  simp (disch:=first|omega|(with_unfolding_all exact rfl)|(simp only[new_n,put_n,new_m];omega)|(refine put_m_le ?_;simp only[new_m];omega)) only [Abs.W,reduceIte,Nat.reduceEqDiff]
  generalize hc3:call _ _ _ (.fn 33) _ _=r3
  obtain ⟨z,w3,rfl,sw3,dw3,z0,z1⟩:=from_ex hc3 (by omega) dw2 (by omega) (by omega) (by omega) (by omega) (by omega) (by omega)
  have wn3:=sw3.n
  have wl3:=sw3.le
  have g:w3.h.get u.n=some (.cells [.int .i64 0,.int .i64 0] (tag 44)):=by
   rw [sw3.same _ (by omega) (by omega),sw2.same _ (by simp only [new_n];omega) (by omega),get_new_ne _ _ _ (by omega),sw.same _ (by simp only [new_n];omega) (by omega)]
   exact get_new_eq _ _ _ rfl (by omega)
  simp (disch:=first|omega|(with_unfolding_all exact rfl)|(simp only[new_n,put_n,new_m];omega)|(refine put_m_le ?_;simp only[new_m];omega)) only [res34,Abs.W,reduceIte,Nat.reduceEqDiff,Nat.reduceAdd,Nat.reduceSub,g]
  have S1:Stir d u w3 2:=((((((Stir.refl d u).new _).trans sw).new _).trans sw2).trans sw3)
  refine ⟨_,_,leave_cell _ _ _ _ sh ?_,S1.put (by omega) _ (.inr (Nat.le_refl _)),rfl,⟨x,z,rfl,by omega,by omega,by omega⟩,?_⟩
  ·simp (disch:=first|omega|(with_unfolding_all exact rfl)|(simp only[new_n,put_n,new_m];omega)|(refine put_m_le ?_;simp only[new_m];omega)) only [Abs.W,reduceIte,Nat.reduceEqDiff,Nat.reduceSub]
  ·obtain ⟨f,hg⟩:=dw3
   exact ⟨f,by rw [get_put_ne' _ _ _ _ (by omega)];exact hg⟩) (by omega)
 exact ⟨a,b,t,hr.symm.trans e,st,hd',x0,x1,x2⟩
end Go.Proofs.Ytkkdiibgjgnbhaa.walk
set_option maxRecDepth 10000
namespace Go.Proofs.Ytkkdiibgjgnbhaa.walk
open Go.Abs Go.Proofs.Ytkkdiibgjgnbhaa.code
end Go.Proofs.Ytkkdiibgjgnbhaa.walk
set_option maxRecDepth 10000
namespace Go.Proofs.Ytkkdiibgjgnbhaa.walk
open Go.Abs Go.Proofs.Ytkkdiibgjgnbhaa.code
theorem true_ex {N d:Nat} {lo hi:Int} {s:St} {r:ARes} (hr:call Try.prog X N (.fn 37) [.ptr d 0,.agg [.int .i64 lo,.int .i64 hi]] s=r) (hN:5≤N) (hd:Die d s.h) (hlt:d<s.n) (hs:s.n+600≤far)
  (h0 : -1000000≤lo) (h1:lo≤hi) (h2:hi≤1000000) :
  ∃ a t,r=.val (.int .i64 a) t∧Stir d s t 3∧Die d t.h∧lo≤a∧a≤hi:=by
 obtain ⟨n,rfl⟩:∃ n,N=n+1:=⟨N - 1,by omega⟩
 have hff:far=1000000000:=rfl
 obtain ⟨v,t,e,st,⟨x,rfl,q0,q1⟩,hd'⟩:=call_stir_plain (n:=n) (args:=[.ptr d 0,.agg [.int .i64 lo,.int .i64 hi]]) (d:=d) (k:=3) (Q:=fun v=>∃ x:Int,v=.int .i64 x∧lo≤x∧x≤hi) (R:=Die d) Try.func37 hd (fun u uh un um=>by
  rw [← uh] at hd
  rw [enter37]
  simp (disch:=first|omega|(with_unfolding_all exact rfl)|(simp only[new_n,put_n,new_m];omega)|(refine put_m_le ?_;simp only[new_m];omega)) only [K37,K37r0,Abs.W,reduceIte,Nat.reduceEqDiff,Nat.reduceAdd]
  obtain ⟨y,hy⟩:∃ y:St,y=u.new (.cells [.int .i64 lo,.int .i64 hi] (tag 44)):=⟨_,rfl⟩
  rw [← hy]
  have yn:y.n=u.n+1:=by rw [hy];rfl
  have ym:y.m=far:=by rw [hy];exact um
  have yg:∀ c,c<u.n→y.h.get c=u.h.get c:=fun c hc=>by rw [hy,get_new_ne _ _ _ (by omega)]
  have y0:y.h.get u.n=some (.cells [.int .i64 lo,.int .i64 hi] (tag 44)):=by rw [hy];exact get_new_eq _ _ _ rfl (by omega)
  have dy:Die d y.h:=by obtain ⟨f,hg⟩:=hd;exact ⟨f,by rw [yg _ (by omega)];exact hg⟩
  simp (disch:=first|omega|(with_unfolding_all exact rfl)|(simp only[new_n,put_n,new_m];omega)|(refine put_m_le ?_;simp only[new_m];omega)) only [K37r1,Abs.W,reduceIte,Nat.reduceEqDiff,Nat.reduceSub,y0,Nat.zero_add]
  generalize hc1:call _ _ _ (.fn 33) _ _=r1
  obtain ⟨x1,t1,rfl,st1,d1,x10,x11⟩:=from_ex hc1 (by omega) dy (by show d<y.n;omega) (by show y.n+200≤far;omega) (by omega) (by omega) (by omega) (by omega)
  have n1:y.n≤t1.n:=st1.n
  have k1:t1.n≤y.n:=st1.le
  have p1:t1.h.get u.n=some (.cells [.int .i64 lo,.int .i64 hi] (tag 44)):=(st1.same u.n (by show u.n<y.n;omega) (by omega)).trans y0
  simp (disch:=first|omega|(with_unfolding_all exact rfl)|(simp only[new_n,put_n,new_m];omega)|(refine put_m_le ?_;simp only[new_m];omega)) only [Abs.W,reduceIte,Nat.reduceEqDiff,Nat.reduceSub,thenT_turn,p1,Nat.zero_add]
  generalize hc2:call _ _ _ (.fn 33) _ _=r2
  obtain ⟨x2,t2,rfl,st2,d2,x20,x21⟩:=from_ex hc2 (by omega) d1 (by show d<t1.n;omega) (by show t1.n+200≤far;omega) (by omega) (by omega) (by omega) (by omega)
  have n2:t1.n≤t2.n:=st2.n
  have k2:t2.n≤t1.n:=st2.le
  have p2:t2.h.get u.n=some (.cells [.int .i64 lo,.int .i64 hi] (tag 44)):=(st2.same u.n (by show u.n<t1.n;omega) (by omega)).trans p1
  simp (disch:=first|omega|(with_unfolding_all exact rfl)|(simp only[new_n,put_n,new_m];omega)|(refine put_m_le ?_;simp only[new_m];omega)) only [Abs.W,reduceIte,Nat.reduceEqDiff,Nat.reduceSub,thenT_turn]
  generalize hc3:call _ _ _ (.fn 35) _ _=r3
  obtain ⟨x3,t3,rfl,st3,d3,m3⟩:=one_ex [lo,hi,x1,x2] hc3 (by omega) (by obtain ⟨f,hg⟩:=d2;exact ⟨f,by rw [get_new_ne _ _ _ (by show d≠t2.n;omega)];exact hg⟩) (by show d<t2.n+1;omega) (by show t2.n+1+200≤far;omega) (get_new_eq _ _ _ rfl (by show t2.n<_;omega)) (by show t2.n<t2.n+1;omega) (by show t2.n≠d;omega) rfl (by omega) (by omega)
  have x3r:lo≤x3∧x3≤hi:=by
   simp only [List.mem_cons,List.not_mem_nil,or_false] at m3
   omega
  have n3:t2.n+1≤t3.n:=st3.n
  have k3:t3.n≤t2.n+1:=st3.le
  simp (disch:=first|omega|(with_unfolding_all exact rfl)|(simp only[new_n,put_n,new_m];omega)|(refine put_m_le ?_;simp only[new_m];omega)) only [Abs.W,reduceIte,Nat.reduceEqDiff]
  have kp:∀ (a b:Heap) (M:Env),a.get u.n=some (.cells [.int .i64 lo,.int .i64 hi] (tag 44))→b.get u.n=some (.cells [.int .i64 lo,.int .i64 hi] (tag 44))→M.find 6=.ptr u.n 0→M.find 8=.ptr u.n 1→keptAll a b M [6,8]=true:=fun a b M h2 h3 h1 h4=>by
   simp only [keptAll_cons,keptAll_nil,h1,h4,keptV_ptr,h2,h3,sameO_cells,Bool.and_self]
  have kp4:∀ (a b:Heap) (M:Env),a.get u.n=some (.cells [.int .i64 lo,.int .i64 hi] (tag 44))→b.get u.n=some (.cells [.int .i64 lo,.int .i64 hi] (tag 44))→M.find 6=.ptr u.n 0→M.find 8=.ptr u.n 1→M.find 17=.ptr u.n 0→M.find 19=.ptr u.n 1→keptAll a b M [6,8,17,19]=true:=fun a b M h2 h3 h1 h4 h5 h6=>by
   simp only [keptAll_cons,keptAll_nil,h1,h4,h5,h6,keptV_ptr,h2,h3,sameO_cells,Bool.and_self]
  rw [endT_kept (s:=⟨t1.h,t1.n,minN y.m t1.m⟩) (kp _ _ _ p1 p2 (by simp only [find_cons,reduceIte,Nat.reduceEqDiff]) (by simp only [find_cons,reduceIte,Nat.reduceEqDiff])),endT_kept (kp4 _ _ _ y0 p1 (by simp only [find_cons,reduceIte,Nat.reduceEqDiff]) (by simp only [find_cons,reduceIte,Nat.reduceEqDiff]) (by simp only [find_cons,reduceIte,Nat.reduceEqDiff]) (by simp only [find_cons,reduceIte,Nat.reduceEqDiff]))]
  simp (disch:=first|omega|(with_unfolding_all exact rfl)|(simp only[new_n,put_n,new_m];omega)|(refine put_m_le ?_;simp only[new_m];omega)) only [res37,Abs.W,reduceIte,Nat.reduceEqDiff]
  have h1:=st1.m (show d≤far by omega)
  have h2:=st2.m (show d≤far by omega)
  have h3:=st3.m (show d≤minN (minN y.m t1.m) t2.m by rw [minN_eq,minN_eq];omega)
  have h4:t3.m≤minN (minN y.m t1.m) t2.m:=st3.mle
  rw [minN_eq,minN_eq] at h4
  refine ⟨_,_,rfl,⟨fun c hc hcd=>?_,?_,?_,fun _=>?_,?_⟩,rfl,⟨_,rfl,x3r.1,x3r.2⟩,d3⟩
  ·rw [st3.same c (by show c<t2.n+1;omega) hcd,get_new_ne _ _ _ (by show c≠t2.n;omega)]
   show t2.h.get c=_
   rw [st2.same c (by show c<t1.n;omega) hcd,st1.same c (by show c<y.n;omega) hcd]
   show y.h.get c=_
   rw [yg c hc]
  ·omega
  ·omega
  ·exact h3
  ·omega) (by omega)
 exact ⟨x,t,hr.symm.trans e,st,hd',q0,q1⟩
end Go.Proofs.Ytkkdiibgjgnbhaa.walk
set_option maxRecDepth 10000
namespace Go.Proofs.Ytkkdiibgjgnbhaa.walk
open Go.Abs Go.Proofs.Ytkkdiibgjgnbhaa.code
theorem once_ex {N d:Nat} {n:Int} {s:St} {r:ARes} (hr:call Try.prog X N (.fn 36) [.ptr d 0,.int .i64 n] s=r) (hN:3≤N) (hd:Die d s.h) (hlt:d<s.n) (hs:s.n+200≤far) (hn:n≤1000000000) :
  ∃ b t,r=.val (.bool b) t∧Stir d s t 0∧Die d t.h:=by
 obtain ⟨m,rfl⟩:∃ m,N=m+1:=⟨N - 1,by omega⟩
 have hf:far=1000000000:=rfl
 obtain ⟨v,t,e,st,⟨x,rfl⟩,hd'⟩:=call_stir_plain (n:=m) (args:=[.ptr d 0,.int .i64 n]) (d:=d) (k:=0) (Q:=fun v=>∃ b,v=.bool b) (R:=Die d) Try.func36 hd (fun u uh un um=>by
  rw [← uh] at hd
  rw [enter36]
  simp (disch:=first|omega|(with_unfolding_all exact rfl)|(simp only[new_n,put_n,new_m];omega)|(refine put_m_le ?_;simp only[new_m];omega)) only [K36r0,K36r1,K36,Abs.W,reduceIte,Nat.reduceEqDiff,Nat.reduceAdd]
  generalize hc:call _ _ _ (.fn 32) _ _=r1
  obtain ⟨y,w,rfl,sw,dw,y0,y1⟩:=cast_ex hc (by omega) hd (by omega) (by omega) hn
  simp (disch:=first|omega|(with_unfolding_all exact rfl)|(simp only[new_n,put_n,new_m];omega)|(refine put_m_le ?_;simp only[new_m];omega)) only [res36,Abs.W,reduceIte,Nat.reduceEqDiff]
  exact ⟨_,_,rfl,sw,rfl,⟨_,rfl⟩,dw⟩) (by omega)
 exact ⟨x,t,hr.symm.trans e,st,hd'⟩
end Go.Proofs.Ytkkdiibgjgnbhaa.walk
set_option maxRecDepth 10000
namespace Go.Abs
structure IsAt (h:Heap) (n b w tg:Nat) (rows:List (List AV)) (v:AV):Prop where
 wide:∀ r ∈ rows,r.length=w
 is:(rows=[]∧v=.nilslice)∨(rows≠[]∧b<n∧v=.slice b 0 rows.length rows.length true∧h.get b=some (.cells rows.flatten (w+tg)))
theorem IsAt.nil (h:Heap) (n b w tg:Nat):IsAt h n b w tg [] .nilslice:=⟨fun _ hr=>(by cases hr),.inl ⟨rfl,rfl⟩⟩
theorem IsAt.mono {h h':Heap} {n n' b w tg:Nat} {rows:List (List AV)} {v:AV} (r:IsAt h n b w tg rows v) (hh:b<n→h'.get b=h.get b) (hn:n≤n'):IsAt h' n' b w tg rows v :=
 ⟨r.wide,r.is.imp id fun ⟨h1,h2,h3,h4⟩=>⟨h1,by omega,h3,by rw [hh h2];exact h4⟩⟩
theorem IsAt.rows {h:Heap} {n b w tg:Nat} {rows:List (List AV)} {v:AV} (r:IsAt h n b w tg rows v):Rows h 0 n w tg rows v :=
 ⟨r.wide,r.is.imp id fun ⟨_,h2,h3,h4⟩=>⟨b,Nat.zero_le _,h2,h3,h4⟩⟩
theorem IsAt.okA {h:Heap} {n b w tg:Nat} {rows:List (List AV)} {v:AV} (r:IsAt h n b w tg rows v) (t:St):Abs.okA (.val v t)=.val v t:=okA_ne r.rows.at_.ne
theorem IsAt.scal {h:Heap} {n b w tg:Nat} {rows:List (List AV)} {v:AV} (r:IsAt h n b w tg rows v):scalars [v]=true∧cellsOf 1 v=some [v]:=by
 rcases r.is with ⟨_,h2⟩ | ⟨_,_,h3,_⟩
 ·subst h2;exact ⟨rfl,rfl⟩
 ·subst h3;exact ⟨rfl,rfl⟩
theorem IsAt.apart {h:Heap} {n b w tg c o:Nat} {rows:List (List AV)} {v:AV} (r:IsAt h n b w tg rows v) (hc:b≠c):apartA v (.ptr c o)=true:=by
 rcases r.is with ⟨_,h2⟩ | ⟨_,_,h3,_⟩
 ·subst h2;rfl
 ·subst h3;exact apart_slice hc
theorem IsAt.keptV {h h' h'':Heap} {n b w tg:Nat} {rows:List (List AV)} {v:AV} (r:IsAt h n b w tg rows v) (hh:b<n→h''.get b=h'.get b) (h1:b<n→h'.get b=h.get b):Abs.keptV h' h'' v=true:=by
 rcases r.is with ⟨_,h2⟩ | ⟨_,h2,h3,h4⟩
 ·subst h2;exact keptV_nils _ _
 ·subst h3;rw [keptV_slice,hh h2,h1 h2,h4,sameO_cells]
theorem apart_ptr {b c o p:Nat} (h:b≠c):apartA (.ptr b o) (.ptr c p)=true:=by
 unfold apartA
 simp [blockOf,nbeq_f h]
theorem append_at {s:St} {b w bytes tg:Nat} {rows:List (List AV)} {v:AV} (r:IsAt s.h s.n b w tg rows v) {p sz:Nat} {row:List AV} (hp:s.h.get p=some (.cells row sz)) (hw:row.length=w) (hsc:scalars row=true)
  (hb:(rows.length+1) * bytes≤1000000) (htg:szOf (w+tg)=w) (hs:s.n<549755813888) :
  ∃ s',appendA false w bytes tg s v (.slice p 0 1 1 false)=.val (.slice s.n 0 (rows.length+1) (rows.length+1) true) s'∧IsAt s'.h s'.n s.n w tg (rows++[row]) (.slice s.n 0 (rows.length+1) (rows.length+1) true)∧s'.n=s.n+1∧(∀ c,c<s.n→c≠b→s'.h.get c=s.h.get c)∧(∀ k,k≤b→k≤s.n→k≤s.m→k≤s'.m)∧s'.m≤s.m:=by
 rcases r.is with ⟨h1,h2⟩ | ⟨h1,h2,h3,h4⟩
 ·obtain ⟨v',s',e1,e2,e3,e4,e5,e6,e7,e8⟩:=append_row (lo:=s.n) (bytes:=bytes) (⟨r.wide,.inl ⟨h1,h2⟩⟩:Rows s.h s.n s.n w tg rows v) hp hw hsc hb htg hs (Nat.le_refl _)
  subst e8
  refine ⟨s',e1,⟨e2.wide,.inr ⟨by simp,by omega,by simp,?_⟩⟩,e3,fun c hc _=>e4 c hc,fun k _ hk hm=>e6 k hk hm,e7⟩
  rcases e2.is with ⟨z,_⟩ | ⟨b',_,_,z2,z3⟩
  ·simp at z
  ·injection z2 with z2
   rw [z2];exact z3
 ·obtain ⟨v',s',e1,e2,e3,e4,e5,e6,e7,e8⟩:=append_row (lo:=b) (bytes:=bytes) (⟨r.wide,.inr ⟨b,Nat.le_refl _,h2,h3,h4⟩⟩:Rows s.h b s.n w tg rows v) hp hw hsc hb htg hs (by omega)
  subst e8
  refine ⟨s',e1,⟨e2.wide,.inr ⟨by simp,by omega,by simp,?_⟩⟩,e3,fun c hc hcb=>e5 c hc (by rw [h3];intro z;injection z with z;exact hcb z.symm),fun k hk _ hm=>e6 k hk hm,e7⟩
  rcases e2.is with ⟨z,_⟩ | ⟨b',_,_,z2,z3⟩
  ·simp at z
  ·injection z2 with z2
   rw [z2];exact z3
def upd {α:Type} (f:Nat→α) (i:Nat) (x:α) (j:Nat):α:=if j=i then x else f j
theorem upd_at {α:Type} (f:Nat→α) (i:Nat) (x:α):upd f i x i=x:=if_pos rfl
theorem upd_ne {α:Type} (f:Nat→α) (i:Nat) (x:α) {j:Nat} (h:j≠i):upd f i x j=f j:=if_neg h
structure Lists (h:Heap) (n lo:Nat) (W T:Nat→Nat) (R:Nat→List (List AV)) (bs:Nat→Nat) (vs:Nat→AV):Prop where
 at_:∀ i,IsAt h n (bs i) (W i) (T i) (R i) (vs i)
 ne:∀ i j,i≠j→bs i≠bs j
 lo:∀ i,lo≤bs i
 far:∀ i,bs i<n∨Abs.far<bs i
theorem Lists.mono {h h':Heap} {n n' lo:Nat} {W T:Nat→Nat} {R:Nat→List (List AV)} {bs:Nat→Nat} {vs:Nat→AV} (l:Lists h n lo W T R bs vs) (hh:∀ i,bs i<n→h'.get (bs i)=h.get (bs i)) (hn:n≤n'):Lists h' n' lo W T R bs vs :=
 ⟨fun i=>(l.at_ i).mono (hh i) hn,l.ne,l.lo,fun i=>(l.far i).imp (fun h=>by omega) id⟩
theorem Lists.push {s:St} {lo:Nat} {W T:Nat→Nat} {R:Nat→List (List AV)} {bs:Nat→Nat} {vs:Nat→AV} (l:Lists s.h s.n lo W T R bs vs) (i:Nat) {p sz bytes:Nat} {row:List AV} (hp:s.h.get p=some (.cells row sz)) (hw:row.length=W i) (hsc:scalars row=true)
  (hb:((R i).length+1) * bytes≤1000000) (htg:szOf (W i+T i)=W i) (hs:s.n+10≤Abs.far) (hlo:lo≤s.n) :
  ∃ s' v',appendA false (W i) bytes (T i) s (vs i) (.slice p 0 1 1 false)=.val v' s'∧Lists s'.h s'.n lo W T (upd R i (R i++[row])) (upd bs i s.n) (upd vs i v')∧s'.n=s.n+1∧(∀ c,c<s.n→c≠bs i→s'.h.get c=s.h.get c)∧(∀ k,k≤lo→k≤s.m→k≤s'.m)∧s'.m≤s.m:=by
 have hf:Abs.far=1000000000:=rfl
 obtain ⟨s',e1,e2,e3,e4,e5,e6⟩:=append_at (bytes:=bytes) (l.at_ i) hp hw hsc hb htg (by omega)
 have hln:=l.lo i
 refine ⟨s',_,e1,⟨fun j=>?_,fun j k hjk=>?_,fun j=>?_,fun j=>?_⟩,e3,e4,fun k hk hm=>e5 k (by omega) (by omega) hm,e6⟩
 ·by_cases h:j=i
  ·subst h;simp only [upd_at];exact e2
  ·simp only [upd_ne _ _ _ h]
   exact (l.at_ j).mono (fun hj=>e4 _ hj (l.ne j i h)) (by omega)
 ·have hn:∀ j,bs j≠s.n:=fun j=>by rcases l.far j with h | h<;>omega
  by_cases h:j=i
  ·have h':k≠i:=fun e=>hjk (h.trans e.symm)
   subst h
   rw [upd_at,upd_ne _ _ _ h']
   exact fun e=>hn k e.symm
  ·by_cases h':k=i
   ·subst h'
    rw [upd_at,upd_ne _ _ _ h]
    exact hn j
   ·rw [upd_ne _ _ _ h,upd_ne _ _ _ h']
    exact l.ne j k hjk
 ·by_cases h:j=i
  ·subst h;rw [upd_at];exact hlo
  ·rw [upd_ne _ _ _ h];exact l.lo j
 ·by_cases h:j=i
  ·subst h;rw [upd_at];exact .inl (by omega)
  ·rw [upd_ne _ _ _ h];exact (l.far j).imp (fun h=>by omega) id
end Go.Abs
namespace Go.Proofs.Ytkkdiibgjgnbhaa.walk
open Go.Abs Go.Proofs.Ytkkdiibgjgnbhaa.code
theorem Die.new {d:Nat} {s:St} (h:Die d s.h) (hd:d<s.n) (o:AObj):Die d (s.new o).h:=by obtain ⟨f,hf⟩:=h;exact ⟨f,by rw [get_new_ne _ _ _ (by omega)];exact hf⟩
theorem Die.put {d b:Nat} {s:St} (h:Die d s.h) (hd:d≠b) (o:AObj):Die d (s.put b o).h:=by obtain ⟨f,hf⟩:=h;exact ⟨f,by rw [get_put_ne' _ _ _ _ hd];exact hf⟩
theorem Die.keep {d:Nat} {h h':Heap} (D:Die d h) (e:h'.get d=h.get d):Die d h':=by obtain ⟨f,hf⟩:=D;exact ⟨f,by rw [e];exact hf⟩
def intRows (l:List Int):List (List AV):=l.map fun x=>[.int .i64 x]
theorem intRows_len (l:List Int):(intRows l).length=l.length:=List.length_map ..
theorem intRows_snoc (l:List Int) (x:Int):intRows (l++[x])=intRows l++[[.int .i64 x]]:=by unfold intRows;rw [List.map_append];rfl
def benchW:Nat→Nat
 | 0=>3
 | 1=>4
 | 2=>4
 | 3=>4
 | _=>1
def benchT:Nat→Nat
 | 0=>tag 51
 | 1=>tag 96
 | 2=>tag 54
 | 3=>tag 98
 | 4=>tag 3
 | _=>tag 22
def benchR (b:Bench) (offs:List Int) (rv:List AV):Nat→List (List AV)
 | 0=>b.ms.map Mass.cells
 | 1=>b.ws.map Weigh.cells
 | 2=>b.ss.map Scl.cells
 | 3=>b.ts.map Trial.cells
 | 4=>intRows offs
 | 5=>rv.map fun v=>[v]
 | _=>[]
structure Made (h:Heap) (n d p13 p14 lo:Nat) (b:Bench) (offs:List Int) (errs:List (List Int)) (rv:List AV) (xs:List Nat) (bs:Nat→Nat) (vs:Nat→AV):Prop where
 die:Die d h
 g13:h.get p13=some (.cells [vs 0,vs 1,vs 2,vs 3,.int .i64 b.days] (tag 28))
 g14:h.get p14=some (.cells [vs 4,vs 5] (tag 36))
 ls:Lists h n lo benchW benchT (benchR b offs rv) bs vs
 el:rv.length=errs.length
 xl:xs.length=errs.length
 er:∀ j (h1:j<rv.length) (h2:j<errs.length) (h3:j<xs.length),Blk h n xs[j] 1 (tag 3) (intRows errs[j]) rv[j]
 xo:∀ x ∈ xs,lo≤x∧∀ i,bs i≠x
 pl:d<p13∧p13<p14∧p14<lo∧lo≤n
structure Goes (u t:St) (d p13 p14 lo k:Nat):Prop where
 same:∀ c,c<lo→c≠d→c≠p13→c≠p14→t.h.get c=u.h.get c
 n:u.n≤t.n
 le:t.n≤u.n+k
 m:d≤u.m→d≤t.m
 mle:t.m≤u.m
theorem Goes.refl (u:St) (d p13 p14 lo:Nat):Goes u u d p13 p14 lo 0:=⟨fun _ _ _ _ _=>rfl,Nat.le_refl _,Nat.le_refl _,fun h=>h,Nat.le_refl _⟩
theorem Goes.trans {u s t:St} {d p13 p14 lo j k:Nat} (a:Goes u s d p13 p14 lo j) (b:Goes s t d p13 p14 lo k):Goes u t d p13 p14 lo (j+k) :=
 ⟨fun c h1 h2 h3 h4=>(b.same c h1 h2 h3 h4).trans (a.same c h1 h2 h3 h4),Nat.le_trans a.n b.n,by have:=a.le;have:=b.le;omega,fun h=>b.m (a.m h),Nat.le_trans b.mle a.mle⟩
theorem Goes.mono {u t:St} {d p13 p14 lo j k:Nat} (a:Goes u t d p13 p14 lo j) (h:j≤k):Goes u t d p13 p14 lo k:=⟨a.same,a.n,by have:=a.le;omega,a.m,a.mle⟩
end Go.Proofs.Ytkkdiibgjgnbhaa.walk
set_option maxRecDepth 10000
namespace Go.Proofs.Ytkkdiibgjgnbhaa.walk
open Go.Abs Go.Proofs.Ytkkdiibgjgnbhaa.code
theorem Made.keep {h h':Heap} {n n' d p13 p14 lo:Nat} {b:Bench} {offs:List Int} {errs:List (List Int)} {rv:List AV} {xs:List Nat} {bs:Nat→Nat} {vs:Nat→AV} (m:Made h n d p13 p14 lo b offs errs rv xs bs vs) (D:Die d h') (hh:∀ c,c<n→c≠d→h'.get c=h.get c) (hn:n≤n'):Made h' n' d p13 p14 lo b offs errs rv xs bs vs:=by
 obtain ⟨m1,m2,m3,m4,m5,m6,m7,m8,m9⟩:=m
 have hd:∀ c,lo≤c→c≠d:=fun c hc=>by omega
 refine ⟨D,by rw [hh _ (by omega) (by omega)];exact m2,by rw [hh _ (by omega) (by omega)];exact m3,m4.mono (fun i hi=>hh _ hi (hd _ (m4.lo i))) hn,m5,m6,fun j h1 h2 h3=>?_,m8,by omega⟩
 have k1:=m7 j h1 h2 h3
 exact k1.mono (hh _ k1.lt (hd _ (m8 _ (List.getElem_mem h3)).1)) hn
theorem Made.keep' {h h':Heap} {n n' d p13 p14 lo q:Nat} {b:Bench} {offs:List Int} {errs:List (List Int)} {rv:List AV} {xs:List Nat} {bs:Nat→Nat} {vs:Nat→AV} (m:Made h n d p13 p14 lo b offs errs rv xs bs vs) (D:Die d h') (hh:∀ c,c<n→c≠d→c≠q→h'.get c=h.get c) (hn:n≤n') (hq:lo≤q∧(∀ i,bs i≠q)∧∀ x ∈ xs,x≠q):Made h' n' d p13 p14 lo b offs errs rv xs bs vs:=by
 obtain ⟨m1,m2,m3,m4,m5,m6,m7,m8,m9⟩:=m
 have hd:∀ c,lo≤c→c≠d:=fun c hc=>by omega
 refine ⟨D,by rw [hh _ (by omega) (by omega) (by omega)];exact m2,by rw [hh _ (by omega) (by omega) (by omega)];exact m3,m4.mono (fun i hi=>hh _ hi (hd _ (m4.lo i)) (hq.2.1 i)) hn,m5,m6,fun j h1 h2 h3=>?_,m8,by omega⟩
 have k1:=m7 j h1 h2 h3
 exact k1.mono (hh _ k1.lt (hd _ (m8 _ (List.getElem_mem h3)).1) (hq.2.2 _ (List.getElem_mem h3))) hn
theorem made_mass (N:Nat) (hN:6≤N) (cx:Ctx) {d p13 p14 lo i:Nat} {b:Bench} {offs:List Int} {errs:List (List Int)} {rv:List AV} {xs:List Nat} {bs:Nat→Nat} {vs:Nat→AV} {L:Env} {s:St} (hi:0<i) (hi6:i≤10) (hs:s.n+2000≤far)
  (hM:Made s.h s.n d p13 p14 lo b offs errs rv xs bs vs) (hbl:b.ms.length≤10) (hol:offs.length≤10) (l0:L.find 0=.ptr d 0) (l13:L.find 13=.ptr p13 0) (l14:L.find 14=.ptr p14 0) (l15:L.find 15=.int .i64 i) :
  ∃ L1 s1 M x bs1 vs1,K11l0 (call Try.prog X N) cx L [] s=.done .norm L1 [] s1∧(∀ t,t=0∨t=2∨t=3∨t=10∨t=11∨t=12∨t=13∨t=14→L1.find t=L.find t)∧L1.find 15=.int .i64 ((i:Int) - 1)∧M.Ok∧(M.lo≤x∧x≤M.hi ∧ -20≤x∧x≤20) ∧
   Made s1.h s1.n d p13 p14 lo { b with ms:=b.ms++[M] } (offs++[x]) errs rv xs bs1 vs1∧Goes s s1 d p13 p14 lo 30:=by
 have hf:far=1000000000:=rfl
 have e0:decide ((0:Int)<(i:Int))=true:=by simp;omega
 obtain ⟨pd,pp,plo,pn⟩:=hM.pl
 have hd:=hM.die
 simp (disch:=first|omega|(with_unfolding_all exact rfl)|(simp only[new_n,put_n,new_m];omega)|(refine put_m_le ?_;simp only[new_m];omega)) only [K11r4,K11r5,K11r6,K11r7,K11r8,K11r9,K11l0,Abs.W,reduceIte,Nat.reduceEqDiff,Nat.reduceSub,Env.find_set,l0,l15,e0]
 generalize hc1:call _ _ _ (.fn 35) _ _=r1
 obtain ⟨x1,t1,rfl,st1,d1,m1⟩:=one_ex [3,20] hc1 (by omega) (hd.new (by omega) _) (by simp only [new_n];omega) (by simp only [new_n];omega) (get_new_eq _ _ _ rfl (by omega)) (by simp only [new_n];omega) (by omega) rfl (by omega) (by omega)
 have x1r:x1=3∨x1=20:=by simpa using m1
 have n1:s.n+1≤t1.n:=st1.n
 have k1:t1.n≤s.n+1:=st1.le
 have ng:∀ s,negA s (.int .i64 x1)=.val (.int .i64 (-x1)) s:=fun s=>neg_i64 s _ (by omega)
 simp (disch:=first|omega|(with_unfolding_all exact rfl)|(simp only[new_n,put_n,new_m];omega)|(refine put_m_le ?_;simp only[new_m];omega)) only [Abs.W,reduceIte,Nat.reduceEqDiff,Nat.reduceSub,Env.find_set,l0,ng]
 generalize hc2:call _ _ _ (.fn 35) _ _=r2
 obtain ⟨x2,t2,rfl,st2,d2,m2⟩:=one_ex [3,20] hc2 (by omega) (d1.new (by omega) _) (by simp only [new_n];omega) (by simp only [new_n];omega) (get_new_eq _ _ _ rfl (by omega)) (by simp only [new_n];omega) (by omega) rfl (by omega) (by omega)
 have x2r:x2=3∨x2=20:=by simpa using m2
 have n2:t1.n+1≤t2.n:=st2.n
 have k2:t2.n≤t1.n+1:=st2.le
 simp (disch:=first|omega|(with_unfolding_all exact rfl)|(simp only[new_n,put_n,new_m];omega)|(refine put_m_le ?_;simp only[new_m];omega)) only [Abs.W,reduceIte,Nat.reduceEqDiff,Env.find_set]
 generalize hc3:call _ _ _ (.fn 34) _ _=r3
 obtain ⟨a,c,t3,rfl,st3,d3,a0,a1,a2⟩:=span_ex hc3 (by omega) d2 (by omega) (by omega) (by omega) (by omega) (by omega)
 have n3:t2.n≤t3.n:=st3.n
 have k3:t3.n≤t2.n+2:=st3.le
 simp (disch:=first|omega|(with_unfolding_all exact rfl)|(simp only[new_n,put_n,new_m];omega)|(refine put_m_le ?_;simp only[new_m];omega)) only [Abs.W,reduceIte,Nat.reduceEqDiff,Nat.reduceAdd,Nat.reduceSub,Env.find_set,l0,Nat.zero_add]
 obtain ⟨y,hy⟩:∃ y:St,y=(t3.new (.cells [.int .i64 0,.int .i64 0] (tag 44))).put t3.n (.cells [.int .i64 a,.int .i64 c] (tag 44)):=⟨_,rfl⟩
 rw [← hy]
 have yn:y.n=t3.n+1:=by rw [hy];rfl
 have ym:y.m=min t3.m t3.n:=by rw [hy];simp only [St.put,minN_eq,new_m]
 have yg:∀ c,c≠t3.n→y.h.get c=t3.h.get c:=fun c hc=>by rw [hy,get_put_ne' _ _ _ _ hc,get_new_ne _ _ _ hc]
 have yp:y.h.get t3.n=some (.cells [.int .i64 a,.int .i64 c] (tag 44)):=by rw [hy];exact get_put_eq _ _ _ _ rfl (by omega)
 have dy:Die d y.h:=d3.keep (yg _ (by omega))
 generalize hc4:call _ _ _ (.fn 36) _ _=r4
 obtain ⟨q,t4,rfl,st4,d4⟩:=once_ex hc4 (by omega) dy (by omega) (by omega) (by omega)
 have n4:y.n≤t4.n:=st4.n
 have k4:t4.n≤y.n:=st4.le
 -- behind the choice
 have hch:∃ (z:St) (oa ob:Int),condK (.bool q) (kRegion K11r7 []) kSkip (call Try.prog X N) cx (((L.set 38 (.bool true)).set 16 (.ptr t3.n 0)).set 51 (.bool q)) [] t4=.done .norm (((L.set 38 (.bool true)).set 16 (.ptr t3.n 0)).set 51 (.bool q)) [] z∧z.n=t4.n∧(∀ c,c≠t3.n→z.h.get c=t4.h.get c)∧z.h.get t3.n=some (.cells [.int .i64 oa,.int .i64 ob] (tag 44)) ∧ -20≤oa∧oa≤ob∧ob≤20∧(d≤t4.m→d≤z.m)∧z.m≤t4.m:=by
  have p4:=(st4.same t3.n (by omega) (by omega)).trans yp
  cases q with
  | true =>
   refine ⟨t4.put t3.n (.cells [.int .i64 0,.int .i64 0] (tag 44)),0,0,?_,rfl,fun c hc=>get_put_ne' _ _ _ _ hc,get_put_eq _ _ _ _ rfl (by omega),by omega,by omega,by omega,fun h=>?_,?_⟩
   ·simp (disch:=first|omega|(with_unfolding_all exact rfl)|(simp only[new_n,put_n,new_m];omega)|(refine put_m_le ?_;simp only[new_m];omega)) only [K11r7,Abs.W,reduceIte,Nat.reduceEqDiff,Nat.reduceAdd,Nat.reduceSub,Env.find_set,p4]
   ·simp only [St.put,minN_eq];omega
   ·simp only [St.put,minN_eq];omega
  | false =>
   refine ⟨t4,a,c,?_,rfl,fun _ _=>rfl,p4,by omega,by omega,by omega,fun h=>h,Nat.le_refl _⟩
   simp (disch:=first|omega|(with_unfolding_all exact rfl)|(simp only[new_n,put_n,new_m];omega)|(refine put_m_le ?_;simp only[new_m];omega)) only [K11r7,Abs.W]
 obtain ⟨z,oa,ob,hch,zn,zg,zp,o0,o1,o2,zm,zml⟩:=hch
 simp only [K11r7] at hch
 simp (disch:=first|omega|(with_unfolding_all exact rfl)|(simp only[new_n,put_n,new_m];omega)|(refine put_m_le ?_;simp only[new_m];omega)) only [Abs.W,reduceIte,Nat.reduceEqDiff,Env.find_set]
 rw [hch]
 have hMz:Made z.h z.n d p13 p14 lo b offs errs rv xs bs vs:=by
  refine hM.keep ?_ (fun c hc hcd=>?_) (by omega)
  ·exact d4.keep (zg _ (by omega))
  ·rw [zg c (by omega),st4.same c (by omega) hcd,yg c (by omega),st3.same c (by omega) hcd,st2.same c (by simp only [new_n];omega) hcd,get_new_ne _ _ _ (by omega),st1.same c (by simp only [new_n];omega) hcd,get_new_ne _ _ _ (by omega)]
 obtain ⟨dz,z13,z14,lz,el,xl,er,xo,_⟩:=hMz
 have okm:=(lz.at_ 0).okA
 have oko:=(lz.at_ 4).okA
 simp (disch:=first|omega|(with_unfolding_all exact rfl)|(simp only[new_n,put_n,new_m];omega)|(refine put_m_le ?_;simp only[new_m];omega)) only [Abs.W,reduceIte,Nat.reduceEqDiff,Nat.reduceSub,Env.find_set,l0,l13,z13,okm,Nat.zero_add]
 have bsf:∀ j,bs j<s.n∨far<bs j:=hM.ls.far
 have bsl:∀ j,lo≤bs j:=hM.ls.lo
 obtain ⟨y2,hy2⟩:∃ y2:St,y2=z.new (.cells [.int .i64 5,.int .i64 500,.int .i64 1000] 0):=⟨_,rfl⟩
 rw [← hy2]
 have y2n:y2.n=z.n+1:=by rw [hy2];rfl
 have y2m:y2.m=z.m:=by rw [hy2];rfl
 have y2g:∀ c,c<z.n→y2.h.get c=z.h.get c:=fun c hc=>by rw [hy2,get_new_ne _ _ _ (by omega)]
 have y2p:y2.h.get z.n=some (.cells ([5,500,1000].map fun x=>AV.int .i64 x) 0):=by rw [hy2];exact get_new_eq _ _ _ rfl (by omega)
 generalize hc5:call _ _ _ (.fn 35) _ _=r5
 obtain ⟨nom,t5,rfl,st5,d5,m5⟩:=one_ex [5,500,1000] hc5 (by omega) (dz.keep (y2g d (by omega))) (by show d<y2.n;omega) (by show y2.n+200≤far;omega) y2p (by show z.n<y2.n;omega) (by omega) rfl (by omega) (by omega)
 have nomr:nom=5∨nom=500∨nom=1000:=by simpa using m5
 have n5:y2.n≤t5.n:=st5.n
 have k5:t5.n≤y2.n:=st5.le
 have g5:∀ c,c<z.n→c≠d→t5.h.get c=z.h.get c:=fun c hc hcd=>(st5.same c (by show c<y2.n;omega) hcd).trans (y2g c hc)
 have p5:=(g5 t3.n (by omega) (by omega)).trans zp
 simp (disch:=first|omega|(with_unfolding_all exact rfl)|(simp only[new_n,put_n,new_m];omega)|(refine put_m_le ?_;simp only[new_m];omega)) only [thenT_turn,Abs.W,reduceIte,Nat.reduceEqDiff,Nat.reduceAdd,Nat.reduceSub,Env.find_set,p5,Nat.zero_add]
 obtain ⟨y6,hy6⟩:∃ y6:St,y6=(⟨t5.h,t5.n,minN y2.m t5.m⟩:St).new (.cells [.int .i64 nom,.int .i64 oa,.int .i64 ob] 0):=⟨_,rfl⟩
 rw [← hy6]
 have y6n:y6.n=t5.n+1:=by rw [hy6];rfl
 have y6m:y6.m=min y2.m t5.m:=by rw [hy6];simp only [St.new,minN_eq]
 have y6g:∀ c,c<t5.n→y6.h.get c=t5.h.get c:=fun c hc=>by rw [hy6];exact get_new_ne _ _ _ (by show c≠t5.n;omega)
 have y6p:y6.h.get t5.n=some (.cells [.int .i64 nom,.int .i64 oa,.int .i64 ob] 0):=by rw [hy6];exact get_new_eq _ _ _ rfl (by show t5.n<_;omega)
 have l6:Lists y6.h y6.n lo benchW benchT (benchR b offs rv) bs vs:=lz.mono (fun j hj=>(y6g _ (by omega)).trans (g5 _ hj (by have:=bsl j;omega))) (by omega)
 obtain ⟨s7,v7,e7,l7,s7n,s7g,s7m,s7l⟩:=l6.push 0 (bytes:=24) y6p rfl rfl (by show ((b.ms.map Mass.cells).length+1) * 24≤1000000;rw [List.length_map];omega) (by kernel_rfl) (by omega) (by omega)
 have e7':appendA false 3 24 (tag 51) y6 (vs 0) (.slice t5.n 0 1 1 false)=.val v7 s7:=e7
 have n0:∀ c,c<lo→c≠bs 0:=fun c hc=>by have:=bsl 0;omega
 have g7:∀ c,c<z.n→c≠d→c≠bs 0→s7.h.get c=z.h.get c:=fun c h1 h2 h3=>(s7g c (by omega) h3).trans ((y6g c (by omega)).trans (g5 c h1 h2))
 have g714:=(g7 p14 (by omega) (by omega) (n0 _ (by omega))).trans z14
 have t3b:t3.n≠bs 0:=by have:=bsf 0;omega
 have g716:=(g7 t3.n (by omega) (by omega) t3b).trans zp
 simp (disch:=first|omega|(with_unfolding_all exact rfl)|(simp only[new_n,put_n,new_m];omega)|(refine put_m_le ?_;simp only[new_m];omega)) only [Abs.W,reduceIte,Nat.reduceEqDiff,Nat.reduceSub,Env.find_set,e7',l14,g714,oko,l0,g716,Nat.zero_add]
 generalize hc8:call _ _ _ (.fn 37) _ _=r8
 have d7:Die d s7.h:=d5.keep ((s7g d (by omega) (n0 _ (by omega))).trans (y6g d (by omega)))
 obtain ⟨x,t8,rfl,st8,d8,x0,x1'⟩:=true_ex hc8 (by omega) d7 (by show d<s7.n;omega) (by show s7.n+600≤far;omega) (by omega) (by omega) (by omega)
 have n8:s7.n≤t8.n:=st8.n
 have k8:t8.n≤s7.n+3:=st8.le
 have g8:∀ c,c<s7.n→c≠d→t8.h.get c=s7.h.get c:=fun c hc hcd=>st8.same c hc hcd
 simp (disch:=first|omega|(with_unfolding_all exact rfl)|(simp only[new_n,put_n,new_m];omega)|(refine put_m_le ?_;simp only[new_m];omega)) only [thenT_turn,Abs.W,reduceIte,Nat.reduceEqDiff,Nat.reduceSub,Env.find_set]
 obtain ⟨y9,hy9⟩:∃ y9:St,y9=(⟨t8.h,t8.n,minN s7.m t8.m⟩:St).new (.cells [.int .i64 x] 0):=⟨_,rfl⟩
 rw [← hy9]
 have y9n:y9.n=t8.n+1:=by rw [hy9];rfl
 have y9m:y9.m=min s7.m t8.m:=by rw [hy9];simp only [St.new,minN_eq]
 have y9g:∀ c,c<t8.n→y9.h.get c=t8.h.get c:=fun c hc=>by rw [hy9];exact get_new_ne _ _ _ (by show c≠t8.n;omega)
 have y9p:y9.h.get t8.n=some (.cells [.int .i64 x] 0):=by rw [hy9];exact get_new_eq _ _ _ rfl (by show t8.n<_;omega)
 have l9:=l7.mono (h':=y9.h) (n':=y9.n) (fun j hj=>(y9g _ (by omega)).trans (g8 _ hj (by have:=l7.lo j;omega))) (by omega)
 obtain ⟨s10,v10,e10,l10,s10n,s10g,s10m,s10l⟩:=l9.push 4 (bytes:=8) y9p rfl rfl (by rw [upd_ne _ _ _ (by omega)];show ((intRows offs).length+1) * 8≤1000000;rw [intRows_len];omega) (by kernel_rfl) (by omega) (by omega)
 rw [upd_ne _ _ _ (by omega)] at e10
 have e10':appendA false 1 8 (tag 3) y9 (vs 4) (.slice t8.n 0 1 1 false)=.val v10 s10:=e10
 have hb4:upd bs 0 y6.n 4=bs 4:=upd_ne _ _ _ (by omega)
 rw [hb4] at s10g
 have n4':∀ c,c<lo→c≠bs 4:=fun c hc=>by have:=bsl 4;omega
 have g10:∀ c,c<z.n→c≠d→c≠bs 0→c≠bs 4→s10.h.get c=z.h.get c:=fun c h1 h2 h3 h4=>(s10g c (by omega) h4).trans ((y9g c (by omega)).trans ((g8 c (by omega) h2).trans (g7 c h1 h2 h3)))
 have q13:=(g10 p13 (by omega) (by omega) (n0 _ (by omega)) (n4' _ (by omega))).trans z13
 have q14:=(g10 p14 (by omega) (by omega) (n0 _ (by omega)) (n4' _ (by omega))).trans z14
 have sc7:=(l10.at_ 0).scal
 rw [upd_ne _ _ _ (by omega),upd_at] at sc7
 have sc10:=(l10.at_ 4).scal
 rw [upd_at] at sc10
 obtain ⟨sc71,sc72⟩:=sc7
 obtain ⟨sc101,sc102⟩:=sc10
 have asb:∀ s,aSub s .i64 (i:Int) 1=.val (.int .i64 ((i:Int) - 1)) s:=fun s=>aSub_i64 s _ _ (by omega)
 simp (disch:=first|omega|(with_unfolding_all exact rfl)|(simp only[new_n,put_n,new_m];omega)|(refine put_m_le ?_;simp only[new_m];omega)) only [Abs.W,reduceIte,Nat.reduceEqDiff,Nat.reduceSub,Env.find_set,e10',l13,l14,q13,q14,sc71,sc72,sc101,sc102,Nat.zero_add]
 rw [endT_kept (l:=[62]) (s':=t8) (by simp only [keptAll_cons,keptAll_nil,find_cons,keptV_ptr,g714,g8 p14 (by omega) (by omega),sameO_cells,reduceIte,Nat.reduceEqDiff,Bool.and_self])]
 rw [endT_kept (l:=[53,16,62,16]) (s':=t5) (by simp only [keptAll_cons,keptAll_nil,find_cons,Env.find_set,keptV_ptr,y2g p13 (by omega),y2g p14 (by omega),y2g t3.n (by omega),g5 p13 (by omega) (by omega),g5 p14 (by omega) (by omega),g5 t3.n (by omega) (by omega),z13,z14,zp,sameO_cells,reduceIte,Nat.reduceEqDiff,Bool.and_self])]
 rw [endO_ok _ (by
  rw [endOk_cons,endOk_cons,endOk_nil]
  all_goals
   simp only [find_cons,Env.find_set,reduceIte,Nat.reduceEqDiff]
   first
    | exact (lz.at_ 0).apart (fun e=>n0 p14 (by omega) e.symm)
    | exact (lz.at_ 0).apart (fun e=>t3b e.symm))]
 simp (disch:=first|omega|(with_unfolding_all exact rfl)|(simp only[new_n,put_n,new_m];omega)|(refine put_m_le ?_;simp only[new_m];omega)) only [Abs.W,reduceIte,Nat.reduceEqDiff,Env.find_set,l15,asb]
 generalize hsf:St.put (St.put s10 _ _) _ _=sf
 have sfn:sf.n=s10.n:=by rw [← hsf];rfl
 have sfm:sf.m=min (min s10.m p13) p14:=by rw [← hsf];simp only [St.put,minN_eq]
 have sfg:∀ c,c≠p13→c≠p14→sf.h.get c=s10.h.get c:=fun c h1 h2=>by rw [← hsf,get_put_ne' _ _ _ _ h2,get_put_ne' _ _ _ _ h1]
 have sf13:sf.h.get p13=some (.cells [v7,vs 1,vs 2,vs 3,.int .i64 b.days] (tag 28)):=by rw [← hsf,get_put_ne' _ _ _ _ (by omega)];exact get_put_eq _ _ _ _ rfl (by omega)
 have sf14:sf.h.get p14=some (.cells [v10,vs 5] (tag 36)):=by rw [← hsf];exact get_put_eq _ _ _ _ rfl (by omega)
 have dsf:Die d sf.h:=d8.keep ((sfg d (by omega) (by omega)).trans ((s10g d (by omega) (n4' _ (by omega))).trans (y9g d (by omega))))
 have xlt:∀ j (h:j<xs.length),xs[j]<z.n:=fun j h=>(er j (by omega) (by omega) h).lt
 obtain ⟨M,hMd⟩:∃ M:Mass,M=⟨nom,oa,ob⟩:=⟨_,rfl⟩
 have hMc:M.cells=[.int .i64 nom,.int .i64 oa,.int .i64 ob]:=by rw [hMd];rfl
 have hfun:upd (upd (benchR b offs rv) 0 (benchR b offs rv 0++[[.int .i64 nom,.int .i64 oa,.int .i64 ob]])) 4 (upd (benchR b offs rv) 0 (benchR b offs rv 0++[[.int .i64 nom,.int .i64 oa,.int .i64 ob]]) 4++[[.int .i64 x]])=benchR { b with ms:=b.ms++[M] } (offs++[x]) rv:=by
  funext j
  match j with
  | 0 =>
   show b.ms.map Mass.cells++[_]=(b.ms++[M]).map Mass.cells
   rw [List.map_append,List.map_cons,List.map_nil,hMc]
  | 1=>rfl
  | 2=>rfl
  | 3=>rfl
  | 4 =>
   show intRows offs++[_]=intRows (offs++[x])
   rw [intRows_snoc]
  | 5=>rfl
  | n+6=>rfl
 rw [hfun] at l10
 refine ⟨_,sf,M,x,_,_,rfl,fun t ht=>?_,?_,?_,?_,⟨dsf,?_,?_,l10.mono (fun j hj=>sfg _ (by have:=l10.lo j;omega) (by have:=l10.lo j;omega)) (by omega),el,xl,fun j h1 h2 h3=>?_,fun c hc=>⟨(xo c hc).1,fun j=>?_⟩,⟨pd,pp,plo,by omega⟩⟩,⟨fun c h1 h2 h3 h4=>?_,by omega,by omega,fun h=>?_,?_⟩⟩
 ·rcases ht with rfl | rfl | rfl | rfl | rfl | rfl | rfl | rfl<;>simp only [Env.find_set,reduceIte,Nat.reduceEqDiff]
 ·simp only [Env.find_set,reduceIte,Nat.reduceEqDiff]
 ·rw [hMd];exact ⟨by simp only;omega,by simp only;omega,by simp only;omega,o1,by simp only;omega⟩
 ·rw [hMd];exact ⟨x0,x1',by omega,by omega⟩
 ·rw [upd_ne _ _ _ (by omega),upd_at,upd_ne _ _ _ (by omega),upd_ne _ _ _ (by omega),upd_ne _ _ _ (by omega),upd_ne _ _ _ (by omega),upd_ne _ _ _ (by omega),upd_ne _ _ _ (by omega)];exact sf13
 ·rw [upd_at,upd_ne _ _ _ (by omega),upd_ne _ _ _ (by omega)];exact sf14
 ·have w1:=er j h1 h2 h3
  have w3:=xo _ (List.getElem_mem h3)
  exact w1.mono ((sfg _ (by omega) (by omega)).trans (g10 _ w1.lt (by omega) (fun e=>w3.2 0 e.symm) (fun e=>w3.2 4 e.symm))) (by omega)
 ·obtain ⟨k,hk,rfl⟩:=List.getElem_of_mem hc
  have:=xlt k hk
  unfold upd
  split
  ·omega
  ·split
   ·omega
   ·exact (xo _ hc).2 j
 ·have b0:=n0 c h1
  have b4:=n4' c h1
  rw [sfg c h3 h4,g10 c (by omega) h2 b0 b4,zg c (by omega),st4.same c (by omega) h2,yg c (by omega),st3.same c (by omega) h2,st2.same c (by simp only [new_n];omega) h2,get_new_ne _ _ _ (by omega),st1.same c (by simp only [new_n];omega) h2,get_new_ne _ _ _ (by omega)]
 ·have a1:=st1.m (by rw [new_m];exact h)
  have a2:=st2.m (by rw [new_m];exact a1)
  have a3:=st3.m a2
  have a4:=st4.m (by omega)
  have a5:=zm a4
  have a6:=st5.m (by show d≤far;omega)
  have a7:=s7m d (by omega) (by omega)
  have a8:=st8.m (by show d≤far;omega)
  have a9:=s10m d (by omega) (by omega)
  omega
 ·have a1:t1.m≤s.m:=st1.mle
  have a2:t2.m≤t1.m:=st2.mle
  have a3:=st3.mle
  have a4:=st4.mle
  omega
end Go.Proofs.Ytkkdiibgjgnbhaa.walk
