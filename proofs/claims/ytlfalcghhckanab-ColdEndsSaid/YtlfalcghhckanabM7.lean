/- LotOf. -/
import Derived.Test.YtlfalcghhckanabM6
import Derived.Test.YtlfalcghhckanabM5
import Derived.Test.YtlfalcghhckanabCodes
import Derived.Test.YtlfalcghhckanabWalkAll
set_option linter.unusedSimpArgs false
set_option maxHeartbeats 16000000
set_option linter.unusedVariables false
set_option maxRecDepth 10000
namespace Go.Proofs.Ytlfalcghhckanab.walk
open Go.Abs Go.Proofs.Ytlfalcghhckanab.code
theorem lot_loop {N:Nat} {r:R} {L:Env} {s:St} {cx:Ctx} {d p4 p7 k:Nat} {hl hh born keeps:Int} {v1 v2 v3:AV} (M:Nat) (hr:loopN K6l0 rounds (call Try.prog X N) cx L [] s=r) (hN:4≤N) (hM:M≤8) (hd:Die d s.h) (hdp:d<p4) (hp4:p4<p7) (hpn:p7<s.n) (hs:s.n+2000≤far)
  (hk:k≤10) (len1:∀ s,lenSlA s v1=.val (.int .i64 k) s) (ok1:∀ t,okA (.val v1 t)=.val v1 t) (hb:0≤born∧born≤20)
  (g4:s.h.get p4=some (.cells [.int .i64 hl,.int .i64 hh,v1,v2,v3] (tag 31)))
  (g7:s.h.get p7=some (.cells [.int .i64 born,.int .i64 keeps,.nilslice] (tag 35))) (l0:L.find 0=.ptr d 0) (l4:L.find 4=.ptr p4 0) (l7:L.find 7=.ptr p7 0) (l8:L.find 8=.int .i64 born) (l9:L.find 9=.int .i64 (M:Int)) :
  ∃ (L1:Env) (s1:St) (ts:List Stay) (v:AV),r=.done (.exit 0) L1 [] s1∧(∀ t,t=0∨t=4∨t=6∨t=7→L1.find t=L.find t)∧ts.length≤M∧(∀ t ∈ ts,t.Ok k)∧(∀ i (h:i<ts.length),(⟨born,keeps,ts⟩:Lot).free i≤(ts[i]).fro)∧Die d s1.h ∧
   s1.h.get p7=some (.cells [.int .i64 born,.int .i64 keeps,v] (tag 35))∧Abs.Rows s1.h s.n s1.n 3 (tag 69) (ts.map Stay.cells) v∧Going d p7 s.n s s1 (20 * M):=by
 have hf:far=1000000000:=rfl
 obtain ⟨e,L1,s1,rfl,rfl,ts,v,h⟩:=loop_of hr
  (fun i L' t=>∃ (ts:List Stay) (v:AV),ts.length=i∧(∀ t ∈ ts,t.Ok k)∧(∀ i (h:i<ts.length),(⟨born,keeps,ts⟩:Lot).free i≤(ts[i]).fro)∧(0≤(⟨born,keeps,ts⟩:Lot).free ts.length∧(⟨born,keeps,ts⟩:Lot).free ts.length≤20+10 * i)∧(∀ q,q=0∨q=4∨q=6∨q=7→L'.find q=L.find q)∧L'.find 8=.int .i64 ((⟨born,keeps,ts⟩:Lot).free ts.length)∧L'.find 9=.int .i64 ((M:Int) - i)∧Die d t.h ∧
   t.h.get p7=some (.cells [.int .i64 born,.int .i64 keeps,v] (tag 35))∧Abs.Rows t.h s.n t.n 3 (tag 69) (ts.map Stay.cells) v∧Going d p7 s.n s t (20 * i))
  (fun e L1 s1=>e=.exit 0∧∃ (ts:List Stay) (v:AV),(∀ t,t=0∨t=4∨t=6∨t=7→L1.find t=L.find t)∧ts.length≤M∧(∀ t ∈ ts,t.Ok k)∧(∀ i (h:i<ts.length),(⟨born,keeps,ts⟩:Lot).free i≤(ts[i]).fro)∧Die d s1.h ∧
   s1.h.get p7=some (.cells [.int .i64 born,.int .i64 keeps,v] (tag 35))∧Abs.Rows s1.h s.n s1.n 3 (tag 69) (ts.map Stay.cells) v∧Going d p7 s.n s s1 (20 * M))
  M (by unfold rounds;omega)
  ⟨[],.nilslice,rfl,fun B hB=>(by cases hB),fun i h=>absurd h (Nat.not_lt_zero _),⟨hb.1,by show born≤20+10 * ((0:Nat):Int);omega⟩,fun _ _=>rfl,by rw [l8];rfl,by rw [l9];simp,hd,g7,Abs.Rows.nil _ _ _ _ _,Going.refl _ _ _ _⟩
  (fun i L' t hi ⟨ts,v,q1,q2,qo,qb,q3,q4,q4',q5,q6,q7,q8⟩=>by
   have tn:=q8.n
   have tl:=q8.le
   have l0':=(q3 0 (by simp)).trans l0
   have l4':=(q3 4 (by simp)).trans l4
   have l7':=(q3 7 (by simp)).trans l7
   have g4':=(q8.same p4 (by omega) (by omega) (by omega)).trans g4
   by_cases hlt:i<M∧0<k
   ·obtain ⟨L1,s1,T,v',p0,p1,p2,p3,p4',p5,p6,p7',p8,p9,p10⟩:=lot_round N hN cx d p4 p7 s.n (M - i) k hl hh born keeps ((⟨born,keeps,ts⟩:Lot).free ts.length) v1 v2 v3 v ts L' t (by omega) (by omega) q5 hdp hp4 hpn (by omega) (by omega) ⟨hlt.2,hk⟩ len1 ok1 g4' q6 q7 (by omega) ⟨qb.1,by omega⟩ l0' l4' l7' q4 (by rw [q4'];congr 1;omega)
    have hl:(⟨born,keeps,ts++[T]⟩:Lot).free (ts++[T]).length=T.to:=free_last born keeps ts T
    refine .inl ⟨hlt.1,L1,s1,p0,ts++[T],v',by rw [List.length_append,q1];rfl,fun f hf'=>?_,free_snoc qo p4'.1,by rw [hl];omega,fun q hq=>(p1 q hq).trans (q3 q hq),by rw [hl];exact p2,by rw [p3];congr 1;omega,p7',p8,p9,q8.trans p10 (Nat.le_refl _) (by omega)⟩
    rcases List.mem_append.mp hf' with h | h
    ·exact q2 f h
    ·rw [List.mem_singleton.mp h];exact ⟨p6.1,p6.2,by omega,p5.1,by omega⟩
   ·refine .inr ⟨.exit 0,L'.set 34 (.bool false),t,by simp,?_,rfl,ts,v,fun q hq=>?_,by omega,q2,qo,q5,q6,q7,q8.trans (Going.refl _ _ _ _) (Nat.le_refl _) (by omega)⟩
    ·by_cases hX0:i<M
     ·have e0:decide ((0:Int)<(M:Int) - i)=true:=by simp;omega
      have e1:decide ((0:Int)<(k:Int))=false:=by rw [show k=0 by omega];rfl
      simp (disch:=first|omega|(with_unfolding_all exact rfl)|(simp only[new_n,put_n,new_m];omega)|(refine put_m_le ?_;simp only[new_m];omega)) only [res6,K6r0,K6r1,K6r2,K6r3,K6r4s7,K6r4s6,K6r4s5,K6r4s4,K6r4,K6r5,K6r6,K6r7,K6r8,K6r9,K6l0,K6r10,K6,Abs.W,reduceIte,Nat.reduceEqDiff,Nat.reduceAdd,decide_true,decide_false,kLoop_def,Nat.reduceSub,List.cons_append,List.nil_append,List.append_nil,List.length_cons,List.length_nil,Env.find_set,l4',q4',g4',ok1,len1,e0,e1,Nat.zero_add]
     ·have e0:decide ((0:Int)<(M:Int) - i)=false:=by simp;omega
      simp (disch:=first|omega|(with_unfolding_all exact rfl)|(simp only[new_n,put_n,new_m];omega)|(refine put_m_le ?_;simp only[new_m];omega)) only [res6,K6r0,K6r1,K6r2,K6r3,K6r4s7,K6r4s6,K6r4s5,K6r4s4,K6r4,K6r5,K6r6,K6r7,K6r8,K6r9,K6l0,K6r10,K6,Abs.W,reduceIte,Nat.reduceEqDiff,Nat.reduceAdd,decide_true,decide_false,kLoop_def,Nat.reduceSub,List.cons_append,List.nil_append,List.append_nil,List.length_cons,List.length_nil,Env.find_set,l4',q4',g4',ok1,len1,e0,Nat.zero_add]
    ·rw [← q3 q hq]
     rcases hq with rfl | rfl | rfl | rfl<;>simp only [Env.find_set,reduceIte,Nat.reduceEqDiff])
 exact ⟨L1,s1,ts,v,rfl,h⟩
theorem LotOf_ex {N d k:Nat} {s:St} {r:ARes} {hl hh:Int} {v1 v2 v3:AV} (xs:Nat) (hr:call Try.prog X N (.fn 6) [.ptr d 0,.agg [.int .i64 hl,.int .i64 hh,v1,v2,v3],.int .i64 xs] s=r) (hN:6≤N) (hx:xs≤8) (hd:Die d s.h) (hdn:d<s.n) (hs:s.n+5000≤far)
  (hk:k≤10) (len1:∀ s,lenSlA s v1=.val (.int .i64 k) s) (ok1:∀ t,okA (.val v1 t)=.val v1 t) :
  ∃ (l:Lot) (v4:AV) (t:St),r=.val (.agg [.int .i64 l.born,.int .i64 l.keeps,v4]) t∧Stir d s t 1000∧Die d t.h∧l.Ok k∧l.born≤9∧Abs.Rows t.h (s.n+1) t.n 3 (tag 69) (l.stays.map Stay.cells) v4:=by
 obtain ⟨n,rfl⟩:∃ n,N=n+1:=⟨N - 1,by omega⟩
 have hff:far=1000000000:=rfl
 have hd0:=hd
 obtain ⟨v,t,m,e,⟨l,v4,rfl,hd',ok,b9,hC,fr,hn,hle,hdm,hmf⟩,hm⟩:=call_any (n:=n) (args:=[.ptr d 0,.agg [.int .i64 hl,.int .i64 hh,v1,v2,v3],.int .i64 xs]) (s:=s)
  (Q:=fun v h n m=>∃ (l:Lot) (v4:AV),v=.agg [.int .i64 l.born,.int .i64 l.keeps,v4]∧Die d h∧l.Ok k∧l.born≤9∧Abs.Rows h (s.n+1) n 3 (tag 69) (l.stays.map Stay.cells) v4∧(∀ c,c<s.n→c≠d→h.get c=s.h.get c)∧s.n≤n∧n≤s.n+1000∧d≤m∧m≤far) Try.func6 rfl (fun u uh un um=>by
  rw [← uh] at hd
  rw [← un,← uh]
  have sh:shapeT Try.prog 35=some (some 3):=by kernel_rfl
  rw [enter6]
  have nn1:∀ o,(u.new o).n=u.n+1:=fun _=>rfl
  simp (disch:=first|omega|(with_unfolding_all exact rfl)|(simp only[new_n,put_n,new_m];omega)|(refine put_m_le ?_;simp only[new_m];omega)) only [res6,K6r0,K6r1,K6r2,K6r3,K6r4s7,K6r4s6,K6r4s5,K6r4s4,K6r4,K6r5,K6r6,K6r7,K6r8,K6r9,K6r10,K6,Abs.W,reduceIte,Nat.reduceEqDiff,Nat.reduceAdd,decide_true,decide_false,kLoop_def,Nat.reduceSub,List.cons_append,List.nil_append,List.append_nil,List.length_cons,List.length_nil,nn1]
  obtain ⟨w,hw⟩:∃ w:St,w=(u.new (.cells [.int .i64 hl,.int .i64 hh,v1,v2,v3] (tag 31))).new (.cells [.int .i64 0,.int .i64 0,.nilslice] (tag 35)):=⟨_,rfl⟩
  rw [← hw]
  have wn:w.n=u.n+2:=by rw [hw];rfl
  have wm:w.m=far:=by rw [hw];exact um
  have wg:∀ c,c<u.n→w.h.get c=u.h.get c:=fun c hc=>by rw [hw,get_new_ne _ _ _ (by simp only [new_n];omega),get_new_ne _ _ _ (by omega)]
  have w0:w.h.get u.n=some (.cells [.int .i64 hl,.int .i64 hh,v1,v2,v3] (tag 31)):=by
   rw [hw,get_new_ne _ _ _ (by simp only [new_n];omega)];exact get_new_eq _ _ _ rfl (by omega)
  have w1:w.h.get (u.n+1)=some (.cells [.int .i64 0,.int .i64 0,.nilslice] (tag 35)):=by rw [hw];exact get_new_eq _ _ _ rfl (by simp only [new_n];omega)
  have dw:Die d w.h:=by obtain ⟨f,hg⟩:=hd;exact ⟨f,by rw [wg _ (by omega)];exact hg⟩
  generalize hc1:call _ _ _ (.fn 8) _ _=r1
  obtain ⟨x1,t1,rfl,st1,d1,x10,x11⟩:=cast_ex hc1 (by omega) dw (by omega) (by omega) (by omega)
  have n1:w.n≤t1.n:=st1.n
  have k1:t1.n≤w.n:=st1.le
  simp (disch:=first|omega|(with_unfolding_all exact rfl)|(simp only[new_n,put_n,new_m];omega)|(refine put_m_le ?_;simp only[new_m];omega)) only [res6,K6r0,K6r1,K6r2,K6r3,K6r4s7,K6r4s6,K6r4s5,K6r4s4,K6r4,K6r5,K6r6,K6r7,K6r8,K6r9,K6r10,K6,Abs.W,reduceIte,Nat.reduceEqDiff,Nat.reduceAdd,decide_true,decide_false,kLoop_def,Nat.reduceSub,List.cons_append,List.nil_append,List.append_nil,List.length_cons,List.length_nil,Env.find_set]
  generalize hc2:call _ _ _ (.fn 8) _ _=r2
  obtain ⟨x2,t2,rfl,st2,d2,x20,x21⟩:=cast_ex hc2 (by omega) d1 (by omega) (by omega) (by omega)
  have n2:t1.n≤t2.n:=st2.n
  have k2:t2.n≤t1.n:=st2.le
  simp (disch:=first|omega|(with_unfolding_all exact rfl)|(simp only[new_n,put_n,new_m];omega)|(refine put_m_le ?_;simp only[new_m];omega)) only [res6,K6r0,K6r1,K6r2,K6r3,K6r4s7,K6r4s6,K6r4s5,K6r4s4,K6r4,K6r5,K6r6,K6r7,K6r8,K6r9,K6r10,K6,Abs.W,reduceIte,Nat.reduceEqDiff,Nat.reduceAdd,decide_true,decide_false,kLoop_def,Nat.reduceSub,List.cons_append,List.nil_append,List.append_nil,List.length_cons,List.length_nil,Env.find_set]
  generalize hc3:call _ _ _ (.fn 8) _ _=r3
  obtain ⟨x3,t3,rfl,st3,d3,x30,x31⟩:=cast_ex hc3 (by omega) d2 (by omega) (by omega) (by omega)
  have n3:t2.n≤t3.n:=st3.n
  have k3:t3.n≤t2.n:=st3.le
  simp (disch:=first|omega|(with_unfolding_all exact rfl)|(simp only[new_n,put_n,new_m];omega)|(refine put_m_le ?_;simp only[new_m];omega)) only [res6,K6r0,K6r1,K6r2,K6r3,K6r4s7,K6r4s6,K6r4s5,K6r4s4,K6r4,K6r5,K6r6,K6r7,K6r8,K6r9,K6r10,K6,Abs.W,reduceIte,Nat.reduceEqDiff,Nat.reduceAdd,decide_true,decide_false,kLoop_def,Nat.reduceSub,List.cons_append,List.nil_append,List.append_nil,List.length_cons,List.length_nil,Env.find_set]
  generalize hc4:call _ _ _ (.fn 22) _ _=r4
  obtain ⟨x4,t4,rfl,st4,d4,m4⟩:=one_ex [0,x2,x3] hc4 (by omega) (d3.new (by omega) _) (by simp only [new_n];omega) (by simp only [new_n];omega) (get_new_eq _ _ _ rfl (by omega)) (by simp only [new_n];omega) (by omega) rfl (by omega) (by omega)
  have x4r:x4=0∨x4=x2∨x4=x3:=by simpa using m4
  have n4:t3.n+1≤t4.n:=st4.n
  have k4:t4.n≤t3.n+1:=st4.le
  have b4:∀ c,c<w.n→c≠d→t4.h.get c=w.h.get c:=fun c hc hcd=>by
   rw [st4.same c (by simp only [new_n];omega) hcd,get_new_ne _ _ _ (by omega),st3.same c (by omega) hcd,st2.same c (by omega) hcd,st1.same c hc hcd]
  simp (disch:=first|omega|(with_unfolding_all exact rfl)|(simp only[new_n,put_n,new_m];omega)|(refine put_m_le ?_;simp only[new_m];omega)) only [res6,K6r0,K6r1,K6r2,K6r3,K6r4s7,K6r4s6,K6r4s5,K6r4s4,K6r4,K6r5,K6r6,K6r7,K6r8,K6r9,K6r10,K6,Abs.W,reduceIte,Nat.reduceEqDiff,Nat.reduceAdd,decide_true,decide_false,kLoop_def,Nat.reduceSub,List.cons_append,List.nil_append,List.append_nil,List.length_cons,List.length_nil,Env.find_set]
  obtain ⟨y,hy⟩:∃ y:St,y=(t4.new (.cells [.int .i64 0,.int .i64 0,.nilslice] (tag 35))).put t4.n (.cells [.int .i64 x1,.int .i64 x4,.nilslice] (tag 35)):=⟨_,rfl⟩
  rw [← hy]
  have yn:y.n=t4.n+1:=by rw [hy];rfl
  have ym:y.m=min t4.m t4.n:=by rw [hy];simp only [St.put,minN_eq,new_m]
  have yg:∀ c,c≠t4.n→y.h.get c=t4.h.get c:=fun c hc=>by rw [hy,get_put_ne' _ _ _ _ hc,get_new_ne _ _ _ hc]
  have yp:y.h.get t4.n=some (.cells [.int .i64 x1,.int .i64 x4,.nilslice] (tag 35)):=by rw [hy];exact get_put_eq _ _ _ _ rfl (by omega)
  have dy:Die d y.h:=by obtain ⟨f,hg⟩:=d4;exact ⟨f,by rw [yg _ (by omega)];exact hg⟩
  have a5:∀ s,aAdd s .i64 (xs:Int) 1=.val (.int .i64 ((xs:Int)+1)) s:=fun s=>aAdd_i64 s _ _ (by omega)
  simp (disch:=first|omega|(with_unfolding_all exact rfl)|(simp only[new_n,put_n,new_m];omega)|(refine put_m_le ?_;simp only[new_m];omega)) only [res6,K6r0,K6r1,K6r2,K6r3,K6r4s7,K6r4s6,K6r4s5,K6r4s4,K6r4,K6r5,K6r6,K6r7,K6r8,K6r9,K6r10,K6,Abs.W,reduceIte,Nat.reduceEqDiff,Nat.reduceAdd,decide_true,decide_false,kLoop_def,Nat.reduceSub,List.cons_append,List.nil_append,List.append_nil,List.length_cons,List.length_nil,Env.find_set,yp,a5,Nat.zero_add,Nat.reduceAdd]
  generalize hc5:call _ _ _ (.fn 8) _ _=r5
  obtain ⟨x5,t5,rfl,st5,d5,x50,x51⟩:=cast_ex hc5 (by omega) dy (by omega) (by omega) (by omega)
  have n5:y.n≤t5.n:=st5.n
  have k5:t5.n≤y.n:=st5.le
  obtain ⟨M,hM⟩:∃ M:Nat,x5=(M:Int):=⟨x5.toNat,by omega⟩
  subst hM
  have p5:=(st5.same t4.n (by omega) (by omega)).trans yp
  have q5:t5.h.get u.n=some (.cells [.int .i64 hl,.int .i64 hh,v1,v2,v3] (tag 31)):=by
   rw [st5.same u.n (by omega) (by omega),yg u.n (by omega),b4 u.n (by omega) (by omega)];exact w0
  simp (disch:=first|omega|(with_unfolding_all exact rfl)|(simp only[new_n,put_n,new_m];omega)|(refine put_m_le ?_;simp only[new_m];omega)) only [res6,K6r0,K6r1,K6r2,K6r3,K6r4s7,K6r4s6,K6r4s5,K6r4s4,K6r4,K6r5,K6r6,K6r7,K6r8,K6r9,K6r10,K6,Abs.W,reduceIte,Nat.reduceEqDiff,Nat.reduceAdd,decide_true,decide_false,kLoop_def,Nat.reduceSub,List.cons_append,List.nil_append,List.append_nil,List.length_cons,List.length_nil,Env.find_set]
  generalize hl1:loopN K6l0 rounds _ _ _ _ _=q1
  obtain ⟨L6,t6,ts,v4,rfl,s6,tsl,tsok,tso,d6,p6,rt6,go6⟩:=lot_loop (k:=k) M hl1 (by omega) (by omega) d5 (show d<u.n by omega) (show u.n<t4.n by omega) (by omega) (by omega) hk len1 ok1 ⟨x10,by omega⟩ q5 p5 (by simp only [find_cons,Env.find_set,reduceIte,Nat.reduceEqDiff]) (by simp only [find_cons,Env.find_set,reduceIte,Nat.reduceEqDiff]) (by simp only [find_cons,Env.find_set,reduceIte,Nat.reduceEqDiff]) (by simp only [find_cons,Env.find_set,reduceIte,Nat.reduceEqDiff]) (by simp only [find_cons,Env.find_set,reduceIte,Nat.reduceEqDiff])
  have n6:=go6.n
  have k6:=go6.le
  have l66:L6.find 6=.ptr (u.n+1) 0:=(s6 6 (by simp)).trans (by simp only [find_cons,Env.find_set,reduceIte,Nat.reduceEqDiff])
  have l67:L6.find 7=.ptr t4.n 0:=(s6 7 (by simp)).trans (by simp only [find_cons,Env.find_set,reduceIte,Nat.reduceEqDiff])
  clear s6
  have back:∀ c,c<w.n→c≠d→t6.h.get c=w.h.get c:=fun c hc hcd=>by
   rw [go6.same c (by omega) hcd (by omega),st5.same c (by omega) hcd,yg c (by omega),b4 c hc hcd]
  have p61:=(back (u.n+1) (by omega) (by omega)).trans w1
  obtain ⟨ok4,c4,sc4⟩:=rt6.scalar
  simp (disch:=first|omega|(with_unfolding_all exact rfl)|(simp only[new_n,put_n,new_m];omega)|(refine put_m_le ?_;simp only[new_m];omega)) only [res6,K6r0,K6r1,K6r2,K6r3,K6r4s7,K6r4s6,K6r4s5,K6r4s4,K6r4,K6r5,K6r6,K6r7,K6r8,K6r9,K6r10,K6,Abs.W,reduceIte,Nat.reduceEqDiff,Nat.reduceAdd,decide_true,decide_false,kLoop_def,Nat.reduceSub,List.cons_append,List.nil_append,List.append_nil,List.length_cons,List.length_nil,Env.find_set,l66,l67,p6,p61,sc4,scal_nil,Nat.zero_add]
  have hmm:d≤min t6.m (u.n+1)∧min t6.m (u.n+1)≤far:=by
   have h1:=st1.m (by omega)
   have h2:=st2.m h1
   have h3:=st3.m h2
   have h4:=st4.m (by rw [new_m];exact h3)
   have h5:=st5.m (by omega)
   have h6:=go6.m h5
   omega
  refine ⟨.agg [.int .i64 x1,.int .i64 x4,v4],_,leave_cell _ _ _ _ sh ?_,⟨⟨x1,x4,ts⟩,v4,rfl,?_,?_,?_,?_,fun c hc hcd=>?_,?_,?_,?_⟩,fun hp _=>⟨⟨x1,x4,ts⟩,v4,rfl,hd,?_,?_,?_,fun c hc hcd=>trivial,Nat.le_refl _,by omega,?_⟩⟩
  ·rw [l66]
   simp (disch:=first|omega|(with_unfolding_all exact rfl)|(simp only[new_n,put_n,new_m];omega)|(refine put_m_le ?_;simp only[new_m];omega)) only [Abs.W,reduceIte,Nat.reduceEqDiff,Nat.reduceAdd,decide_true,decide_false,kLoop_def,Nat.reduceSub,List.cons_append,List.nil_append,List.append_nil,List.length_cons,List.length_nil,okA_agg]
  ·obtain ⟨f,hg⟩:=d6
   exact ⟨f,by rw [get_put_ne' _ _ _ _ (by omega)];exact hg⟩
  ·exact ⟨x10,by show x1≤239;omega,by show 0≤x4;omega,by show x4≤100000;omega,by show ts.length≤8;omega,tsok,tso⟩
  ·show x1≤9;omega
  ·exact rows_lower (rt6.mono (fun c hc hcn=>by rw [get_put_ne' _ _ _ _ (by omega)]) (by simp only [put_n];omega)) (by omega)
  ·rw [get_put_ne' _ _ _ _ (by omega),back c (by omega) hcd,wg c hc]
  ·simp only [put_n];omega
  ·simp only [put_n];omega
  ·simp only [St.put,minN_eq];exact hmm
  ·exact ⟨x10,by show x1≤239;omega,by show 0≤x4;omega,by show x4≤100000;omega,by show ts.length≤8;omega,tsok,tso⟩
  ·show x1≤9;omega
  ·rcases rt6.is with ⟨h1,h2⟩ | ⟨b,_,_,h2,_⟩
   ·rw [List.map_eq_nil_iff] at h1;subst h1;subst h2;exact Abs.Rows.nil _ _ _ _ _
   ·subst h2;cases (show false=true from hp)
  ·simp only [St.put,minN_eq];exact hmm)
 refine ⟨l,v4,t,hr.symm.trans e,⟨fr,hn,hle,fun h=>?_,?_⟩,hd',ok,b9,hC⟩
 ·rcases hm with ⟨_,h1⟩ | ⟨_,h1⟩<;>omega
 ·rcases hm with ⟨_,h1⟩ | ⟨_,h1⟩<;>omega
end Go.Proofs.Ytlfalcghhckanab.walk
set_option maxRecDepth 10000
namespace Go.Abs
theorem endO_ok {M:Env} {l:List (Nat × Nat)} (s:St) (h:endOk M l=true):endO l (.ok M s)=.ok M s:=by
 show (match endOk M l with | true=>ORes.ok M s | false=>.fail)=_
 rw [h]
theorem endOk_nil (M:Env):endOk M []=true:=rfl
theorem endOk_cons {M:Env} {t u:Nat} {r:List (Nat × Nat)} (h:apartA (M.find t) (M.find u)=true):endOk M ((t,u)::r)=endOk M r:=by
 show (match apartA (M.find t) (M.find u) with | true=>endOk M r | false=>false)=_
 rw [h]
theorem apart_slice {b c o n k p:Nat} {e:Bool} (h:b≠c):apartA (.slice b o n k e) (.ptr c p)=true:=by
 unfold apartA
 simp [blockOf,nbeq_f h]
theorem Own.move {h h':Heap} {lo lo' n n' w tg:Nat} {rows:List (List AV)} {v:AV} (r:Own h lo n w tg rows v) (hh:∀ b,lo≤b→b<n→h'.get b=h.get b) (hl:lo'≤lo) (hn:n≤n'):Own h' lo' n' w tg rows v:=by
 refine ⟨r.wide,?_⟩
 rcases r.is with ⟨h1,h2 | ⟨b,h0,h3,h4,h5⟩⟩ | ⟨h1,b,h0,h3,h4,h5⟩
 ·exact .inl ⟨h1,.inl h2⟩
 ·exact .inl ⟨h1,.inr ⟨b,by omega,by omega,h4,by rw [hh b h0 h3];exact h5⟩⟩
 ·exact .inr ⟨h1,b,by omega,by omega,h4,by rw [hh b h0 h3];exact h5⟩
theorem Own.none {h h':Heap} {lo lo' n n' w tg:Nat} {rows:List (List AV)} {v:AV} (r:Own h lo n w tg rows v) (hp:plain v=true):Own h' lo' n' w tg rows v:=by
 rcases r.is with ⟨h1,h2 | ⟨b,_,_,h4,_⟩⟩ | ⟨_,b,_,_,h4,_⟩
 ·subst h1;subst h2;exact ⟨fun x hx=>(by cases hx),.inl ⟨rfl,.inl rfl⟩⟩
 ·subst h4;cases hp
 ·subst h4;cases hp
end Go.Abs
namespace Go.Proofs.Ytlfalcghhckanab.walk
open Go.Abs Go.Proofs.Ytlfalcghhckanab.code
end Go.Proofs.Ytlfalcghhckanab.walk
set_option maxRecDepth 10000
namespace Go.Abs
theorem nth_skip:∀ (a l:List AV) (k:Nat),nth (a++l) (a.length+k)=nth l k
 | [],l,k=>by rw [List.length_nil,Nat.zero_add,List.nil_append]
 | x::a,l,k=>by rw [List.length_cons,List.cons_append,show a.length+1+k=(a.length+k)+1 by omega,nth_cons,if_neg (by omega)];exact nth_skip a l k
theorem nth_front:∀ (R l:List AV) (k:Nat),k<R.length→nth (R++l) k=nth R k
 | [],l,k,h=>by simp at h
 | x::R,l,0,h=>rfl
 | x::R,l,k+1,h=>by rw [List.cons_append,nth_cons,nth_cons,if_neg (by omega),if_neg (by omega),Nat.add_sub_cancel];exact nth_front R l k (by simpa using h)
end Go.Abs
namespace Go.Proofs.Ytlfalcghhckanab.walk
open Go.Abs Go.Proofs.Ytlfalcghhckanab.code
end Go.Proofs.Ytlfalcghhckanab.walk
set_option maxRecDepth 10000
namespace Go.Abs
theorem cut_nth {p w:Nat} {c R:List AV} (h:cut p w c=some R) (k:Nat) (hk:k<R.length):nth c (p+k)=nth R k:=by
 obtain ⟨a,t,h1,h2,h3⟩:=cut_some h
 rw [h1,← h2,List.append_assoc,nth_skip,nth_front _ _ _ hk]
theorem cut_nth0 {p w:Nat} {c R:List AV} (h:cut p w c=some R) (hk:0<R.length):nth c p=nth R 0:=cut_nth h 0 hk
end Go.Abs
namespace Go.Proofs.Ytlfalcghhckanab.walk
open Go.Abs Go.Proofs.Ytlfalcghhckanab.code
theorem refIn_ok (N:Nat) (hN:1≤N) (n lo hi:Int) (s:St) (hs:s.n+10≤far):call Try.prog X N (.fn 50) [.int .i64 n,.int .i64 lo,.int .i64 hi] s=.val (.bool (decide (lo≤n) && decide (n≤hi))) s:=by
 obtain ⟨N,rfl⟩:∃ n,N=n+1:=⟨N - 1,by omega⟩
 refine call_plain' Try.func50 (fun u uh un um=>?_) rfl
 have hff:far=1000000000:=rfl
 rw [enter50]
 cases h0:decide (lo≤n) with
 | true =>
  simp (disch:=first|omega|(with_unfolding_all exact rfl)|(simp only[new_n,put_n,new_m];omega)|(refine put_m_le ?_;simp only[new_m];omega)) only [res50,K50r0,K50r1s7,K50r1s6,K50r1s5,K50r1,K50,Abs.W,reduceIte,Nat.reduceEqDiff,Nat.reduceAdd,decide_true,decide_false,kLoop_def,Nat.reduceSub,List.cons_append,List.nil_append,List.append_nil,List.length_cons,List.length_nil,h0,Bool.true_and]
  exact ⟨_,rfl,by omega⟩
 | false =>
  simp (disch:=first|omega|(with_unfolding_all exact rfl)|(simp only[new_n,put_n,new_m];omega)|(refine put_m_le ?_;simp only[new_m];omega)) only [res50,K50r0,K50r1s7,K50r1s6,K50r1s5,K50r1,K50,Abs.W,reduceIte,Nat.reduceEqDiff,Nat.reduceAdd,decide_true,decide_false,kLoop_def,Nat.reduceSub,List.cons_append,List.nil_append,List.append_nil,List.length_cons,List.length_nil,h0,Bool.false_and]
  exact ⟨_,rfl,by omega⟩
def inBox (ts:List Stay) (hour:Int):Int:=match ts.find? (hit hour) with
 | some t=>t.box
 | none => -1
theorem in_loop (N:Nat) (hN:1≤N) (cx:Ctx) (ts:List Stay) (v4 a0 a1:AV) (p2 z:Nat) (hour:Int) (s:St) (hs:s.n+100≤far) (hR:RowsAt s.h s.n 3 (ts.map Stay.cells) v4) (hb:∀ t ∈ ts,0≤t.to∧t.to≤1000) (g2:s.h.get p2=some (.cells [a0,a1,v4] z)) (hk:ts.length≤100) :
  ∀ (m i fuel:Nat) (L:Env),i+m=ts.length→m<fuel→L.find 1=.int .i64 hour→L.find 2=.ptr p2 0→L.find 5=.int .i64 i →
   ∃ e L',loopN K31l0 fuel (call Try.prog X N) cx L [] s=.done e L' [] s∧(match (ts.drop i).find? (hit hour) with
    | some t=>e=.ret∧L'.find 4=.int .i64 t.box
    | none=>e=.exit 0)
 | m,i,0,L,hm,hf,h1,h2,h5=>by omega
 | m,i,fuel+1,L,hm,hf,h1,h2,h5=>by
  have hff:far=1000000000:=rfl
  have hlen:=hR.len
  rw [List.length_map] at hlen
  have ok4:∀ t,okA (.val v4 t)=.val v4 t:=fun t=>okA_ne hR.ne
  by_cases hi:i<ts.length
  ·obtain ⟨m',rfl⟩:∃ m',m=m'+1:=⟨m - 1,by omega⟩
   obtain ⟨b,p,c,sz,hbn,hix,hg,hcut⟩:=hR.at_ i (by simpa using hi)
   rw [List.getElem_map] at hcut
   have hbt:=hb _ (List.getElem_mem hi)
   rw [List.drop_eq_getElem_cons hi,List.find?_cons]
   have e0:decide ((i:Int)<(ts.length:Int))=true:=by simp;omega
   have c0:nth c p=.int .i64 (ts[i]).box:=cut_nth0 hcut (show 0<3 from by omega)
   have c1:nth c (p+1)=.int .i64 (ts[i]).fro:=cut_nth hcut 1 (show 1<3 from by omega)
   have c2:nth c (p+2)=.int .i64 (ts[i]).to:=cut_nth hcut 2 (show 2<3 from by omega)
   have a1':∀ s,aSub s .i64 (ts[i]).to 1=.val (.int .i64 ((ts[i]).to - 1)) s:=fun s=>aSub_i64 s _ _ (by omega)
   have a2':∀ s,aAdd s .i64 (i:Int) 1=.val (.int .i64 ((i:Int)+1)) s:=fun s=>aAdd_i64 s _ _ (by omega)
   have hw:=refIn_ok N hN hour (ts[i]).fro ((ts[i]).to - 1) s (by omega)
   have hh:(decide ((ts[i]).fro≤hour) && decide (hour≤(ts[i]).to - 1))=hit hour ts[i]:=by
    unfold hit
    congr 1
    simp only [decide_eq_decide]
    omega
   rw [hh] at hw
   rw [loopN_succ]
   cases hb2:hit hour ts[i] with
   | true =>
    rw [hb2] at hw
    simp (disch:=first|omega|(with_unfolding_all exact rfl)|(simp only[new_n,put_n,new_m];omega)|(refine put_m_le ?_;simp only[new_m];omega)) only [res31,K31r0,K31r1,K31r2,K31r3,K31r4,K31r5,K31l0,K31r6,K31,Abs.W,reduceIte,Nat.reduceEqDiff,Nat.reduceAdd,decide_true,decide_false,kLoop_def,Nat.reduceSub,List.cons_append,List.nil_append,List.append_nil,List.length_cons,List.length_nil,Env.find_set,h1,h2,h5,g2,ok4,hlen,e0,hix,hg,c0,c1,c2,a1',hw,endO_nil,regD_ok,Nat.add_zero,Nat.zero_add]
    exact ⟨_,_,rfl,rfl,by simp only [Env.find_set,reduceIte]⟩
   | false =>
    rw [hb2] at hw
    obtain ⟨e,L2,r1,r2⟩:=in_loop N hN cx ts v4 a0 a1 p2 z hour s hs hR hb g2 hk m' (i+1) fuel (((L.set 10 (.bool true)).set 27 (.bool false)).set 5 (.int .i64 ((i:Int)+1))) (by omega) (by omega) (by simp only [Env.find_set,h1,reduceIte,Nat.reduceEqDiff]) (by simp only [Env.find_set,h2,reduceIte,Nat.reduceEqDiff]) (by simp only [Env.find_set,reduceIte];rfl)
    refine ⟨e,L2,?_,r2⟩
    rw [← r1]
    simp (disch:=first|omega|(with_unfolding_all exact rfl)|(simp only[new_n,put_n,new_m];omega)|(refine put_m_le ?_;simp only[new_m];omega)) only [res31,K31r0,K31r1,K31r2,K31r3,K31r4,K31r5,K31l0,K31r6,K31,Abs.W,reduceIte,Nat.reduceEqDiff,Nat.reduceAdd,decide_true,decide_false,kLoop_def,Nat.reduceSub,List.cons_append,List.nil_append,List.append_nil,List.length_cons,List.length_nil,Env.find_set,h1,h2,h5,g2,ok4,hlen,e0,hix,hg,c0,c1,c2,a1',a2',hw,endO_nil,regD_ok,Nat.add_zero,Nat.zero_add]
  ·have e0:decide ((i:Int)<(ts.length:Int))=false:=by simp;omega
   rw [List.drop_eq_nil_of_le (by omega),loopN_succ]
   simp (disch:=first|omega|(with_unfolding_all exact rfl)|(simp only[new_n,put_n,new_m];omega)|(refine put_m_le ?_;simp only[new_m];omega)) only [res31,K31r0,K31r1,K31r2,K31r3,K31r4,K31r5,K31l0,K31r6,K31,Abs.W,reduceIte,Nat.reduceEqDiff,Nat.reduceAdd,decide_true,decide_false,kLoop_def,Nat.reduceSub,List.cons_append,List.nil_append,List.append_nil,List.length_cons,List.length_nil,Env.find_set,h1,h2,h5,g2,ok4,hlen,e0,Nat.add_zero,Nat.zero_add]
   exact ⟨_,_,rfl,rfl⟩
theorem In_ok (N:Nat) (hN:2≤N) (ts:List Stay) (born keeps hour:Int) (v4:AV) (s:St) (hs:s.n+200≤far) (hR:RowsAt s.h s.n 3 (ts.map Stay.cells) v4) (hb:∀ t ∈ ts,0≤t.to∧t.to≤1000) (hk:ts.length≤100) :
  call Try.prog X N (.fn 31) [.agg [.int .i64 born,.int .i64 keeps,v4],.int .i64 hour] s=.val (.int .i64 (inBox ts hour)) s:=by
 obtain ⟨n,rfl⟩:∃ n,N=n+1:=⟨N - 1,by omega⟩
 refine call_plain' Try.func31 (fun u uh un um=>?_) rfl
 have hff:far=1000000000:=rfl
 rw [← uh,← un] at hR
 obtain ⟨w,hw⟩:∃ w:St,w=u.new (.cells [.int .i64 born,.int .i64 keeps,v4] (tag 35)):=⟨_,rfl⟩
 have wn:w.n=u.n+1:=by rw [hw];rfl
 have wm:w.m=far:=by rw [hw];exact um
 have wg:∀ c,c<u.n→w.h.get c=u.h.get c:=fun c hc=>by rw [hw,get_new_ne _ _ _ (by omega)]
 have w0:w.h.get u.n=some (.cells [.int .i64 born,.int .i64 keeps,v4] (tag 35)):=by rw [hw];exact get_new_eq _ _ _ rfl (by omega)
 rw [enter31]
 simp (disch:=first|omega|(with_unfolding_all exact rfl)|(simp only[new_n,put_n,new_m];omega)|(refine put_m_le ?_;simp only[new_m];omega)) only [res31,K31r0,K31r1,K31r2,K31r3,K31r4,K31r5,K31r6,K31,Abs.W,reduceIte,Nat.reduceEqDiff,Nat.reduceAdd,decide_true,decide_false,kLoop_def,Nat.reduceSub,List.cons_append,List.nil_append,List.append_nil,List.length_cons,List.length_nil]
 rw [← hw]
 generalize hLe:Env.cons 0 _ _=L0
 obtain ⟨e,L',h1,h2⟩:=in_loop n (by omega) ⟨31,none,Try.f31.ntmps,X 31⟩ ts v4 (.int .i64 born) (.int .i64 keeps) u.n _ hour w (by omega) (hR.grow wg (by omega)) hb w0 hk ts.length 0 rounds L0 (by omega) (by unfold rounds;omega) (by rw [← hLe];simp only [find_cons,reduceIte,Nat.reduceEqDiff]) (by rw [← hLe];simp only [find_cons,reduceIte,Nat.reduceEqDiff]) (by rw [← hLe];simp only [find_cons,reduceIte,Nat.reduceEqDiff];rfl)
 rw [List.drop_zero] at h2
 unfold inBox
 cases hf:ts.find? (hit hour) with
 | some t =>
  rw [hf] at h2
  obtain ⟨rfl,h4⟩:=h2
  simp (disch:=first|omega|(with_unfolding_all exact rfl)|(simp only[new_n,put_n,new_m];omega)|(refine put_m_le ?_;simp only[new_m];omega)) only [res31,K31r0,K31r1,K31r2,K31r3,K31r4,K31r5,K31r6,K31,Abs.W,reduceIte,Nat.reduceEqDiff,Nat.reduceAdd,decide_true,decide_false,kLoop_def,Nat.reduceSub,List.cons_append,List.nil_append,List.append_nil,List.length_cons,List.length_nil,h1,h4]
  exact ⟨_,rfl,by omega⟩
 | none =>
  rw [hf] at h2
  obtain rfl:=h2
  simp (disch:=first|omega|(with_unfolding_all exact rfl)|(simp only[new_n,put_n,new_m];omega)|(refine put_m_le ?_;simp only[new_m];omega)) only [res31,K31r0,K31r1,K31r2,K31r3,K31r4,K31r5,K31r6,K31,Abs.W,reduceIte,Nat.reduceEqDiff,Nat.reduceAdd,decide_true,decide_false,kLoop_def,Nat.reduceSub,List.cons_append,List.nil_append,List.append_nil,List.length_cons,List.length_nil,h1,Env.find_set]
  exact ⟨_,rfl,by omega⟩
/-! ### Losses -/
def lossAll (t:Int):Int→List Rate→Int
 | cur,[]=>cur
 | cur,r::rs=>lossAll t (if r.above≤t then r.loss else cur) rs
theorem lossAll_eq (rs:List Rate) (ro:∀ i (h:i<rs.length),(rateBefore rs i).above<(rs[i]).above∧(rateBefore rs i).loss≤(rs[i]).loss) (t:Int) :
  ∀ (m j:Nat) (cur:Int),j+m=rs.length→lossAll t cur (rs.drop j)=lossFrom t cur (rs.drop j)∧((t<(rateBefore rs j).above)→lossAll t cur (rs.drop j)=cur)
 | 0,j,cur,hm=>by
  rw [List.drop_of_length_le (by omega)]
  exact ⟨rfl,fun _=>rfl⟩
 | m+1,j,cur,hm=>by
  have hj:j<rs.length:=by omega
  have hb:rateBefore rs (j+1)=rs[j]:=by simp only [rateBefore,List.getElem?_eq_getElem hj]
  have r1:=(ro j hj).1
  rw [List.drop_eq_getElem_cons hj]
  unfold lossAll lossFrom
  by_cases e:t<(rs[j]).above
  ·rw [if_pos e,if_neg (by omega)]
   have ih:=(lossAll_eq rs ro t m (j+1) cur (by omega)).2 (by rw [hb];exact e)
   exact ⟨ih,fun _=>ih⟩
  ·rw [if_neg e,if_pos (by omega)]
   have ih:=lossAll_eq rs ro t m (j+1) (rs[j]).loss (by omega)
   exact ⟨ih.1,fun h=>absurd h (by omega)⟩
theorem lossR_loop (N:Nat) (cx:Ctx) (rs:List Rate) (a0 a1 v1 v2 v3:AV) (p2 z:Nat) (t:Int) (s:St) (hR:RowsAt s.h s.n 2 (rs.map Rate.cells) v3) (g2:s.h.get p2=some (.cells [a0,a1,v1,v2,v3] z)) (hk:rs.length≤100) :
  ∀ (m i fuel:Nat) (cur:Int) (L:Env),i+m=rs.length→m<fuel→L.find 1=.int .i64 t→L.find 2=.ptr p2 0→L.find 6=.int .i64 i→L.find 5=.int .i64 cur →
   ∃ L',loopN K32l0 fuel (call Try.prog X N) cx L [] s=.done (.exit 0) L' [] s∧L'.find 5=.int .i64 (lossAll t cur (rs.drop i))
 | m,i,0,cur,L,hm,hf,h1,h2,h6,h5=>by omega
 | m,i,fuel+1,cur,L,hm,hf,h1,h2,h6,h5=>by
  have hlen:=hR.len
  rw [List.length_map] at hlen
  have ok3:∀ t,okA (.val v3 t)=.val v3 t:=fun t=>okA_ne hR.ne
  by_cases hi:i<rs.length
  ·obtain ⟨m',rfl⟩:∃ m',m=m'+1:=⟨m - 1,by omega⟩
   obtain ⟨b,p,c,sz,hbn,hix,hg,hcut⟩:=hR.at_ i (by simpa using hi)
   rw [List.getElem_map] at hcut
   rw [List.drop_eq_getElem_cons hi]
   unfold lossAll
   have e0:decide ((i:Int)<(rs.length:Int))=true:=by simp;omega
   have c0:nth c p=.int .i64 (rs[i]).above:=cut_nth0 hcut (show 0<2 from by omega)
   have c1:nth c (p+1)=.int .i64 (rs[i]).loss:=cut_nth hcut 1 (show 1<2 from by omega)
   have a2':∀ s,aAdd s .i64 (i:Int) 1=.val (.int .i64 ((i:Int)+1)) s:=fun s=>aAdd_i64 s _ _ (by omega)
   rw [loopN_succ]
   by_cases e1:(rs[i]).above≤t
   ·rw [if_pos e1]
    have e1':decide ((rs[i]).above≤t)=true:=decide_eq_true e1
    simp (disch:=first|omega|(with_unfolding_all exact rfl)|(simp only[new_n,put_n,new_m];omega)|(refine put_m_le ?_;simp only[new_m];omega)) only [res32,K32r0,K32r1,K32r2,K32r3,K32r4,K32r5,K32r6,K32l0,K32r7,K32,Abs.W,reduceIte,Nat.reduceEqDiff,Nat.reduceAdd,decide_true,decide_false,kLoop_def,Nat.reduceSub,List.cons_append,List.nil_append,List.append_nil,List.length_cons,List.length_nil,Env.find_set,h1,h2,h5,h6,g2,ok3,hlen,e0,hix,hg,c0,c1,e1',a2',Nat.add_zero,Nat.zero_add]
    exact lossR_loop N cx rs a0 a1 v1 v2 v3 p2 z t s hR g2 hk m' (i+1) fuel _ _ (by omega) (by omega) (by simp only [Env.find_set,h1,reduceIte,Nat.reduceEqDiff]) (by simp only [Env.find_set,h2,reduceIte,Nat.reduceEqDiff]) (by simp only [Env.find_set,reduceIte];rfl) (by simp only [Env.find_set,reduceIte,Nat.reduceEqDiff])
   ·rw [if_neg e1]
    have e1':decide ((rs[i]).above≤t)=false:=decide_eq_false e1
    simp (disch:=first|omega|(with_unfolding_all exact rfl)|(simp only[new_n,put_n,new_m];omega)|(refine put_m_le ?_;simp only[new_m];omega)) only [res32,K32r0,K32r1,K32r2,K32r3,K32r4,K32r5,K32r6,K32l0,K32r7,K32,Abs.W,reduceIte,Nat.reduceEqDiff,Nat.reduceAdd,decide_true,decide_false,kLoop_def,Nat.reduceSub,List.cons_append,List.nil_append,List.append_nil,List.length_cons,List.length_nil,Env.find_set,h1,h2,h5,h6,g2,ok3,hlen,e0,hix,hg,c0,c1,e1',a2',Nat.add_zero,Nat.zero_add]
    exact lossR_loop N cx rs a0 a1 v1 v2 v3 p2 z t s hR g2 hk m' (i+1) fuel _ _ (by omega) (by omega) (by simp only [Env.find_set,h1,reduceIte,Nat.reduceEqDiff]) (by simp only [Env.find_set,h2,reduceIte,Nat.reduceEqDiff]) (by simp only [Env.find_set,reduceIte];rfl) (by simp only [Env.find_set,h5,reduceIte,Nat.reduceEqDiff])
  ·have e0:decide ((i:Int)<(rs.length:Int))=false:=by simp;omega
   rw [List.drop_eq_nil_of_le (by omega),loopN_succ]
   simp (disch:=first|omega|(with_unfolding_all exact rfl)|(simp only[new_n,put_n,new_m];omega)|(refine put_m_le ?_;simp only[new_m];omega)) only [res32,K32r0,K32r1,K32r2,K32r3,K32r4,K32r5,K32r6,K32l0,K32r7,K32,Abs.W,reduceIte,Nat.reduceEqDiff,Nat.reduceAdd,decide_true,decide_false,kLoop_def,Nat.reduceSub,List.cons_append,List.nil_append,List.append_nil,List.length_cons,List.length_nil,Env.find_set,h1,h2,h5,h6,g2,ok3,hlen,e0,Nat.add_zero,Nat.zero_add]
   exact ⟨_,rfl,by simp only [Env.find_set,h5,reduceIte,Nat.reduceEqDiff];rfl⟩
theorem LossR_ok (N:Nat) (hN:1≤N) (c:Cellar) (ok:c.Ok) (v1 v2 v3:AV) (t:Int) (s:St) (hR:RowsAt s.h s.n 2 (c.rates.map Rate.cells) v3) (hs:s.n+100≤far) :
  call Try.prog X N (.fn 32) [.agg [.int .i64 c.hl,.int .i64 c.hh,v1,v2,v3],.int .i64 t] s=.val (.int .i64 (lossFrom t 0 c.rates)) s:=by
 obtain ⟨n,rfl⟩:∃ n,N=n+1:=⟨N - 1,by omega⟩
 refine call_plain' Try.func32 (fun u uh un um=>?_) rfl
 have hff:far=1000000000:=rfl
 rw [← uh,← un] at hR
 obtain ⟨w,hw⟩:∃ w:St,w=u.new (.cells [.int .i64 c.hl,.int .i64 c.hh,v1,v2,v3] (tag 31)):=⟨_,rfl⟩
 have wn:w.n=u.n+1:=by rw [hw];rfl
 have wm:w.m=far:=by rw [hw];exact um
 have wg:∀ c,c<u.n→w.h.get c=u.h.get c:=fun c hc=>by rw [hw,get_new_ne _ _ _ (by omega)]
 have w0:w.h.get u.n=some (.cells [.int .i64 c.hl,.int .i64 c.hh,v1,v2,v3] (tag 31)):=by rw [hw];exact get_new_eq _ _ _ rfl (by omega)
 have hle:=(lossAll_eq c.rates ok.ro t c.rates.length 0 0 (by omega)).1
 rw [List.drop_zero] at hle
 rw [enter32]
 simp (disch:=first|omega|(with_unfolding_all exact rfl)|(simp only[new_n,put_n,new_m];omega)|(refine put_m_le ?_;simp only[new_m];omega)) only [res32,K32r0,K32r1,K32r2,K32r3,K32r4,K32r5,K32r6,K32r7,K32,Abs.W,reduceIte,Nat.reduceEqDiff,Nat.reduceAdd,decide_true,decide_false,kLoop_def,Nat.reduceSub,List.cons_append,List.nil_append,List.append_nil,List.length_cons,List.length_nil]
 rw [← hw]
 generalize hLe:Env.cons 0 _ _=L0
 obtain ⟨L',h1,h2⟩:=lossR_loop n ⟨32,none,Try.f32.ntmps,X 32⟩ c.rates (.int .i64 c.hl) (.int .i64 c.hh) v1 v2 v3 u.n _ t w (hR.grow wg (by omega)) w0 (by have:=ok.r;omega) c.rates.length 0 rounds 0 L0 (by omega) (by unfold rounds;have:=ok.r;omega) (by rw [← hLe];simp only [find_cons,reduceIte,Nat.reduceEqDiff]) (by rw [← hLe];simp only [find_cons,reduceIte,Nat.reduceEqDiff]) (by rw [← hLe];simp only [find_cons,reduceIte,Nat.reduceEqDiff];rfl) (by rw [← hLe];simp only [find_cons,reduceIte,Nat.reduceEqDiff])
 rw [List.drop_zero,hle] at h2
 simp (disch:=first|omega|(with_unfolding_all exact rfl)|(simp only[new_n,put_n,new_m];omega)|(refine put_m_le ?_;simp only[new_m];omega)) only [res32,K32r0,K32r1,K32r2,K32r3,K32r4,K32r5,K32r6,K32r7,K32,Abs.W,reduceIte,Nat.reduceEqDiff,Nat.reduceAdd,decide_true,decide_false,kLoop_def,Nat.reduceSub,List.cons_append,List.nil_append,List.append_nil,List.length_cons,List.length_nil,Env.find_set,h1,h2]
 exact ⟨_,rfl,by omega⟩
end Go.Proofs.Ytlfalcghhckanab.walk
set_option maxRecDepth 10000
namespace Go.Proofs.Ytlfalcghhckanab.walk
open Go.Abs
theorem Cellar.box_eq (c:Cellar) {b:Nat} (h:b<c.boxes.length):c.box b=c.boxes[b]:=by unfold Cellar.box;rw [List.getD_eq_getElem?_getD,List.getElem?_eq_getElem h];rfl
end Go.Proofs.Ytlfalcghhckanab.walk
set_option maxRecDepth 10000
namespace Go.Proofs.Ytlfalcghhckanab.walk
open Go.Abs Go.Proofs.Ytlfalcghhckanab.code
def pour (room box h:Int):Int→List Fill→Int
 | i,[]=>i
 | i,f::fs=>pour room box h (if f.box=box∧f.hour=h then min room (i+f.grams) else i) fs
theorem pour_range {room box h:Int} (hr:0≤room∧room≤1000000):∀ (fs:List Fill) (i:Int),(∀ f ∈ fs,0≤f.grams)→0≤i∧i≤1000000→0≤pour room box h i fs∧pour room box h i fs≤1000000
 | [],i,_,hi=>hi
 | f::fs,i,hf,hi=>by
  unfold pour
  have h0:=hf f (List.mem_cons_self ..)
  refine pour_range hr fs _ (fun f hff=>hf f (List.mem_cons_of_mem _ hff)) ?_
  split<;>omega
def fallN (room box:Int) (fs:List Fill) (melt:Nat→Int):Nat→Nat→Int→Int
 | 0,h,i=>pour room box h i fs
 | m+1,h,i=>fallN room box fs melt m (h+1) (max 0 (pour room box h i fs - melt h))
theorem fallin_loop (N:Nat) (cx:Ctx) (fs:List Fill) (v2 a0 a1 v1 v3:AV) (p5 z:Nat) (room box h:Int) (u:St) (hu:u.n+100000≤far) (hR:RowsAt u.h u.n 3 (fs.map Fill.cells) v2) (hk:fs.length≤20) (hf:∀ f ∈ fs,0≤f.grams∧f.grams≤1000000) (hr:0≤room∧room≤1000000)
  (hp:p5<u.n) (g5:u.h.get p5=some (.cells [a0,a1,v1,v2,v3] z)) :
  ∀ (m i fuel k:Nat) (ice:Int) (L:Env) (s:St),i+m=fs.length→m<fuel→k+m≤90000→Beside u s k→0≤ice∧ice≤1000000→L.find 1=.int .i64 box→L.find 2=.int .i64 ice→L.find 5=.ptr p5 0→L.find 11=.int .i64 room→L.find 12=.int .i64 h→L.find 13=.int .i64 i →
   ∃ L' s',loopN K18l0 fuel (call Try.prog X N) cx L [] s=.done (.exit 2) L' [] s'∧L'.find 2=.int .i64 (pour room box h ice (fs.drop i))∧(∀ t,t=1∨t=3∨t=4∨t=5∨t=11∨t=12→L'.find t=L.find t)∧Beside u s' (k+m)
 | m,i,0,k,ice,L,s,hm,hfu,hkm,hE,hi,l1,l2,l5,l11,l12,l13=>by omega
 | m,i,fuel+1,k,ice,L,s,hm,hfu,hkm,hE,hi,l1,l2,l5,l11,l12,l13=>by
  have hff:far=1000000000:=rfl
  have hlen:=hR.len
  rw [List.length_map] at hlen
  have ok2:∀ t,okA (.val v2 t)=.val v2 t:=fun t=>okA_ne hR.ne
  have q1:=hE.n
  have q2:=hE.le
  have g5':=(hE.same p5 hp).trans g5
  by_cases hlt:i<fs.length
  ·obtain ⟨m',rfl⟩:∃ m',m=m'+1:=⟨m - 1,by omega⟩
   obtain ⟨b,p,c,sz,hbn,hix,hg,hcut⟩:=hR.at_ i (by simpa using hlt)
   rw [List.getElem_map] at hcut
   have hgr:=hf _ (List.getElem_mem hlt)
   rw [List.drop_eq_getElem_cons hlt]
   unfold pour
   generalize fs[i]=F at hcut hgr ⊢
   unfold Fill.cells at hcut
   have hg':=(hE.same b hbn).trans hg
   have e0:decide ((i:Int)<(fs.length:Int))=true:=by simp;omega
   have a2':∀ s,aAdd s .i64 (i:Int) 1=.val (.int .i64 ((i:Int)+1)) s:=fun s=>aAdd_i64 s _ _ (by omega)
   have a3':∀ s,aAdd s .i64 ice F.grams=.val (.int .i64 (ice+F.grams)) s:=fun s=>aAdd_i64 s _ _ (by omega)
   have step:∀ ice2:Int,0≤ice2∧ice2≤1000000→∀ L2:Env,L2.find 1=.int .i64 box→L2.find 2=.int .i64 ice2→L2.find 5=.ptr p5 0→L2.find 11=.int .i64 room→L2.find 12=.int .i64 h→L2.find 13=.int .i64 ((i:Int)+1)→(∀ t,t=1∨t=3∨t=4∨t=5∨t=11∨t=12→L2.find t=L.find t) →
     ∀ o1 o2,∃ L' s',loopN K18l0 fuel (call Try.prog X N) cx L2 [] ((s.new o1).put s.n o2)=.done (.exit 2) L' [] s'∧L'.find 2=.int .i64 (pour room box h ice2 (fs.drop (i+1)))∧(∀ t,t=1∨t=3∨t=4∨t=5∨t=11∨t=12→L'.find t=L.find t)∧Beside u s' (k+(m'+1)):=fun ice2 hi2 L2 r1 r2 r5 r11 r12 r13 rk o1 o2=>by
    obtain ⟨L',s',w1,w2,w3,w4⟩:=fallin_loop N cx fs v2 a0 a1 v1 v3 p5 z room box h u hu hR hk hf hr hp g5 m' (i+1) fuel (k+1) ice2 L2 ((s.new o1).put s.n o2) (by omega) (by omega) (by omega) ((hE.new _).put _ q1) hi2 r1 r2 r5 r11 r12 (by rw [r13];rfl)
    exact ⟨L',s',w1,w2,fun t ht=>(w3 t ht).trans (rk t ht),w4.mono (by omega)⟩
   rw [loopN_succ]
   by_cases e1:F.box=box
   ·have e1':decide (F.box=box)=true:=decide_eq_true e1
    by_cases e2:F.hour=h
    ·have e2':decide (F.hour=h)=true:=decide_eq_true e2
     rw [if_pos ⟨e1,e2⟩]
     simp (disch:=first|omega|(with_unfolding_all exact rfl)|(simp only[new_n,put_n,new_m];omega)|(refine put_m_le ?_;simp only[new_m];omega)) only [res18,K18r0,K18r1,K18r2,K18r3,K18r4,K18r5,K18r6s9,K18r6s8,K18r6s7,K18r6s6,K18r6,K18r7,K18r8,K18l0,K18r9,K18r10,K18r11,K18r12,K18l1,K18,Abs.W,reduceIte,Nat.reduceEqDiff,Nat.reduceAdd,decide_true,decide_false,kLoop_def,Nat.reduceSub,List.cons_append,List.nil_append,List.append_nil,List.length_cons,List.length_nil,Env.find_set,l1,l2,l5,l11,l12,l13,g5',ok2,hlen,e0,hix,hg',hcut,e1',e2',a2',a3',kFold_def,foldA_nil,foldA_cons,minA_i64,Nat.add_zero,Nat.zero_add]
     refine step (min room (ice+F.grams)) (by omega) _ ?_ ?_ ?_ ?_ ?_ ?_ (fun t ht=>?_) _ _
     all_goals first | (rcases ht with rfl | rfl | rfl | rfl | rfl | rfl<;>simp only [Env.find_set,reduceIte,Nat.reduceEqDiff]) | simp only [Env.find_set,l1,l2,l5,l11,l12,l13,reduceIte,Nat.reduceEqDiff]
    ·have e2':decide (F.hour=h)=false:=decide_eq_false e2
     rw [if_neg (fun hh=>e2 hh.2)]
     simp (disch:=first|omega|(with_unfolding_all exact rfl)|(simp only[new_n,put_n,new_m];omega)|(refine put_m_le ?_;simp only[new_m];omega)) only [res18,K18r0,K18r1,K18r2,K18r3,K18r4,K18r5,K18r6s9,K18r6s8,K18r6s7,K18r6s6,K18r6,K18r7,K18r8,K18l0,K18r9,K18r10,K18r11,K18r12,K18l1,K18,Abs.W,reduceIte,Nat.reduceEqDiff,Nat.reduceAdd,decide_true,decide_false,kLoop_def,Nat.reduceSub,List.cons_append,List.nil_append,List.append_nil,List.length_cons,List.length_nil,Env.find_set,l1,l2,l5,l11,l12,l13,g5',ok2,hlen,e0,hix,hg',hcut,e1',e2',a2',Nat.add_zero,Nat.zero_add]
     refine step ice hi _ ?_ ?_ ?_ ?_ ?_ ?_ (fun t ht=>?_) _ _
     all_goals first | (rcases ht with rfl | rfl | rfl | rfl | rfl | rfl<;>simp only [Env.find_set,reduceIte,Nat.reduceEqDiff]) | simp only [Env.find_set,l1,l2,l5,l11,l12,l13,reduceIte,Nat.reduceEqDiff]
   ·have e1':decide (F.box=box)=false:=decide_eq_false e1
    rw [if_neg (fun hh=>e1 hh.1)]
    simp (disch:=first|omega|(with_unfolding_all exact rfl)|(simp only[new_n,put_n,new_m];omega)|(refine put_m_le ?_;simp only[new_m];omega)) only [res18,K18r0,K18r1,K18r2,K18r3,K18r4,K18r5,K18r6s9,K18r6s8,K18r6s7,K18r6s6,K18r6,K18r7,K18r8,K18l0,K18r9,K18r10,K18r11,K18r12,K18l1,K18,Abs.W,reduceIte,Nat.reduceEqDiff,Nat.reduceAdd,decide_true,decide_false,kLoop_def,Nat.reduceSub,List.cons_append,List.nil_append,List.append_nil,List.length_cons,List.length_nil,Env.find_set,l1,l2,l5,l11,l12,l13,g5',ok2,hlen,e0,hix,hg',hcut,e1',a2',Nat.add_zero,Nat.zero_add]
    refine step ice hi _ ?_ ?_ ?_ ?_ ?_ ?_ (fun t ht=>?_) _ _
    all_goals first | (rcases ht with rfl | rfl | rfl | rfl | rfl | rfl<;>simp only [Env.find_set,reduceIte,Nat.reduceEqDiff]) | simp only [Env.find_set,l1,l2,l5,l11,l12,l13,reduceIte,Nat.reduceEqDiff]
  ·have e0:decide ((i:Int)<(fs.length:Int))=false:=by simp;omega
   rw [List.drop_eq_nil_of_le (by omega),loopN_succ]
   simp (disch:=first|omega|(with_unfolding_all exact rfl)|(simp only[new_n,put_n,new_m];omega)|(refine put_m_le ?_;simp only[new_m];omega)) only [res18,K18r0,K18r1,K18r2,K18r3,K18r4,K18r5,K18r6s9,K18r6s8,K18r6s7,K18r6s6,K18r6,K18r7,K18r8,K18l0,K18r9,K18r10,K18r11,K18r12,K18l1,K18,Abs.W,reduceIte,Nat.reduceEqDiff,Nat.reduceAdd,decide_true,decide_false,kLoop_def,Nat.reduceSub,List.cons_append,List.nil_append,List.append_nil,List.length_cons,List.length_nil,Env.find_set,l1,l2,l5,l11,l12,l13,g5',ok2,hlen,e0,Nat.add_zero,Nat.zero_add]
   refine ⟨_,_,rfl,by simp only [Env.find_set,l2,reduceIte,Nat.reduceEqDiff];rfl,fun t ht=>?_,hE.mono (by omega)⟩
   rcases ht with rfl | rfl | rfl | rfl | rfl | rfl<;>simp only [Env.find_set,reduceIte,Nat.reduceEqDiff]
def ints (l:List Int):List (List AV):=l.map fun x=>[.int .i64 x]
theorem ints_at {h:Heap} {n:Nat} {l:List Int} {v:AV} (r:RowsAt h n 1 (ints l) v) {i:Nat} (hi:i<l.length):∃ b p c sz,b<n∧(∀ s,ixsA 1 s v (.int .i64 i)=.val (.ptr b p) s)∧h.get b=some (.cells c sz)∧nth c p=.int .i64 l[i]:=by
 obtain ⟨b,p,c,sz,hbn,hix,hg,hcut⟩:=r.at_ i (by unfold ints;simpa using hi)
 unfold ints at hcut
 rw [List.getElem_map] at hcut
 exact ⟨b,p,c,sz,hbn,hix,hg,cut_nth0 hcut (show 0<1 from by omega)⟩
theorem fallout_loop (N:Nat) (cx:Ctx) (fs:List Fill) (ms:List Int) (d0:Int) (vm v2 a0 a1 v1 v3:AV) (p5 z hour:Nat) (room box:Int) (u:St) (hu:u.n+100000≤far) (hR:RowsAt u.h u.n 3 (fs.map Fill.cells) v2) (hk:fs.length≤20) (hf:∀ f ∈ fs,0≤f.grams∧f.grams≤1000000) (hr:0≤room∧room≤1000000)
  (hp:p5<u.n) (g5:u.h.get p5=some (.cells [a0,a1,v1,v2,v3] z)) (hM:RowsAt u.h u.n 1 (ints ms) vm) (hml:hour≤ms.length) (hmr:∀ x ∈ ms,0≤x∧x≤1000000) (hh:hour≤1000) :
  ∀ (m h fuel k:Nat) (ice:Int) (L:Env) (s:St),h+m=hour→m<fuel→k+20 * (m+1)≤90000→Beside u s k→0≤ice∧ice≤1000000→L.find 1=.int .i64 box→L.find 2=.int .i64 ice→L.find 3=vm→L.find 4=.int .i64 hour→L.find 5=.ptr p5 0→L.find 11=.int .i64 room→L.find 12=.int .i64 h →
   ∃ L' s',loopN K18l1 fuel (call Try.prog X N) cx L [] s=.done .ret L' [] s'∧L'.find 10=.int .i64 (fallN room box fs (fun h=>ms.getD h d0) m h ice)∧Beside u s' (k+20 * (m+1))
 | m,h,0,k,ice,L,s,hm,hfu,hkm,hE,hi,l1,l2,l3,l4,l5,l11,l12=>by omega
 | m,h,fuel+1,k,ice,L,s,hm,hfu,hkm,hE,hi,l1,l2,l3,l4,l5,l11,l12=>by
  have hff:far=1000000000:=rfl
  obtain ⟨L1,s1,r1,r2,r3,r4⟩:=fallin_loop N cx fs v2 a0 a1 v1 v3 p5 z room box h u hu hR hk hf hr hp g5 fs.length 0 rounds k ice (L.set 13 (.int .i64 0)) s (by omega) (by unfold rounds;omega) (by omega) hE hi (by simp only [Env.find_set,l1,reduceIte,Nat.reduceEqDiff]) (by simp only [Env.find_set,l2,reduceIte,Nat.reduceEqDiff]) (by simp only [Env.find_set,l5,reduceIte,Nat.reduceEqDiff]) (by simp only [Env.find_set,l11,reduceIte,Nat.reduceEqDiff]) (by simp only [Env.find_set,l12,reduceIte,Nat.reduceEqDiff]) (by simp only [Env.find_set,reduceIte];rfl)
  rw [List.drop_zero] at r2
  have hpr:=pour_range (box:=box) (h:=(h:Int)) hr fs ice (fun f hff=>(hf f hff).1) hi
  have f1:L1.find 1=.int .i64 box:=(r3 1 (by simp)).trans (by simp only [Env.find_set,l1,reduceIte,Nat.reduceEqDiff])
  have f3:L1.find 3=vm:=(r3 3 (by simp)).trans (by simp only [Env.find_set,l3,reduceIte,Nat.reduceEqDiff])
  have f4:L1.find 4=.int .i64 hour:=(r3 4 (by simp)).trans (by simp only [Env.find_set,l4,reduceIte,Nat.reduceEqDiff])
  have f5:L1.find 5=.ptr p5 0:=(r3 5 (by simp)).trans (by simp only [Env.find_set,l5,reduceIte,Nat.reduceEqDiff])
  have f11:L1.find 11=.int .i64 room:=(r3 11 (by simp)).trans (by simp only [Env.find_set,l11,reduceIte,Nat.reduceEqDiff])
  have f12:L1.find 12=.int .i64 h:=(r3 12 (by simp)).trans (by simp only [Env.find_set,l12,reduceIte,Nat.reduceEqDiff])
  have kl:K18l1=kSeq (kBlock 1 (kSeq (kSeq (kRegion K18r3 [13]) (kBlock 2 (kLoop K18l0))) (kSeq (kSeq (kRegion K18r9 [53]) (kCond (.tmp 53) (kSeq (kRegion K18r10 [10]) kRet) kSkip)) (kRegion K18r11 [2])))) (kRegion K18r12 [12]):=rfl
  rw [loopN_succ,kl]
  cases m with
  | zero =>
   have e0:decide ((h:Int)=(hour:Int))=true:=decide_eq_true (by omega)
   simp (disch:=first|omega|(with_unfolding_all exact rfl)|(simp only[new_n,put_n,new_m];omega)|(refine put_m_le ?_;simp only[new_m];omega)) only [K18r3,K18r9,K18r10,Abs.W,reduceIte,Nat.reduceEqDiff,Nat.reduceAdd,decide_true,decide_false,kLoop_def,Nat.reduceSub,List.cons_append,List.nil_append,List.append_nil,List.length_cons,List.length_nil,Env.find_set,r1,r2,f1,f3,f4,f5,f11,f12,e0]
   exact ⟨_,_,rfl,by simp only [Env.find_set,reduceIte];rfl,r4.mono (by omega)⟩
  | succ m =>
   have e0:decide ((h:Int)=(hour:Int))=false:=decide_eq_false (by omega)
   have hlt:h<ms.length:=by omega
   obtain ⟨b,p,c,sz,hbn,hix,hg,hn⟩:=ints_at hM hlt
   have hg':=(r4.same b hbn).trans hg
   have hmm:=hmr _ (List.getElem_mem hlt)
   have a1':∀ s,aSub s .i64 (pour room box h ice fs) ms[h]=.val (.int .i64 (pour room box h ice fs - ms[h])) s:=fun s=>aSub_i64 s _ _ (by omega)
   have a2':∀ s,aAdd s .i64 (h:Int) 1=.val (.int .i64 ((h:Int)+1)) s:=fun s=>aAdd_i64 s _ _ (by omega)
   have hgd:ms.getD h d0=ms[h]:=by rw [List.getD_eq_getElem?_getD,List.getElem?_eq_getElem hlt];rfl
   simp (disch:=first|omega|(with_unfolding_all exact rfl)|(simp only[new_n,put_n,new_m];omega)|(refine put_m_le ?_;simp only[new_m];omega)) only [K18r3,K18r9,K18r11,K18r12,Abs.W,reduceIte,Nat.reduceEqDiff,Nat.reduceAdd,decide_true,decide_false,kLoop_def,Nat.reduceSub,List.cons_append,List.nil_append,List.append_nil,List.length_cons,List.length_nil,Env.find_set,r1,r2,f1,f3,f4,f5,f11,f12,e0,hix,hg',hn,a1',a2',kFold_def,foldA_nil,foldA_cons,maxA_i64]
   obtain ⟨L',s',w1,w2,w3⟩:=fallout_loop N cx fs ms d0 vm v2 a0 a1 v1 v3 p5 z hour room box u hu hR hk hf hr hp g5 hM hml hmr hh m (h+1) fuel (k+fs.length) (max 0 (pour room box h ice fs - ms[h])) (((L1.set 53 (.bool false)).set 2 (.int .i64 (max 0 (pour room box h ice fs - ms[h])))).set 12 (.int .i64 ((h:Int)+1))) s1 (by omega) (by omega) (by omega) r4 (by omega) (by simp only [Env.find_set,f1,reduceIte,Nat.reduceEqDiff]) (by simp only [Env.find_set,reduceIte,Nat.reduceEqDiff]) (by simp only [Env.find_set,f3,reduceIte,Nat.reduceEqDiff]) (by simp only [Env.find_set,f4,reduceIte,Nat.reduceEqDiff]) (by simp only [Env.find_set,f5,reduceIte,Nat.reduceEqDiff]) (by simp only [Env.find_set,f11,reduceIte,Nat.reduceEqDiff]) (by simp only [Env.find_set,reduceIte];rfl)
   refine ⟨L',s',w1,?_,w3.mono (by omega)⟩
   rw [w2]
   show _=AV.int .i64 (fallN room box fs (fun h=>ms.getD h d0) m (h+1) (max 0 (pour room box h ice fs - ms.getD h d0)))
   rw [hgd]
theorem Fall_ok (N:Nat) (hN:1≤N) (c:Cellar) (ok:c.Ok) (ms:List Int) (d0:Int) (v1 v2 v3 vm:AV) (b hour:Nat) (box ice:Int) (s:St) (hC:CellarIn s.h s.n c v1 v2 v3) (hM:RowsAt s.h s.n 1 (ints ms) vm) (hb:b<c.boxes.length) (hbox:box=b) (hi:0≤ice∧ice≤1000000) (hml:hour≤ms.length) (hmr:∀ x ∈ ms,0≤x∧x≤1000000) (hh:hour≤1000) (hs:s.n+200000≤far) :
  call Try.prog X N (.fn 18) [.agg [.int .i64 c.hl,.int .i64 c.hh,v1,v2,v3],.int .i64 box,.int .i64 ice,vm,.int .i64 hour] s=.val (.int .i64 (fallN (c.box b).room b c.fills (fun h=>ms.getD h d0) hour 0 ice)) s:=by
 obtain ⟨n,rfl⟩:∃ n,N=n+1:=⟨N - 1,by omega⟩
 subst hbox
 refine call_plain' Try.func18 (fun u uh un um=>?_) rfl
 have hff:far=1000000000:=rfl
 rw [← uh,← un] at hC hM
 obtain ⟨w,hw⟩:∃ w:St,w=u.new (.cells [.int .i64 c.hl,.int .i64 c.hh,v1,v2,v3] (tag 31)):=⟨_,rfl⟩
 have wn:w.n=u.n+1:=by rw [hw];rfl
 have wm:w.m=far:=by rw [hw];exact um
 have wg:∀ c,c<u.n→w.h.get c=u.h.get c:=fun c hc=>by rw [hw,get_new_ne _ _ _ (by omega)]
 have w0:w.h.get u.n=some (.cells [.int .i64 c.hl,.int .i64 c.hh,v1,v2,v3] (tag 31)):=by rw [hw];exact get_new_eq _ _ _ rfl (by omega)
 have hCw:=hC.grow wg (by omega:u.n≤w.n)
 have hMw:=hM.grow wg (by omega:u.n≤w.n)
 have ok1:∀ t,okA (.val v1 t)=.val v1 t:=fun t=>okA_ne hC.at_.b.ne
 obtain ⟨bb,p,cc,sz,hbn,hix,hg,hcut⟩:=hCw.at_.b.at_ b (by simpa using hb)
 rw [List.getElem_map] at hcut
 have c0:nth cc p=.int .i64 (c.box b).room:=by rw [c.box_eq hb];exact cut_nth0 hcut (show 0<9 from by omega)
 have okb:=ok.bok _ (List.getElem_mem hb)
 rw [← c.box_eq hb] at okb
 rw [enter18]
 simp (disch:=first|omega|(with_unfolding_all exact rfl)|(simp only[new_n,put_n,new_m];omega)|(refine put_m_le ?_;simp only[new_m];omega)) only [K18,K18r0,Abs.W,reduceIte,Nat.reduceEqDiff,Nat.reduceAdd,decide_true,decide_false,kLoop_def,Nat.reduceSub,List.cons_append,List.nil_append,List.append_nil,List.length_cons,List.length_nil]
 rw [← hw]
 simp (disch:=first|omega|(with_unfolding_all exact rfl)|(simp only[new_n,put_n,new_m];omega)|(refine put_m_le ?_;simp only[new_m];omega)) only [K18r1,K18r2,Abs.W,reduceIte,Nat.reduceEqDiff,Nat.reduceAdd,decide_true,decide_false,kLoop_def,Nat.reduceSub,List.cons_append,List.nil_append,List.append_nil,List.length_cons,List.length_nil,Env.find_set,w0,ok1,hix,hg,c0,Nat.zero_add,Nat.add_zero]
 generalize hLe:Env.cons 0 _ _=L0
 obtain ⟨L',s',h1,h2,h3⟩:=fallout_loop n ⟨18,none,Try.f18.ntmps,X 18⟩ c.fills ms d0 vm v2 (.int .i64 c.hl) (.int .i64 c.hh) v1 v3 u.n _ hour (c.box b).room b w (by omega) hCw.at_.f ok.f (fun f hf=>by have:=ok.fok f hf;exact ⟨this.g0,by have:=this.g1;omega⟩) ⟨okb.r0,by have:=okb.r1;omega⟩ (by omega) w0 hMw hml hmr hh
  hour 0 rounds 0 ice L0 w (by omega) (by unfold rounds;omega) (by omega) (Beside.refl w (by omega) wm) hi (by rw [← hLe];simp only [find_cons,reduceIte,Nat.reduceEqDiff]) (by rw [← hLe];simp only [find_cons,reduceIte,Nat.reduceEqDiff]) (by rw [← hLe];simp only [find_cons,reduceIte,Nat.reduceEqDiff]) (by rw [← hLe];simp only [find_cons,reduceIte,Nat.reduceEqDiff]) (by rw [← hLe];simp only [find_cons,reduceIte,Nat.reduceEqDiff]) (by rw [← hLe];simp only [find_cons,reduceIte,Nat.reduceEqDiff]) (by rw [← hLe];simp only [find_cons,reduceIte,Nat.reduceEqDiff];rfl)
 have q3:=h3.m
 simp (disch:=first|omega|(with_unfolding_all exact rfl)|(simp only[new_n,put_n,new_m];omega)|(refine put_m_le ?_;simp only[new_m];omega)) only [res18,Abs.W,reduceIte,Nat.reduceEqDiff,Nat.reduceAdd,decide_true,decide_false,kLoop_def,Nat.reduceSub,List.cons_append,List.nil_append,List.append_nil,List.length_cons,List.length_nil,h1,h2]
 exact ⟨_,rfl,by omega⟩
/-! ### .. and the ice of the program -/
theorem fill1_none (room h:Int):∀ (fs:List (Int × Int)) (i:Int),(∀ f ∈ fs,h<f.1)→fill1 room h i fs=i
 | [],i,_=>rfl
 | (a,g)::r,i,hf=>by
  unfold fill1
  have:=hf (a,g) (List.mem_cons_self ..)
  rw [if_neg (by simp only at this;omega)]
def Ordered:List Fill→Prop
 | []=>True
 | f::fs=>(∀ g ∈ fs,f.hour≤g.hour)∧Ordered fs
def ofB (box:Int) (fs:List Fill):List (Int × Int):=(ofBox box fs).map fun f=>(f.hour,f.grams)
theorem ofB_cons (box:Int) (f:Fill) (fs:List Fill):ofB box (f::fs)=if f.box=box then (f.hour,f.grams)::ofB box fs else ofB box fs:=by
 unfold ofB ofBox
 by_cases e:f.box=box
 ·rw [if_pos e,List.filter_cons_of_pos (by simpa using e)];rfl
 ·rw [if_neg e,List.filter_cons_of_neg (by simpa using e)]
theorem ofB_mem {box:Int} {fs:List Fill} {x:Int × Int} (h:x ∈ ofB box fs):∃ f ∈ fs,f.hour=x.1:=by
 unfold ofB ofBox at h
 obtain ⟨f,hf,rfl⟩:=List.mem_map.mp h
 exact ⟨f,(List.mem_filter.mp hf).1,rfl⟩
def later (h:Int) (fs:List (Int × Int)):List (Int × Int):=fs.filter fun f=>decide (h≤f.1)
theorem pour_fill (room box h:Int):∀ (fs:List Fill) (i:Int),Ordered fs→pour room box h i fs=fill1 room h i (later h (ofB box fs))∧left h (later h (ofB box fs))=later (h+1) (ofB box fs)
 | [],i,_=>⟨rfl,rfl⟩
 | f::fs,i,⟨h1,h2⟩=>by
  have ih:=fun i=>pour_fill room box h fs i h2
  unfold pour
  rw [ofB_cons]
  by_cases e:f.box=box
  ·rw [if_pos e]
   unfold later
   by_cases e2:f.hour=h
   ·rw [if_pos ⟨e,e2⟩,List.filter_cons_of_pos (by simp only [decide_eq_true_eq];omega),List.filter_cons_of_neg (by simp only [decide_eq_true_eq];omega)]
    unfold fill1 left
    rw [if_pos e2,if_pos e2,Int.min_comm]
    exact ih _
   ·rw [if_neg (fun hh=>e2 hh.2)]
    by_cases e3:h<f.hour
    ·have hall:∀ x ∈ ofB box fs,h<x.1:=fun x hx=>by
      obtain ⟨g,hg,e4⟩:=ofB_mem hx
      have:=h1 g hg
      omega
     rw [List.filter_cons_of_pos (by simp only [decide_eq_true_eq];omega),List.filter_cons_of_pos (by simp only [decide_eq_true_eq];omega)]
     have hf1:(ofB box fs).filter (fun f=>decide (h≤f.1))=ofB box fs:=List.filter_eq_self.mpr fun x hx=>by have:=hall x hx;simp only [decide_eq_true_eq];omega
     have hf2:(ofB box fs).filter (fun f=>decide (h+1≤f.1))=ofB box fs:=List.filter_eq_self.mpr fun x hx=>by have:=hall x hx;simp only [decide_eq_true_eq];omega
     rw [hf1,hf2]
     unfold fill1 left
     rw [if_neg e2,if_neg e2]
     refine ⟨?_,rfl⟩
     rw [(ih i).1]
     unfold later
     rw [hf1,fill1_none _ _ _ _ hall]
    ·rw [List.filter_cons_of_neg (by simp only [decide_eq_true_eq];omega),List.filter_cons_of_neg (by simp only [decide_eq_true_eq];omega)]
     exact ih i
  ·rw [if_neg e,if_neg (fun hh=>e hh.1)]
   exact ih i
theorem fallN_lev (room:Int) (box:Int) (fs:List Fill) (ho:Ordered fs) (melt:Nat→Int) (melt':Int→Int) (hm:∀ h:Nat,melt h=melt' h):∀ (m h:Nat) (i:Int),fallN room box fs melt m h i=lev room melt' m h i (later h (ofB box fs))
 | 0,h,i=>(pour_fill room box h fs i ho).1
 | m+1,h,i=>by
  obtain ⟨h1,h2⟩:=pour_fill room box h fs i ho
  unfold fallN lev
  rw [fallN_lev room box fs ho melt melt' hm m (h+1),h1,h2,hm h]
  rfl
theorem ordered_of {c:Cellar} (ok:c.Ok):Ordered c.fills:=by
 have key:∀ m j,j+m=c.fills.length→Ordered (c.fills.drop j)∧∀ g ∈ c.fills.drop j,before c.fills j≤g.hour:=by
  intro m
  induction m with
  | zero =>
   intro j hj
   rw [List.drop_of_length_le (by omega)]
   exact ⟨trivial,fun g hg=>by cases hg⟩
  | succ m ih =>
   intro j hj
   have hlt:j<c.fills.length:=by omega
   obtain ⟨h1,h2⟩:=ih (j+1) (by omega)
   have hb:before c.fills (j+1)=(c.fills[j]).hour:=by simp only [before,List.getElem?_eq_getElem hlt]
   rw [hb] at h2
   have hj':=ok.fo j hlt
   rw [List.drop_eq_getElem_cons hlt]
   refine ⟨⟨h2,h1⟩,fun g hg=>?_⟩
   rcases List.mem_cons.mp hg with e | hg
   ·subst e;exact hj'
   ·have:=h2 g hg
    omega
 have:=(key c.fills.length 0 (by omega)).1
 rwa [List.drop_zero] at this
theorem fallN_eq (c:Cellar) (ok:c.Ok) (b k:Nat) (i:Int) (melt:Nat→Int) (melt':Int→Int) (hm:∀ h:Nat,melt h=melt' h):fallN (c.box b).room b c.fills melt k 0 i=lev (c.box b).room melt' k 0 i (c.of b):=by
 rw [fallN_lev _ _ _ (ordered_of ok) melt melt' hm]
 have:later ((0:Nat):Int) (ofB b c.fills)=c.of b:=by
  refine List.filter_eq_self.mpr fun x hx=>?_
  obtain ⟨f,hf,e⟩:=ofB_mem hx
  have:=(ok.fok f hf).h0
  simp only [decide_eq_true_eq]
  omega
 rw [this]
 rfl
end Go.Proofs.Ytlfalcghhckanab.walk
