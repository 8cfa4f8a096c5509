/- CellarOf. -/
import Derived.Test.YtlfalcghhckanaaM5
import Derived.Test.YtlfalcghhckanaaCodes
import Derived.Test.YtlfalcghhckanaaM1
import Derived.Test.YtlfalcghhckanaaWalkAll
set_option linter.unusedSimpArgs false
set_option maxHeartbeats 16000000
set_option linter.unusedVariables false
set_option maxRecDepth 10000
namespace Go.Proofs.Ytlfalcghhckanaa.walk
open Go.Abs Go.Proofs.Ytlfalcghhckanaa.code
structure CellarNew (h:Heap) (lo n:Nat) (c:Cellar) (v1 v2 v3:AV):Prop where
 b:Abs.Rows h lo n 9 (tag 43) (c.boxes.map Box.cells) v1
 f:Abs.Rows h lo n 3 (tag 62) (c.fills.map Fill.cells) v2
 r:Abs.Rows h lo n 2 (tag 64) (c.rates.map Rate.cells) v3
theorem rows_scal {h:Heap} {lo n w tg:Nat} {rows:List (List AV)} {v:AV} (r:Abs.Rows h lo n w tg rows v):v.scalar=true:=by
 rcases r.is with ⟨_,h2⟩ | ⟨b,_,_,h2,_⟩<;>subst h2<;>rfl
theorem rows_lower {h:Heap} {lo lo' n w tg:Nat} {rows:List (List AV)} {v:AV} (r:Abs.Rows h lo n w tg rows v) (hl:lo'≤lo):Abs.Rows h lo' n w tg rows v :=
 ⟨r.wide,r.is.imp id fun ⟨b,h0,h1⟩=>⟨b,by omega,h1⟩⟩
theorem CellarNew.mono {h h':Heap} {lo n n':Nat} {c:Cellar} {v1 v2 v3:AV} (a:CellarNew h lo n c v1 v2 v3) (hh:∀ b,lo≤b→b<n→h'.get b=h.get b) (hn:n≤n'):CellarNew h' lo n' c v1 v2 v3 :=
 ⟨a.b.mono hh hn,a.f.mono hh hn,a.r.mono hh hn⟩
theorem CellarNew.in_ {h:Heap} {lo n:Nat} {c:Cellar} {v1 v2 v3:AV} (a:CellarNew h lo n c v1 v2 v3):CellarIn h n c v1 v2 v3 :=
 ⟨⟨a.b.at_,a.f.at_,a.r.at_⟩,a.f.seq,rows_scal a.b,rows_scal a.r⟩
structure Cellar.Tame (c:Cellar) (xb xf:Nat):Prop where
 h0 : -20≤c.hl
 h1:c.hh≤200
 b:c.boxes.length≤xb
 f:c.fills.length≤xf
 r:∀ b ∈ c.boxes,b.room≤500
theorem CellarOf_tame {N d:Nat} {s:St} {r:ARes} (xb xf:Nat) (hr:call Try.prog X N (.fn 5) [.ptr d 0,.int .i64 xb,.int .i64 xf] s=r) (hN:6≤N) (hb:xb≤6) (hf20:xf≤10) (hd:Die d s.h) (hdn:d<s.n) (hs:s.n+5000≤far) :
  ∃ (c:Cellar) (v1 v2 v3:AV) (t:St),r=.val (.agg [.int .i64 c.hl,.int .i64 c.hh,v1,v2,v3]) t∧Stir d s t 1000∧Die d t.h∧(c.Ok∧c.Tame xb xf)∧CellarNew t.h (s.n+1) t.n c v1 v2 v3:=by
 obtain ⟨n,rfl⟩:∃ n,N=n+1:=⟨N - 1,by omega⟩
 have hff:far=1000000000:=rfl
 obtain ⟨v,t,e,st,c,v1,v2,v3,rfl,hd',ok,hC⟩:=call_stir (n:=n) (args:=[.ptr d 0,.int .i64 xb,.int .i64 xf]) (s:=s) (d:=d) (k:=1000)
  (Q:=fun v h m=>∃ (c:Cellar) (v1 v2 v3:AV),v=.agg [.int .i64 c.hl,.int .i64 c.hh,v1,v2,v3]∧Die d h∧(c.Ok∧c.Tame xb xf)∧CellarNew h (s.n+1) m c v1 v2 v3) Try.func5 rfl (fun u uh un um=>by
  rw [← uh] at hd
  rw [← un]
  have sh:shapeT Try.prog 31=some (some 5):=by kernel_rfl
  rw [enter5]
  simp (disch:=first|omega|(with_unfolding_all exact rfl)|(simp only[new_n,put_n,new_m];omega)|(refine put_m_le ?_;simp only[new_m];omega)) only [res5,K5r0,K5r1,K5r2,K5r3,K5r4,K5r5,K5r6,K5r7,K5r8,K5r9,K5r10,K5r11,K5r12s7,K5r12s6,K5r12s5,K5r12s4,K5r12,K5r13,K5r14,K5r15,K5r16,K5r17,K5r18,K5r19,K5r20,K5r21,K5r22,K5r23,K5,Abs.W,reduceIte,Nat.reduceEqDiff,Nat.reduceAdd,decide_true,decide_false,kLoop_def,Nat.reduceSub,List.cons_append,List.nil_append,List.append_nil,List.length_cons,List.length_nil]
  obtain ⟨w,hw⟩:∃ w:St,w=u.new (.cells [.int .i64 0,.int .i64 0,.nilslice,.nilslice,.nilslice] (tag 31)):=⟨_,rfl⟩
  rw [← hw]
  have wn:w.n=u.n+1:=by rw [hw];rfl
  have wm:w.m=far:=by rw [hw];exact um
  have wg:∀ c,c<u.n→w.h.get c=u.h.get c:=fun c hc=>by rw [hw,get_new_ne _ _ _ (by omega)]
  have w0:w.h.get u.n=some (.cells [.int .i64 0,.int .i64 0,.nilslice,.nilslice,.nilslice] (tag 31)):=by rw [hw];exact get_new_eq _ _ _ rfl (by omega)
  have dw:Die d w.h:=by obtain ⟨f,hg⟩:=hd;exact ⟨f,by rw [wg _ (by omega)];exact hg⟩
  generalize hc1:call _ _ _ (.fn 18) _ _=r1
  obtain ⟨a,b,t1,rfl,st1,d1,a0,a1,a2⟩:=span_ex hc1 (by omega) dw (by omega) (by omega) (by omega) (by omega) (by omega)
  have n1:w.n≤t1.n:=st1.n
  have k1:t1.n≤w.n+2:=st1.le
  simp (disch:=first|omega|(with_unfolding_all exact rfl)|(simp only[new_n,put_n,new_m];omega)|(refine put_m_le ?_;simp only[new_m];omega)) only [res5,K5r0,K5r1,K5r2,K5r3,K5r4,K5r5,K5r6,K5r7,K5r8,K5r9,K5r10,K5r11,K5r12s7,K5r12s6,K5r12s5,K5r12s4,K5r12,K5r13,K5r14,K5r15,K5r16,K5r17,K5r18,K5r19,K5r20,K5r21,K5r22,K5r23,K5,Abs.W,reduceIte,Nat.reduceEqDiff,Nat.reduceAdd,decide_true,decide_false,kLoop_def,Nat.reduceSub,List.cons_append,List.nil_append,List.append_nil,List.length_cons,List.length_nil,Env.find_set]
  obtain ⟨y,hy⟩:∃ y:St,y=(t1.new (.cells [.int .i64 0,.int .i64 0,.nilslice,.nilslice,.nilslice] (tag 31))).put t1.n (.cells [.int .i64 a,.int .i64 b,.nilslice,.nilslice,.nilslice] (tag 31)):=⟨_,rfl⟩
  rw [← hy]
  have yn:y.n=t1.n+1:=by rw [hy];rfl
  have ym:y.m=min t1.m t1.n:=by rw [hy];simp only [St.put,minN_eq,new_m]
  have yg:∀ c,c≠t1.n→y.h.get c=t1.h.get c:=fun c hc=>by rw [hy,get_put_ne' _ _ _ _ hc,get_new_ne _ _ _ hc]
  have yp:y.h.get t1.n=some (.cells [.int .i64 a,.int .i64 b,.nilslice,.nilslice,.nilslice] (tag 31)):=by rw [hy];exact get_put_eq _ _ _ _ rfl (by omega)
  have dy:Die d y.h:=by obtain ⟨f,hg⟩:=d1;exact ⟨f,by rw [yg _ (by omega)];exact hg⟩
  have a3:∀ s,aAdd s .i64 (xb:Int) 1=.val (.int .i64 ((xb:Int)+1)) s:=fun s=>aAdd_i64 s _ _ (by omega)
  simp (disch:=first|omega|(with_unfolding_all exact rfl)|(simp only[new_n,put_n,new_m];omega)|(refine put_m_le ?_;simp only[new_m];omega)) only [res5,K5r0,K5r1,K5r2,K5r3,K5r4,K5r5,K5r6,K5r7,K5r8,K5r9,K5r10,K5r11,K5r12s7,K5r12s6,K5r12s5,K5r12s4,K5r12,K5r13,K5r14,K5r15,K5r16,K5r17,K5r18,K5r19,K5r20,K5r21,K5r22,K5r23,K5,Abs.W,reduceIte,Nat.reduceEqDiff,Nat.reduceAdd,decide_true,decide_false,kLoop_def,Nat.reduceSub,List.cons_append,List.nil_append,List.append_nil,List.length_cons,List.length_nil,Env.find_set,a3]
  generalize hc2:call _ _ _ (.fn 8) _ _=r2
  obtain ⟨x2,t2,rfl,st2,d2,x20,x21⟩:=cast_ex hc2 (by omega) dy (by omega) (by omega) (by omega)
  have n2:y.n≤t2.n:=st2.n
  have k2:t2.n≤y.n:=st2.le
  obtain ⟨M,hM⟩:∃ M:Nat,x2=(M:Int):=⟨x2.toNat,by omega⟩
  subst hM
  have p2:t2.h.get t1.n=some (.cells [.int .i64 a,.int .i64 b,.nilslice,.nilslice,.nilslice] (tag 31)):=(st2.same _ (by omega) (by omega)).trans yp
  simp (disch:=first|omega|(with_unfolding_all exact rfl)|(simp only[new_n,put_n,new_m];omega)|(refine put_m_le ?_;simp only[new_m];omega)) only [res5,K5r0,K5r1,K5r2,K5r3,K5r4,K5r5,K5r6,K5r7,K5r8,K5r9,K5r10,K5r11,K5r12s7,K5r12s6,K5r12s5,K5r12s4,K5r12,K5r13,K5r14,K5r15,K5r16,K5r17,K5r18,K5r19,K5r20,K5r21,K5r22,K5r23,K5,Abs.W,reduceIte,Nat.reduceEqDiff,Nat.reduceAdd,decide_true,decide_false,kLoop_def,Nat.reduceSub,List.cons_append,List.nil_append,List.append_nil,List.length_cons,List.length_nil,Env.find_set]
  generalize hl1:loopN K5l0 rounds _ _ _ _ _=q1
  obtain ⟨L3,t3,bs,v1,rfl,s3,bsl,bsok,d3,p3,rb3,go3⟩:=boxes_loop M hl1 (by omega) (by omega) d2 (show d<t1.n by omega) (by omega) (by omega) p2 (by simp only [find_cons,Env.find_set,reduceIte,Nat.reduceEqDiff]) (by simp only [find_cons,Env.find_set,reduceIte,Nat.reduceEqDiff]) (by simp only [find_cons,Env.find_set,reduceIte,Nat.reduceEqDiff])
  have n3:=go3.n
  have k3:=go3.le
  have l30:L3.find 0=.ptr d 0:=(s3 0 (by simp)).trans (by simp only [find_cons,Env.find_set,reduceIte,Nat.reduceEqDiff])
  have l32:L3.find 2=.int .i64 xf:=(s3 2 (by simp)).trans (by simp only [find_cons,Env.find_set,reduceIte,Nat.reduceEqDiff])
  have l36:L3.find 6=.ptr u.n 0:=(s3 6 (by simp)).trans (by simp only [find_cons,Env.find_set,reduceIte,Nat.reduceEqDiff])
  have l37:L3.find 7=.ptr t1.n 0:=(s3 7 (by simp)).trans (by simp only [find_cons,Env.find_set,reduceIte,Nat.reduceEqDiff])
  clear s3
  have a4:∀ s,aAdd s .i64 (xf:Int) 1=.val (.int .i64 ((xf:Int)+1)) s:=fun s=>aAdd_i64 s _ _ (by omega)
  simp (disch:=first|omega|(with_unfolding_all exact rfl)|(simp only[new_n,put_n,new_m];omega)|(refine put_m_le ?_;simp only[new_m];omega)) only [res5,K5r0,K5r1,K5r2,K5r3,K5r4,K5r5,K5r6,K5r7,K5r8,K5r9,K5r10,K5r11,K5r12s7,K5r12s6,K5r12s5,K5r12s4,K5r12,K5r13,K5r14,K5r15,K5r16,K5r17,K5r18,K5r19,K5r20,K5r21,K5r22,K5r23,K5,Abs.W,reduceIte,Nat.reduceEqDiff,Nat.reduceAdd,decide_true,decide_false,kLoop_def,Nat.reduceSub,List.cons_append,List.nil_append,List.append_nil,List.length_cons,List.length_nil,Env.find_set,l30,l32,l36,l37,a4]
  generalize hc4:call _ _ _ (.fn 8) _ _=r4
  obtain ⟨x4,t4,rfl,st4,d4,x40,x41⟩:=cast_ex hc4 (by omega) d3 (by omega) (by omega) (by omega)
  have n4:t3.n≤t4.n:=st4.n
  have k4:t4.n≤t3.n:=st4.le
  obtain ⟨M4,hM⟩:∃ M:Nat,x4=(M:Int):=⟨x4.toNat,by omega⟩
  subst hM
  have p4:=(st4.same t1.n (by omega) (by omega)).trans p3
  simp (disch:=first|omega|(with_unfolding_all exact rfl)|(simp only[new_n,put_n,new_m];omega)|(refine put_m_le ?_;simp only[new_m];omega)) only [res5,K5r0,K5r1,K5r2,K5r3,K5r4,K5r5,K5r6,K5r7,K5r8,K5r9,K5r10,K5r11,K5r12s7,K5r12s6,K5r12s5,K5r12s4,K5r12,K5r13,K5r14,K5r15,K5r16,K5r17,K5r18,K5r19,K5r20,K5r21,K5r22,K5r23,K5,Abs.W,reduceIte,Nat.reduceEqDiff,Nat.reduceAdd,decide_true,decide_false,kLoop_def,Nat.reduceSub,List.cons_append,List.nil_append,List.append_nil,List.length_cons,List.length_nil,Env.find_set]
  generalize hl2:loopN K5l1 rounds _ _ _ _ _=q2
  obtain ⟨L5,t5,fs,v2,rfl,s5,fsl,fsok,fso,d5,p5,rf5,go5⟩:=fillings_loop (bs:=bs) M4 hl2 (by omega) (by omega) d4 (show d<t1.n by omega) (by omega) (by omega) (rb3.mono (fun c hc hcn=>st4.same c hcn (by omega)) n4) (by omega) (fun b hb=>⟨(bsok b hb).1.r0,(bsok b hb).2⟩) p4 (by simp only [find_cons,Env.find_set,l30,reduceIte,Nat.reduceEqDiff]) (by simp only [find_cons,Env.find_set,l37,reduceIte,Nat.reduceEqDiff]) (by simp only [find_cons,Env.find_set,reduceIte,Nat.reduceEqDiff]) (by simp only [find_cons,Env.find_set,reduceIte,Nat.reduceEqDiff])
  have n5:=go5.n
  have k5:=go5.le
  have l50:L5.find 0=.ptr d 0:=(s5 0 (by simp)).trans (by simp only [find_cons,Env.find_set,l30,reduceIte,Nat.reduceEqDiff])
  have l56:L5.find 6=.ptr u.n 0:=(s5 6 (by simp)).trans (by simp only [find_cons,Env.find_set,l36,reduceIte,Nat.reduceEqDiff])
  have l57:L5.find 7=.ptr t1.n 0:=(s5 7 (by simp)).trans (by simp only [find_cons,Env.find_set,l37,reduceIte,Nat.reduceEqDiff])
  clear s5
  simp (disch:=first|omega|(with_unfolding_all exact rfl)|(simp only[new_n,put_n,new_m];omega)|(refine put_m_le ?_;simp only[new_m];omega)) only [res5,K5r0,K5r1,K5r2,K5r3,K5r4,K5r5,K5r6,K5r7,K5r8,K5r9,K5r10,K5r11,K5r12s7,K5r12s6,K5r12s5,K5r12s4,K5r12,K5r13,K5r14,K5r15,K5r16,K5r17,K5r18,K5r19,K5r20,K5r21,K5r22,K5r23,K5,Abs.W,reduceIte,Nat.reduceEqDiff,Nat.reduceAdd,decide_true,decide_false,kLoop_def,Nat.reduceSub,List.cons_append,List.nil_append,List.append_nil,List.length_cons,List.length_nil,Env.find_set,l50,l56,l57]
  generalize hc6:call _ _ _ (.fn 19) _ _=r6
  obtain ⟨x6,t6,rfl,st6,d6,x60,x61⟩:=from_ex hc6 (by omega) d5 (by omega) (by omega) (by omega) (by omega) (by omega) (by omega)
  have n6:t5.n≤t6.n:=st6.n
  have k6:t6.n≤t5.n:=st6.le
  simp (disch:=first|omega|(with_unfolding_all exact rfl)|(simp only[new_n,put_n,new_m];omega)|(refine put_m_le ?_;simp only[new_m];omega)) only [res5,K5r0,K5r1,K5r2,K5r3,K5r4,K5r5,K5r6,K5r7,K5r8,K5r9,K5r10,K5r11,K5r12s7,K5r12s6,K5r12s5,K5r12s4,K5r12,K5r13,K5r14,K5r15,K5r16,K5r17,K5r18,K5r19,K5r20,K5r21,K5r22,K5r23,K5,Abs.W,reduceIte,Nat.reduceEqDiff,Nat.reduceAdd,decide_true,decide_false,kLoop_def,Nat.reduceSub,List.cons_append,List.nil_append,List.append_nil,List.length_cons,List.length_nil,Env.find_set,l50,l56,l57]
  generalize hc7:call _ _ _ (.fn 8) _ _=r7
  obtain ⟨x7,t7,rfl,st7,d7,x70,x71⟩:=cast_ex hc7 (by omega) d6 (by omega) (by omega) (by omega)
  have n7:t6.n≤t7.n:=st7.n
  have k7:t7.n≤t6.n:=st7.le
  simp (disch:=first|omega|(with_unfolding_all exact rfl)|(simp only[new_n,put_n,new_m];omega)|(refine put_m_le ?_;simp only[new_m];omega)) only [res5,K5r0,K5r1,K5r2,K5r3,K5r4,K5r5,K5r6,K5r7,K5r8,K5r9,K5r10,K5r11,K5r12s7,K5r12s6,K5r12s5,K5r12s4,K5r12,K5r13,K5r14,K5r15,K5r16,K5r17,K5r18,K5r19,K5r20,K5r21,K5r22,K5r23,K5,Abs.W,reduceIte,Nat.reduceEqDiff,Nat.reduceAdd,decide_true,decide_false,kLoop_def,Nat.reduceSub,List.cons_append,List.nil_append,List.append_nil,List.length_cons,List.length_nil,Env.find_set,l50,l56,l57]
  generalize hc8:call _ _ _ (.fn 19) _ _=r8
  obtain ⟨x8,t8,rfl,st8,d8,x80,x81⟩:=from_ex hc8 (by omega) d7 (by omega) (by omega) (by omega) (by omega) (by omega) (by omega)
  have n8:t7.n≤t8.n:=st8.n
  have k8:t8.n≤t7.n:=st8.le
  obtain ⟨M8,hM⟩:∃ M:Nat,x8=(M:Int):=⟨x8.toNat,by omega⟩
  subst hM
  have back8:∀ c,c<t5.n→c≠d→t8.h.get c=t5.h.get c:=fun c hc hcd=>(st8.same c (by omega) hcd).trans ((st7.same c (by omega) hcd).trans (st6.same c hc hcd))
  have p8:=(back8 t1.n (by omega) (by omega)).trans p5
  simp (disch:=first|omega|(with_unfolding_all exact rfl)|(simp only[new_n,put_n,new_m];omega)|(refine put_m_le ?_;simp only[new_m];omega)) only [res5,K5r0,K5r1,K5r2,K5r3,K5r4,K5r5,K5r6,K5r7,K5r8,K5r9,K5r10,K5r11,K5r12s7,K5r12s6,K5r12s5,K5r12s4,K5r12,K5r13,K5r14,K5r15,K5r16,K5r17,K5r18,K5r19,K5r20,K5r21,K5r22,K5r23,K5,Abs.W,reduceIte,Nat.reduceEqDiff,Nat.reduceAdd,decide_true,decide_false,kLoop_def,Nat.reduceSub,List.cons_append,List.nil_append,List.append_nil,List.length_cons,List.length_nil,Env.find_set,l50,l56,l57]
  generalize hl3:loopN K5l2 rounds _ _ _ _ _=q3
  obtain ⟨L9,t9,rs,v3,rfl,s9,rsl,rsok,rso,d9,p9,rr9,go9⟩:=rates_loop M8 hl3 (by omega) (by omega) d8 (show d<t1.n by omega) (by omega) (by omega) p8 ⟨x60,by omega⟩ ⟨x70,by omega⟩ (by simp only [find_cons,Env.find_set,l50,reduceIte,Nat.reduceEqDiff]) (by simp only [find_cons,Env.find_set,l57,reduceIte,Nat.reduceEqDiff]) (by simp only [find_cons,Env.find_set,reduceIte,Nat.reduceEqDiff]) (by simp only [find_cons,Env.find_set,reduceIte,Nat.reduceEqDiff]) (by simp only [find_cons,Env.find_set,reduceIte,Nat.reduceEqDiff])
  have n9:=go9.n
  have k9:=go9.le
  have l96:L9.find 6=.ptr u.n 0:=(s9 6 (by simp)).trans (by simp only [find_cons,Env.find_set,l56,reduceIte,Nat.reduceEqDiff])
  have l97:L9.find 7=.ptr t1.n 0:=(s9 7 (by simp)).trans (by simp only [find_cons,Env.find_set,l57,reduceIte,Nat.reduceEqDiff])
  clear s9
  have back:∀ c,c<w.n→c≠d→t9.h.get c=w.h.get c:=fun c hc hcd=>by
   rw [go9.same c (by omega) hcd (by omega),back8 c (by omega) hcd,go5.same c (by omega) hcd (by omega),st4.same c (by omega) hcd,go3.same c (by omega) hcd (by omega),st2.same c (by omega) hcd,yg c (by omega)]
   exact st1.same c hc hcd
  have p90:t9.h.get u.n=some (.cells [.int .i64 0,.int .i64 0,.nilslice,.nilslice,.nilslice] (tag 31)):=(back u.n (by omega) (by omega)).trans w0
  obtain ⟨ok1,c1,sc1⟩:=rb3.scalar
  obtain ⟨ok2,c2,sc2⟩:=rf5.scalar
  obtain ⟨ok3,c3,sc3⟩:=rr9.scalar
  have sc:scalars [v1,v2,v3]=true:=by rw [sc1,sc2,sc3];rfl
  simp (disch:=first|omega|(with_unfolding_all exact rfl)|(simp only[new_n,put_n,new_m];omega)|(refine put_m_le ?_;simp only[new_m];omega)) only [res5,K5r0,K5r1,K5r2,K5r3,K5r4,K5r5,K5r6,K5r7,K5r8,K5r9,K5r10,K5r11,K5r12s7,K5r12s6,K5r12s5,K5r12s4,K5r12,K5r13,K5r14,K5r15,K5r16,K5r17,K5r18,K5r19,K5r20,K5r21,K5r22,K5r23,K5,Abs.W,reduceIte,Nat.reduceEqDiff,Nat.reduceAdd,decide_true,decide_false,kLoop_def,Nat.reduceSub,List.cons_append,List.nil_append,List.append_nil,List.length_cons,List.length_nil,Env.find_set,l96,l97,p9,p90,sc1,sc2,sc3,scal_nil,Nat.zero_add]
  have hpl:plain (.agg [.int .i64 a,.int .i64 b,v1,v2,v3])=false:=by
   rcases rr9.is with ⟨h,_⟩ | ⟨b3,_,_,h3,_⟩
   ·rw [List.map_eq_nil_iff] at h;subst h;simp at rsl;omega
   ·subst h3
    rcases rb3.is with ⟨_,h1⟩ | ⟨b1,_,_,h1,_⟩<;>rcases rf5.is with ⟨_,h2⟩ | ⟨b2,_,_,h2,_⟩<;>subst h1<;>subst h2<;>rfl
  refine ⟨.agg [.int .i64 a,.int .i64 b,v1,v2,v3],_,leave_cell _ _ _ _ sh ?_,⟨fun c hc hcd=>?_,?_,?_,fun hm=>?_,?_⟩,hpl,⟨a,b,bs,fs,rs⟩,v1,v2,v3,rfl,?_,?_,?_,?_,?_⟩
  ·rw [l96]
   simp (disch:=first|omega|(with_unfolding_all exact rfl)|(simp only[new_n,put_n,new_m];omega)|(refine put_m_le ?_;simp only[new_m];omega)) only [Abs.W,reduceIte,Nat.reduceEqDiff,Nat.reduceAdd,decide_true,decide_false,kLoop_def,Nat.reduceSub,List.cons_append,List.nil_append,List.append_nil,List.length_cons,List.length_nil,okA_agg]
  ·rw [get_put_ne' _ _ _ _ (by omega),back c (by omega) hcd,wg c hc]
  ·simp only [put_n];omega
  ·simp only [put_n];omega
  ·have h1:=st1.m (by omega)
   have h2:=st2.m (by omega)
   have h3:=go3.m h2
   have h4:=st4.m h3
   have h5:=go5.m h4
   have h6:=st6.m h5
   have h7:=st7.m h6
   have h8:=st8.m h7
   have h9:=go9.m h8
   simp only [St.put,minN_eq];omega
  ·have h1:=st1.mle
   have h2:=st2.mle
   have h3:=go3.mle
   have h4:=st4.mle
   have h5:=go5.mle
   have h6:=st6.mle
   have h7:=st7.mle
   have h8:=st8.mle
   have h9:=go9.mle
   simp only [St.put,minN_eq];omega
  ·obtain ⟨f,hg⟩:=d9
   exact ⟨f,by rw [get_put_ne' _ _ _ _ (by omega)];exact hg⟩
  ·exact ⟨⟨by show -300≤a;omega,a1,by show b≤400;omega,by show bs.length≤6;omega,fun b hb=>(bsok b hb).1,by show fs.length≤20;omega,fsok,fso,by show 1≤rs.length;omega,by show rs.length≤6;omega,rsok,rso⟩,a0,a2,by show bs.length≤xb;omega,by show fs.length≤xf;omega,fun b hb=>(bsok b hb).2⟩
  ·exact rows_lower (rb3.mono (fun c hc hcn=>by
    rw [get_put_ne' _ _ _ _ (by omega),go9.same c (by omega) (by omega) (by omega),back8 c (by omega) (by omega),go5.same c (by omega) (by omega) (by omega),st4.same c (by omega) (by omega)]) (by simp only [put_n];omega)) (by omega)
  ·exact rows_lower (rf5.mono (fun c hc hcn=>by
    rw [get_put_ne' _ _ _ _ (by omega),go9.same c (by omega) (by omega) (by omega),back8 c (by omega) (by omega)]) (by simp only [put_n];omega)) (by omega)
  ·exact rows_lower (rr9.mono (fun c hc hcn=>by rw [get_put_ne' _ _ _ _ (by omega)]) (by simp only [put_n];omega)) (by omega)) (by omega)
 exact ⟨c,v1,v2,v3,t,hr.symm.trans e,st,hd',ok,hC⟩
end Go.Proofs.Ytlfalcghhckanaa.walk
set_option maxRecDepth 10000
namespace Go.Proofs.Ytlfalcghhckanaa.walk
open Go.Abs Go.Proofs.Ytlfalcghhckanaa.code
theorem free_snoc {born keeps:Int} {ts:List Stay} {T:Stay} (h:∀ i (hi:i<ts.length),(⟨born,keeps,ts⟩:Lot).free i≤(ts[i]).fro) (hf:(⟨born,keeps,ts⟩:Lot).free ts.length≤T.fro) :
  ∀ i (hi:i<(ts++[T]).length),(⟨born,keeps,ts++[T]⟩:Lot).free i≤((ts++[T])[i]).fro:=by
 intro i hi
 have hb:(⟨born,keeps,ts++[T]⟩:Lot).free i=(⟨born,keeps,ts⟩:Lot).free i:=by
  cases i with
  | zero=>rfl
  | succ i =>
   rw [List.length_append,List.length_singleton] at hi
   simp only [Lot.free,List.getElem?_append_left (show i<ts.length by omega)]
 rw [hb]
 by_cases e:i<ts.length
 ·rw [List.getElem_append_left e];exact h i e
 ·have:i=ts.length:=by rw [List.length_append,List.length_singleton] at hi;omega
  subst this
  rw [List.getElem_append_right (Nat.le_refl _)]
  simpa using hf
theorem free_last (born keeps:Int) (ts:List Stay) (T:Stay):(⟨born,keeps,ts++[T]⟩:Lot).free (ts++[T]).length=T.to:=by
 rw [List.length_append,List.length_singleton]
 unfold Lot.free
 simp
theorem lot_round (N:Nat) (hN:4≤N) (cx:Ctx) (d p4 p7 lo i k:Nat) (hl hh born keeps fr:Int) (v1 v2 v3 v:AV) (ts:List Stay) (L:Env) (s:St) (hi:0<i) (hi6:i≤10) (hd:Die d s.h) (hdp:d<p4) (hp4:p4<p7) (hp7:p7<lo) (hlo:lo≤s.n) (hs:s.n+1000≤far)
  (hk:0<k∧k≤10) (len1:∀ s,lenSlA s v1=.val (.int .i64 k) s) (ok1:∀ t,okA (.val v1 t)=.val v1 t)
  (g4:s.h.get p4=some (.cells [.int .i64 hl,.int .i64 hh,v1,v2,v3] (tag 31)))
  (g7:s.h.get p7=some (.cells [.int .i64 born,.int .i64 keeps,v] (tag 35))) (hR:Abs.Rows s.h lo s.n 3 (tag 66) (ts.map Stay.cells) v) (htl:ts.length≤10) (hfr:0≤fr∧fr≤1000)
  (l0:L.find 0=.ptr d 0) (l4:L.find 4=.ptr p4 0) (l7:L.find 7=.ptr p7 0) (l8:L.find 8=.int .i64 fr) (l9:L.find 9=.int .i64 i) :
  ∃ (L1:Env) (s1:St) (T:Stay) (v':AV),K6l0 (call Try.prog X N) cx L [] s=.done .norm L1 [] s1∧(∀ t,t=0∨t=4∨t=6∨t=7→L1.find t=L.find t)∧L1.find 8=.int .i64 T.to∧L1.find 9=.int .i64 ((i:Int) - 1)∧(fr≤T.fro∧T.fro≤fr+2)∧(T.fro<T.to∧T.to≤T.fro+8)∧(0≤T.box∧T.box<k)∧Die d s1.h ∧
   s1.h.get p7=some (.cells [.int .i64 born,.int .i64 keeps,v'] (tag 35))∧Abs.Rows s1.h lo s1.n 3 (tag 66) ((ts++[T]).map Stay.cells) v'∧Going d p7 lo s s1 20:=by
 have hff:far=1000000000:=rfl
 have e0:decide ((0:Int)<(i:Int))=true:=by simp;omega
 have e1:decide ((0:Int)<(k:Int))=true:=by simp;omega
 obtain ⟨ok2,c2,sc2⟩:=hR.scalar
 simp (disch:=first|omega|(with_unfolding_all exact rfl)|(simp only[new_n,put_n,new_m];omega)|(refine put_m_le ?_;simp only[new_m];omega)) only [res6,K6r0,K6r1,K6r2,K6r3,K6r4s7,K6r4s6,K6r4s5,K6r4s4,K6r4,K6r5,K6r6,K6r7,K6r8,K6r9,K6l0,K6r10,K6,Abs.W,reduceIte,Nat.reduceEqDiff,Nat.reduceAdd,decide_true,decide_false,kLoop_def,Nat.reduceSub,List.cons_append,List.nil_append,List.append_nil,List.length_cons,List.length_nil,Env.find_set,l0,l4,l7,l8,l9,e0,e1,g4,ok1,len1,gtrA_i64,pickA_true,Nat.reduceAdd,Nat.zero_add]
 generalize hc1:call _ _ _ (.fn 8) _ _=r1
 obtain ⟨x1,t1,rfl,st1,d1,x10,x11⟩:=cast_ex hc1 (by omega) hd (by omega) (by omega) (by omega)
 have n1:s.n≤t1.n:=st1.n
 have k1:t1.n≤s.n:=st1.le
 simp (disch:=first|omega|(with_unfolding_all exact rfl)|(simp only[new_n,put_n,new_m];omega)|(refine put_m_le ?_;simp only[new_m];omega)) only [res6,K6r0,K6r1,K6r2,K6r3,K6r4s7,K6r4s6,K6r4s5,K6r4s4,K6r4,K6r5,K6r6,K6r7,K6r8,K6r9,K6l0,K6r10,K6,Abs.W,reduceIte,Nat.reduceEqDiff,Nat.reduceAdd,decide_true,decide_false,kLoop_def,Nat.reduceSub,List.cons_append,List.nil_append,List.append_nil,List.length_cons,List.length_nil,Env.find_set,l0,l4,l7,l8,l9]
 generalize hc2:call _ _ _ (.fn 8) _ _=r2
 obtain ⟨x2,t2,rfl,st2,d2,x20,x21⟩:=cast_ex hc2 (by omega) d1 (by omega) (by omega) (by omega)
 have n2:t1.n≤t2.n:=st2.n
 have k2:t2.n≤t1.n:=st2.le
 simp (disch:=first|omega|(with_unfolding_all exact rfl)|(simp only[new_n,put_n,new_m];omega)|(refine put_m_le ?_;simp only[new_m];omega)) only [res6,K6r0,K6r1,K6r2,K6r3,K6r4s7,K6r4s6,K6r4s5,K6r4s4,K6r4,K6r5,K6r6,K6r7,K6r8,K6r9,K6l0,K6r10,K6,Abs.W,reduceIte,Nat.reduceEqDiff,Nat.reduceAdd,decide_true,decide_false,kLoop_def,Nat.reduceSub,List.cons_append,List.nil_append,List.append_nil,List.length_cons,List.length_nil,Env.find_set,l0,l4,l7,l8,l9]
 generalize hc3:call _ _ _ (.fn 20) _ _=r3
 obtain ⟨x3,t3,rfl,st3,d3,m3⟩:=one_ex [0,x2] hc3 (by omega) (d2.new (by omega) _) (by simp only [new_n];omega) (by simp only [new_n];omega) (get_new_eq _ _ _ rfl (by omega)) (by simp only [new_n];omega) (by omega) rfl (by omega) (by omega)
 have x3r:x3=0∨x3=x2:=by simpa using m3
 have n3:t2.n+1≤t3.n:=st3.n
 have k3:t3.n≤t2.n+1:=st3.le
 have a3:∀ s,aAdd s .i64 fr x3=.val (.int .i64 (fr+x3)) s:=fun s=>aAdd_i64 s _ _ (by omega)
 simp (disch:=first|omega|(with_unfolding_all exact rfl)|(simp only[new_n,put_n,new_m];omega)|(refine put_m_le ?_;simp only[new_m];omega)) only [res6,K6r0,K6r1,K6r2,K6r3,K6r4s7,K6r4s6,K6r4s5,K6r4s4,K6r4,K6r5,K6r6,K6r7,K6r8,K6r9,K6l0,K6r10,K6,Abs.W,reduceIte,Nat.reduceEqDiff,Nat.reduceAdd,decide_true,decide_false,kLoop_def,Nat.reduceSub,List.cons_append,List.nil_append,List.append_nil,List.length_cons,List.length_nil,Env.find_set,l0,l4,l7,l8,l9,a3]
 obtain ⟨y,hy⟩:∃ y:St,y=(t3.new (.cells [.int .i64 0,.int .i64 0,.int .i64 0] (tag 66))).put t3.n (.cells [.int .i64 x1,.int .i64 (fr+x3),.int .i64 0] (tag 66)):=⟨_,rfl⟩
 rw [← hy]
 have yn:y.n=t3.n+1:=by rw [hy];rfl
 have ym:y.m=min t3.m t3.n:=by rw [hy];simp only [St.put,minN_eq,new_m]
 have yg:∀ c,c≠t3.n→y.h.get c=t3.h.get c:=fun c hc=>by rw [hy,get_put_ne' _ _ _ _ hc,get_new_ne _ _ _ hc]
 have yp:y.h.get t3.n=some (.cells [.int .i64 x1,.int .i64 (fr+x3),.int .i64 0] (tag 66)):=by rw [hy];exact get_put_eq _ _ _ _ rfl (by omega)
 have dy:Die d y.h:=by obtain ⟨f,hf'⟩:=d3;exact ⟨f,by rw [yg _ (by omega)];exact hf'⟩
 generalize hc4:call _ _ _ (.fn 19) _ _=r4
 obtain ⟨x4,t4,rfl,st4,d4,x40,x41⟩:=from_ex hc4 (by omega) dy (by show d<y.n;omega) (by show y.n+200≤far;omega) (by omega) (by omega) (by omega) (by omega)
 have n4:y.n≤t4.n:=st4.n
 have k4:t4.n≤y.n:=st4.le
 have p4':t4.h.get t3.n=some (.cells [.int .i64 x1,.int .i64 (fr+x3),.int .i64 0] (tag 66)):=(st4.same t3.n (by show t3.n<y.n;omega) (by omega)).trans yp
 have a4:∀ s,aAdd s .i64 (fr+x3) x4=.val (.int .i64 (fr+x3+x4)) s:=fun s=>aAdd_i64 s _ _ (by omega)
 simp (disch:=first|omega|(with_unfolding_all exact rfl)|(simp only[new_n,put_n,new_m];omega)|(refine put_m_le ?_;simp only[new_m];omega)) only [res6,K6r0,K6r1,K6r2,K6r3,K6r4s7,K6r4s6,K6r4s5,K6r4s4,K6r4,K6r5,K6r6,K6r7,K6r8,K6r9,K6l0,K6r10,K6,Abs.W,reduceIte,Nat.reduceEqDiff,Nat.reduceAdd,decide_true,decide_false,kLoop_def,Nat.reduceSub,List.cons_append,List.nil_append,List.append_nil,List.length_cons,List.length_nil,Env.find_set,l0,l4,l7,l8,l9,thenT_turn,p4',a4,Nat.reduceAdd,Nat.zero_add]
 rw [endT_kept (by simp only [keptAll_cons,keptAll_nil,find_cons,keptV_ptr,yp,p4',sameO_cells,reduceIte,Nat.reduceEqDiff,Bool.and_self])]
 obtain ⟨z,hz⟩:∃ z:St,z=(⟨t4.h,t4.n,minN y.m t4.m⟩:St).put t3.n (.cells [.int .i64 x1,.int .i64 (fr+x3),.int .i64 (fr+x3+x4)] (tag 66)):=⟨_,rfl⟩
 rw [← hz]
 have zn:z.n=t4.n:=by rw [hz];rfl
 have zm:z.m=min (min y.m t4.m) t3.n:=by rw [hz];simp only [St.put,minN_eq]
 have zg:∀ c,c≠t3.n→z.h.get c=t4.h.get c:=fun c hc=>by rw [hz,get_put_ne' _ _ _ _ hc]
 have zp:z.h.get t3.n=some (.cells [.int .i64 x1,.int .i64 (fr+x3),.int .i64 (fr+x3+x4)] (tag 66)):=by rw [hz];exact get_put_eq _ _ _ _ rfl (by show t3.n<_;omega)
 have dz:Die d z.h:=by obtain ⟨f,hf'⟩:=d4;exact ⟨f,by rw [zg _ (by omega)];exact hf'⟩
 have back:∀ c,c<s.n→c≠d→z.h.get c=s.h.get c:=fun c hc hcd=>by
  rw [zg c (by omega),st4.same c (by show c<y.n;omega) hcd]
  show y.h.get c=_
  rw [yg c (by omega),st3.same c (by simp only [new_n];omega) hcd,get_new_ne _ _ _ (by omega),st2.same c (by omega) hcd,st1.same c hc hcd]
 have gz7:=(back p7 (by omega) (by omega)).trans g7
 obtain ⟨T,hT⟩:∃ T:Stay,T=⟨x1,fr+x3,fr+x3+x4⟩:=⟨_,rfl⟩
 have hR3:Abs.Rows (z.new (.cells [.int .i64 x1,.int .i64 (fr+x3),.int .i64 (fr+x3+x4)] 0)).h lo (z.new (.cells [.int .i64 x1,.int .i64 (fr+x3),.int .i64 (fr+x3+x4)] 0)).n 3 (tag 66) (ts.map Stay.cells) v:=hR.mono (fun c hc hcn=>by rw [get_new_ne _ _ _ (by omega)];exact back c hcn (by omega)) (by simp only [new_n];omega)
 obtain ⟨v',s8,e8,r8,n8,low8,mid8,m8,mm8,_⟩:=append_row (bytes:=24) (row:=[.int .i64 x1,.int .i64 (fr+x3),.int .i64 (fr+x3+x4)]) hR3 (get_new_eq _ _ _ rfl (by omega)) rfl rfl (by rw [List.length_map];omega) (by kernel_rfl) (by simp only [new_n];omega) (by simp only [new_n];omega)
 obtain ⟨ok8,c8,sc8⟩:=r8.scalar
 have sn8:scalars [v']=true:=by rw [sc8];rfl
 simp only [new_n] at n8
 have g78:s8.h.get p7=some (.cells [.int .i64 born,.int .i64 keeps,v] (tag 35)):=by rw [low8 p7 hp7,get_new_ne _ _ _ (by omega)];exact gz7
 have g8t:s8.h.get t3.n=some (.cells [.int .i64 x1,.int .i64 (fr+x3),.int .i64 (fr+x3+x4)] (tag 66)):=by
  rw [mid8 t3.n (by simp only [new_n];omega) (by
   rcases hR.is with ⟨_,h⟩ | ⟨b,_,hb,h,_⟩
   ·rw [h];exact fun h=>nomatch h
   ·rw [h];intro h;injection h;omega),get_new_ne _ _ _ (by omega)]
  exact zp
 have a8:∀ s,aSub s .i64 (i:Int) 1=.val (.int .i64 ((i:Int) - 1)) s:=fun s=>aSub_i64 s _ _ (by omega)
 simp (disch:=first|omega|(with_unfolding_all exact rfl)|(simp only[new_n,put_n,new_m];omega)|(refine put_m_le ?_;simp only[new_m];omega)) only [res6,K6r0,K6r1,K6r2,K6r3,K6r4s7,K6r4s6,K6r4s5,K6r4s4,K6r4,K6r5,K6r6,K6r7,K6r8,K6r9,K6l0,K6r10,K6,Abs.W,reduceIte,Nat.reduceEqDiff,Nat.reduceAdd,decide_true,decide_false,kLoop_def,Nat.reduceSub,List.cons_append,List.nil_append,List.append_nil,List.length_cons,List.length_nil,Env.find_set,l0,l4,l7,l8,l9,endO_nil,regD_ok,gz7,ok2,zp,e8,g78,g8t,c8,sn8,a8,Nat.reduceAdd,Nat.zero_add]
 refine ⟨_,_,T,v',rfl,fun t ht=>?_,by rw [hT];simp only [Env.find_set,reduceIte,Nat.reduceEqDiff],by simp only [Env.find_set,reduceIte,Nat.reduceEqDiff],by rw [hT];simp only;omega,by rw [hT];simp only;omega,by rw [hT];simp only;omega,?_,get_put_eq _ _ _ _ rfl (by omega),?_,⟨fun c hc hcd hcp=>?_,?_,?_,fun hm=>?_,?_⟩⟩
 ·rcases ht with rfl | rfl | rfl | rfl<;>simp only [Env.find_set,reduceIte,Nat.reduceEqDiff]
 ·obtain ⟨f,hf'⟩:=dz
  exact ⟨f,by rw [get_put_ne' _ _ _ _ (by omega),low8 d (by omega),get_new_ne _ _ _ (by omega)];exact hf'⟩
 ·rw [List.map_append,hT]
  exact r8.mono (fun c hc _=>get_put_ne' _ _ _ _ (by omega)) (Nat.le_refl _)
 ·rw [get_put_ne' _ _ _ _ hcp,low8 c hc,get_new_ne _ _ _ (by omega)];exact back c (by omega) hcd
 ·simp only [put_n];omega
 ·simp only [put_n];omega
 ·have h1:=st1.m hm
  have h2:=st2.m h1
  have h3:=st3.m (by rw [new_m];exact h2)
  have h4:d≤t4.m:=st4.m (show d≤far by omega)
  have h8:=m8 d (by omega) (by rw [new_m];omega)
  simp only [St.put,minN_eq];omega
 ·have h1:=st1.mle
  have h2:=st2.mle
  have h3:=st3.mle
  rw [new_m] at h3 mm8
  simp only [St.put,minN_eq];omega
end Go.Proofs.Ytlfalcghhckanaa.walk
set_option maxRecDepth 10000
namespace Go.Proofs.Ytlfalcghhckanaa.walk
open Go.Abs Go.Proofs.Ytlfalcghhckanaa.code
theorem lot_loop {N:Nat} {r:R} {L:Env} {s:St} {cx:Ctx} {d p4 p7 k:Nat} {hl hh born keeps:Int} {v1 v2 v3:AV} (M:Nat) (hr:loopN K6l0 rounds (call Try.prog X N) cx L [] s=r) (hN:4≤N) (hM:M≤8) (hd:Die d s.h) (hdp:d<p4) (hp4:p4<p7) (hpn:p7<s.n) (hs:s.n+2000≤far)
  (hk:k≤10) (len1:∀ s,lenSlA s v1=.val (.int .i64 k) s) (ok1:∀ t,okA (.val v1 t)=.val v1 t) (hb:0≤born∧born≤20)
  (g4:s.h.get p4=some (.cells [.int .i64 hl,.int .i64 hh,v1,v2,v3] (tag 31)))
  (g7:s.h.get p7=some (.cells [.int .i64 born,.int .i64 keeps,.nilslice] (tag 35))) (l0:L.find 0=.ptr d 0) (l4:L.find 4=.ptr p4 0) (l7:L.find 7=.ptr p7 0) (l8:L.find 8=.int .i64 born) (l9:L.find 9=.int .i64 (M:Int)) :
  ∃ (L1:Env) (s1:St) (ts:List Stay) (v:AV),r=.done (.exit 0) L1 [] s1∧(∀ t,t=0∨t=4∨t=6∨t=7→L1.find t=L.find t)∧ts.length≤M∧(∀ t ∈ ts,t.Ok k)∧(∀ i (h:i<ts.length),(⟨born,keeps,ts⟩:Lot).free i≤(ts[i]).fro)∧Die d s1.h ∧
   s1.h.get p7=some (.cells [.int .i64 born,.int .i64 keeps,v] (tag 35))∧Abs.Rows s1.h s.n s1.n 3 (tag 66) (ts.map Stay.cells) v∧Going d p7 s.n s s1 (20 * M):=by
 have hf:far=1000000000:=rfl
 obtain ⟨e,L1,s1,rfl,rfl,ts,v,h⟩:=loop_of hr
  (fun i L' t=>∃ (ts:List Stay) (v:AV),ts.length=i∧(∀ t ∈ ts,t.Ok k)∧(∀ i (h:i<ts.length),(⟨born,keeps,ts⟩:Lot).free i≤(ts[i]).fro)∧(0≤(⟨born,keeps,ts⟩:Lot).free ts.length∧(⟨born,keeps,ts⟩:Lot).free ts.length≤20+10 * i)∧(∀ q,q=0∨q=4∨q=6∨q=7→L'.find q=L.find q)∧L'.find 8=.int .i64 ((⟨born,keeps,ts⟩:Lot).free ts.length)∧L'.find 9=.int .i64 ((M:Int) - i)∧Die d t.h ∧
   t.h.get p7=some (.cells [.int .i64 born,.int .i64 keeps,v] (tag 35))∧Abs.Rows t.h s.n t.n 3 (tag 66) (ts.map Stay.cells) v∧Going d p7 s.n s t (20 * i))
  (fun e L1 s1=>e=.exit 0∧∃ (ts:List Stay) (v:AV),(∀ t,t=0∨t=4∨t=6∨t=7→L1.find t=L.find t)∧ts.length≤M∧(∀ t ∈ ts,t.Ok k)∧(∀ i (h:i<ts.length),(⟨born,keeps,ts⟩:Lot).free i≤(ts[i]).fro)∧Die d s1.h ∧
   s1.h.get p7=some (.cells [.int .i64 born,.int .i64 keeps,v] (tag 35))∧Abs.Rows s1.h s.n s1.n 3 (tag 66) (ts.map Stay.cells) v∧Going d p7 s.n s s1 (20 * M))
  M (by unfold rounds;omega)
  ⟨[],.nilslice,rfl,fun B hB=>(by cases hB),fun i h=>absurd h (Nat.not_lt_zero _),⟨hb.1,by show born≤20+10 * ((0:Nat):Int);omega⟩,fun _ _=>rfl,by rw [l8];rfl,by rw [l9];simp,hd,g7,Abs.Rows.nil _ _ _ _ _,Going.refl _ _ _ _⟩
  (fun i L' t hi ⟨ts,v,q1,q2,qo,qb,q3,q4,q4',q5,q6,q7,q8⟩=>by
   have tn:=q8.n
   have tl:=q8.le
   have l0':=(q3 0 (by simp)).trans l0
   have l4':=(q3 4 (by simp)).trans l4
   have l7':=(q3 7 (by simp)).trans l7
   have g4':=(q8.same p4 (by omega) (by omega) (by omega)).trans g4
   by_cases hlt:i<M∧0<k
   ·obtain ⟨L1,s1,T,v',p0,p1,p2,p3,p4',p5,p6,p7',p8,p9,p10⟩:=lot_round N hN cx d p4 p7 s.n (M - i) k hl hh born keeps ((⟨born,keeps,ts⟩:Lot).free ts.length) v1 v2 v3 v ts L' t (by omega) (by omega) q5 hdp hp4 hpn (by omega) (by omega) ⟨hlt.2,hk⟩ len1 ok1 g4' q6 q7 (by omega) ⟨qb.1,by omega⟩ l0' l4' l7' q4 (by rw [q4'];congr 1;omega)
    have hl:(⟨born,keeps,ts++[T]⟩:Lot).free (ts++[T]).length=T.to:=free_last born keeps ts T
    refine .inl ⟨hlt.1,L1,s1,p0,ts++[T],v',by rw [List.length_append,q1];rfl,fun f hf'=>?_,free_snoc qo p4'.1,by rw [hl];omega,fun q hq=>(p1 q hq).trans (q3 q hq),by rw [hl];exact p2,by rw [p3];congr 1;omega,p7',p8,p9,q8.trans p10 (Nat.le_refl _) (by omega)⟩
    rcases List.mem_append.mp hf' with h | h
    ·exact q2 f h
    ·rw [List.mem_singleton.mp h];exact ⟨p6.1,p6.2,by omega,p5.1,by omega⟩
   ·refine .inr ⟨.exit 0,L'.set 34 (.bool false),t,by simp,?_,rfl,ts,v,fun q hq=>?_,by omega,q2,qo,q5,q6,q7,q8.trans (Going.refl _ _ _ _) (Nat.le_refl _) (by omega)⟩
    ·by_cases hX0:i<M
     ·have e0:decide ((0:Int)<(M:Int) - i)=true:=by simp;omega
      have e1:decide ((0:Int)<(k:Int))=false:=by rw [show k=0 by omega];rfl
      simp (disch:=first|omega|(with_unfolding_all exact rfl)|(simp only[new_n,put_n,new_m];omega)|(refine put_m_le ?_;simp only[new_m];omega)) only [res6,K6r0,K6r1,K6r2,K6r3,K6r4s7,K6r4s6,K6r4s5,K6r4s4,K6r4,K6r5,K6r6,K6r7,K6r8,K6r9,K6l0,K6r10,K6,Abs.W,reduceIte,Nat.reduceEqDiff,Nat.reduceAdd,decide_true,decide_false,kLoop_def,Nat.reduceSub,List.cons_append,List.nil_append,List.append_nil,List.length_cons,List.length_nil,Env.find_set,l4',q4',g4',ok1,len1,e0,e1,Nat.zero_add]
     ·have e0:decide ((0:Int)<(M:Int) - i)=false:=by simp;omega
      simp (disch:=first|omega|(with_unfolding_all exact rfl)|(simp only[new_n,put_n,new_m];omega)|(refine put_m_le ?_;simp only[new_m];omega)) only [res6,K6r0,K6r1,K6r2,K6r3,K6r4s7,K6r4s6,K6r4s5,K6r4s4,K6r4,K6r5,K6r6,K6r7,K6r8,K6r9,K6l0,K6r10,K6,Abs.W,reduceIte,Nat.reduceEqDiff,Nat.reduceAdd,decide_true,decide_false,kLoop_def,Nat.reduceSub,List.cons_append,List.nil_append,List.append_nil,List.length_cons,List.length_nil,Env.find_set,l4',q4',g4',ok1,len1,e0,Nat.zero_add]
    ·rw [← q3 q hq]
     rcases hq with rfl | rfl | rfl | rfl<;>simp only [Env.find_set,reduceIte,Nat.reduceEqDiff])
 exact ⟨L1,s1,ts,v,rfl,h⟩
theorem LotOf_ex {N d k:Nat} {s:St} {r:ARes} {hl hh:Int} {v1 v2 v3:AV} (xs:Nat) (hr:call Try.prog X N (.fn 6) [.ptr d 0,.agg [.int .i64 hl,.int .i64 hh,v1,v2,v3],.int .i64 xs] s=r) (hN:6≤N) (hx:xs≤8) (hd:Die d s.h) (hdn:d<s.n) (hs:s.n+5000≤far)
  (hk:k≤10) (len1:∀ s,lenSlA s v1=.val (.int .i64 k) s) (ok1:∀ t,okA (.val v1 t)=.val v1 t) :
  ∃ (l:Lot) (v4:AV) (t:St),r=.val (.agg [.int .i64 l.born,.int .i64 l.keeps,v4]) t∧Stir d s t 1000∧Die d t.h∧l.Ok k∧l.born≤9∧Abs.Rows t.h (s.n+1) t.n 3 (tag 66) (l.stays.map Stay.cells) v4:=by
 obtain ⟨n,rfl⟩:∃ n,N=n+1:=⟨N - 1,by omega⟩
 have hff:far=1000000000:=rfl
 have hd0:=hd
 obtain ⟨v,t,m,e,⟨l,v4,rfl,hd',ok,b9,hC,fr,hn,hle,hdm,hmf⟩,hm⟩:=call_any (n:=n) (args:=[.ptr d 0,.agg [.int .i64 hl,.int .i64 hh,v1,v2,v3],.int .i64 xs]) (s:=s)
  (Q:=fun v h n m=>∃ (l:Lot) (v4:AV),v=.agg [.int .i64 l.born,.int .i64 l.keeps,v4]∧Die d h∧l.Ok k∧l.born≤9∧Abs.Rows h (s.n+1) n 3 (tag 66) (l.stays.map Stay.cells) v4∧(∀ c,c<s.n→c≠d→h.get c=s.h.get c)∧s.n≤n∧n≤s.n+1000∧d≤m∧m≤far) Try.func6 rfl (fun u uh un um=>by
  rw [← uh] at hd
  rw [← un,← uh]
  have sh:shapeT Try.prog 35=some (some 3):=by kernel_rfl
  rw [enter6]
  have nn1:∀ o,(u.new o).n=u.n+1:=fun _=>rfl
  simp (disch:=first|omega|(with_unfolding_all exact rfl)|(simp only[new_n,put_n,new_m];omega)|(refine put_m_le ?_;simp only[new_m];omega)) only [res6,K6r0,K6r1,K6r2,K6r3,K6r4s7,K6r4s6,K6r4s5,K6r4s4,K6r4,K6r5,K6r6,K6r7,K6r8,K6r9,K6r10,K6,Abs.W,reduceIte,Nat.reduceEqDiff,Nat.reduceAdd,decide_true,decide_false,kLoop_def,Nat.reduceSub,List.cons_append,List.nil_append,List.append_nil,List.length_cons,List.length_nil,nn1]
  obtain ⟨w,hw⟩:∃ w:St,w=(u.new (.cells [.int .i64 hl,.int .i64 hh,v1,v2,v3] (tag 31))).new (.cells [.int .i64 0,.int .i64 0,.nilslice] (tag 35)):=⟨_,rfl⟩
  rw [← hw]
  have wn:w.n=u.n+2:=by rw [hw];rfl
  have wm:w.m=far:=by rw [hw];exact um
  have wg:∀ c,c<u.n→w.h.get c=u.h.get c:=fun c hc=>by rw [hw,get_new_ne _ _ _ (by simp only [new_n];omega),get_new_ne _ _ _ (by omega)]
  have w0:w.h.get u.n=some (.cells [.int .i64 hl,.int .i64 hh,v1,v2,v3] (tag 31)):=by
   rw [hw,get_new_ne _ _ _ (by simp only [new_n];omega)];exact get_new_eq _ _ _ rfl (by omega)
  have w1:w.h.get (u.n+1)=some (.cells [.int .i64 0,.int .i64 0,.nilslice] (tag 35)):=by rw [hw];exact get_new_eq _ _ _ rfl (by simp only [new_n];omega)
  have dw:Die d w.h:=by obtain ⟨f,hg⟩:=hd;exact ⟨f,by rw [wg _ (by omega)];exact hg⟩
  generalize hc1:call _ _ _ (.fn 8) _ _=r1
  obtain ⟨x1,t1,rfl,st1,d1,x10,x11⟩:=cast_ex hc1 (by omega) dw (by omega) (by omega) (by omega)
  have n1:w.n≤t1.n:=st1.n
  have k1:t1.n≤w.n:=st1.le
  simp (disch:=first|omega|(with_unfolding_all exact rfl)|(simp only[new_n,put_n,new_m];omega)|(refine put_m_le ?_;simp only[new_m];omega)) only [res6,K6r0,K6r1,K6r2,K6r3,K6r4s7,K6r4s6,K6r4s5,K6r4s4,K6r4,K6r5,K6r6,K6r7,K6r8,K6r9,K6r10,K6,Abs.W,reduceIte,Nat.reduceEqDiff,Nat.reduceAdd,decide_true,decide_false,kLoop_def,Nat.reduceSub,List.cons_append,List.nil_append,List.append_nil,List.length_cons,List.length_nil,Env.find_set]
  generalize hc2:call _ _ _ (.fn 8) _ _=r2
  obtain ⟨x2,t2,rfl,st2,d2,x20,x21⟩:=cast_ex hc2 (by omega) d1 (by omega) (by omega) (by omega)
  have n2:t1.n≤t2.n:=st2.n
  have k2:t2.n≤t1.n:=st2.le
  simp (disch:=first|omega|(with_unfolding_all exact rfl)|(simp only[new_n,put_n,new_m];omega)|(refine put_m_le ?_;simp only[new_m];omega)) only [res6,K6r0,K6r1,K6r2,K6r3,K6r4s7,K6r4s6,K6r4s5,K6r4s4,K6r4,K6r5,K6r6,K6r7,K6r8,K6r9,K6r10,K6,Abs.W,reduceIte,Nat.reduceEqDiff,Nat.reduceAdd,decide_true,decide_false,kLoop_def,Nat.reduceSub,List.cons_append,List.nil_append,List.append_nil,List.length_cons,List.length_nil,Env.find_set]
  generalize hc3:call _ _ _ (.fn 8) _ _=r3
  obtain ⟨x3,t3,rfl,st3,d3,x30,x31⟩:=cast_ex hc3 (by omega) d2 (by omega) (by omega) (by omega)
  have n3:t2.n≤t3.n:=st3.n
  have k3:t3.n≤t2.n:=st3.le
  simp (disch:=first|omega|(with_unfolding_all exact rfl)|(simp only[new_n,put_n,new_m];omega)|(refine put_m_le ?_;simp only[new_m];omega)) only [res6,K6r0,K6r1,K6r2,K6r3,K6r4s7,K6r4s6,K6r4s5,K6r4s4,K6r4,K6r5,K6r6,K6r7,K6r8,K6r9,K6r10,K6,Abs.W,reduceIte,Nat.reduceEqDiff,Nat.reduceAdd,decide_true,decide_false,kLoop_def,Nat.reduceSub,List.cons_append,List.nil_append,List.append_nil,List.length_cons,List.length_nil,Env.find_set]
  generalize hc4:call _ _ _ (.fn 20) _ _=r4
  obtain ⟨x4,t4,rfl,st4,d4,m4⟩:=one_ex [0,x2,x3] hc4 (by omega) (d3.new (by omega) _) (by simp only [new_n];omega) (by simp only [new_n];omega) (get_new_eq _ _ _ rfl (by omega)) (by simp only [new_n];omega) (by omega) rfl (by omega) (by omega)
  have x4r:x4=0∨x4=x2∨x4=x3:=by simpa using m4
  have n4:t3.n+1≤t4.n:=st4.n
  have k4:t4.n≤t3.n+1:=st4.le
  have b4:∀ c,c<w.n→c≠d→t4.h.get c=w.h.get c:=fun c hc hcd=>by
   rw [st4.same c (by simp only [new_n];omega) hcd,get_new_ne _ _ _ (by omega),st3.same c (by omega) hcd,st2.same c (by omega) hcd,st1.same c hc hcd]
  simp (disch:=first|omega|(with_unfolding_all exact rfl)|(simp only[new_n,put_n,new_m];omega)|(refine put_m_le ?_;simp only[new_m];omega)) only [res6,K6r0,K6r1,K6r2,K6r3,K6r4s7,K6r4s6,K6r4s5,K6r4s4,K6r4,K6r5,K6r6,K6r7,K6r8,K6r9,K6r10,K6,Abs.W,reduceIte,Nat.reduceEqDiff,Nat.reduceAdd,decide_true,decide_false,kLoop_def,Nat.reduceSub,List.cons_append,List.nil_append,List.append_nil,List.length_cons,List.length_nil,Env.find_set]
  obtain ⟨y,hy⟩:∃ y:St,y=(t4.new (.cells [.int .i64 0,.int .i64 0,.nilslice] (tag 35))).put t4.n (.cells [.int .i64 x1,.int .i64 x4,.nilslice] (tag 35)):=⟨_,rfl⟩
  rw [← hy]
  have yn:y.n=t4.n+1:=by rw [hy];rfl
  have ym:y.m=min t4.m t4.n:=by rw [hy];simp only [St.put,minN_eq,new_m]
  have yg:∀ c,c≠t4.n→y.h.get c=t4.h.get c:=fun c hc=>by rw [hy,get_put_ne' _ _ _ _ hc,get_new_ne _ _ _ hc]
  have yp:y.h.get t4.n=some (.cells [.int .i64 x1,.int .i64 x4,.nilslice] (tag 35)):=by rw [hy];exact get_put_eq _ _ _ _ rfl (by omega)
  have dy:Die d y.h:=by obtain ⟨f,hg⟩:=d4;exact ⟨f,by rw [yg _ (by omega)];exact hg⟩
  have a5:∀ s,aAdd s .i64 (xs:Int) 1=.val (.int .i64 ((xs:Int)+1)) s:=fun s=>aAdd_i64 s _ _ (by omega)
  simp (disch:=first|omega|(with_unfolding_all exact rfl)|(simp only[new_n,put_n,new_m];omega)|(refine put_m_le ?_;simp only[new_m];omega)) only [res6,K6r0,K6r1,K6r2,K6r3,K6r4s7,K6r4s6,K6r4s5,K6r4s4,K6r4,K6r5,K6r6,K6r7,K6r8,K6r9,K6r10,K6,Abs.W,reduceIte,Nat.reduceEqDiff,Nat.reduceAdd,decide_true,decide_false,kLoop_def,Nat.reduceSub,List.cons_append,List.nil_append,List.append_nil,List.length_cons,List.length_nil,Env.find_set,yp,a5,Nat.zero_add,Nat.reduceAdd]
  generalize hc5:call _ _ _ (.fn 8) _ _=r5
  obtain ⟨x5,t5,rfl,st5,d5,x50,x51⟩:=cast_ex hc5 (by omega) dy (by omega) (by omega) (by omega)
  have n5:y.n≤t5.n:=st5.n
  have k5:t5.n≤y.n:=st5.le
  obtain ⟨M,hM⟩:∃ M:Nat,x5=(M:Int):=⟨x5.toNat,by omega⟩
  subst hM
  have p5:=(st5.same t4.n (by omega) (by omega)).trans yp
  have q5:t5.h.get u.n=some (.cells [.int .i64 hl,.int .i64 hh,v1,v2,v3] (tag 31)):=by
   rw [st5.same u.n (by omega) (by omega),yg u.n (by omega),b4 u.n (by omega) (by omega)];exact w0
  simp (disch:=first|omega|(with_unfolding_all exact rfl)|(simp only[new_n,put_n,new_m];omega)|(refine put_m_le ?_;simp only[new_m];omega)) only [res6,K6r0,K6r1,K6r2,K6r3,K6r4s7,K6r4s6,K6r4s5,K6r4s4,K6r4,K6r5,K6r6,K6r7,K6r8,K6r9,K6r10,K6,Abs.W,reduceIte,Nat.reduceEqDiff,Nat.reduceAdd,decide_true,decide_false,kLoop_def,Nat.reduceSub,List.cons_append,List.nil_append,List.append_nil,List.length_cons,List.length_nil,Env.find_set]
  generalize hl1:loopN K6l0 rounds _ _ _ _ _=q1
  obtain ⟨L6,t6,ts,v4,rfl,s6,tsl,tsok,tso,d6,p6,rt6,go6⟩:=lot_loop (k:=k) M hl1 (by omega) (by omega) d5 (show d<u.n by omega) (show u.n<t4.n by omega) (by omega) (by omega) hk len1 ok1 ⟨x10,by omega⟩ q5 p5 (by simp only [find_cons,Env.find_set,reduceIte,Nat.reduceEqDiff]) (by simp only [find_cons,Env.find_set,reduceIte,Nat.reduceEqDiff]) (by simp only [find_cons,Env.find_set,reduceIte,Nat.reduceEqDiff]) (by simp only [find_cons,Env.find_set,reduceIte,Nat.reduceEqDiff]) (by simp only [find_cons,Env.find_set,reduceIte,Nat.reduceEqDiff])
  have n6:=go6.n
  have k6:=go6.le
  have l66:L6.find 6=.ptr (u.n+1) 0:=(s6 6 (by simp)).trans (by simp only [find_cons,Env.find_set,reduceIte,Nat.reduceEqDiff])
  have l67:L6.find 7=.ptr t4.n 0:=(s6 7 (by simp)).trans (by simp only [find_cons,Env.find_set,reduceIte,Nat.reduceEqDiff])
  clear s6
  have back:∀ c,c<w.n→c≠d→t6.h.get c=w.h.get c:=fun c hc hcd=>by
   rw [go6.same c (by omega) hcd (by omega),st5.same c (by omega) hcd,yg c (by omega),b4 c hc hcd]
  have p61:=(back (u.n+1) (by omega) (by omega)).trans w1
  obtain ⟨ok4,c4,sc4⟩:=rt6.scalar
  simp (disch:=first|omega|(with_unfolding_all exact rfl)|(simp only[new_n,put_n,new_m];omega)|(refine put_m_le ?_;simp only[new_m];omega)) only [res6,K6r0,K6r1,K6r2,K6r3,K6r4s7,K6r4s6,K6r4s5,K6r4s4,K6r4,K6r5,K6r6,K6r7,K6r8,K6r9,K6r10,K6,Abs.W,reduceIte,Nat.reduceEqDiff,Nat.reduceAdd,decide_true,decide_false,kLoop_def,Nat.reduceSub,List.cons_append,List.nil_append,List.append_nil,List.length_cons,List.length_nil,Env.find_set,l66,l67,p6,p61,sc4,scal_nil,Nat.zero_add]
  have hmm:d≤min t6.m (u.n+1)∧min t6.m (u.n+1)≤far:=by
   have h1:=st1.m (by omega)
   have h2:=st2.m h1
   have h3:=st3.m h2
   have h4:=st4.m (by rw [new_m];exact h3)
   have h5:=st5.m (by omega)
   have h6:=go6.m h5
   omega
  refine ⟨.agg [.int .i64 x1,.int .i64 x4,v4],_,leave_cell _ _ _ _ sh ?_,⟨⟨x1,x4,ts⟩,v4,rfl,?_,?_,?_,?_,fun c hc hcd=>?_,?_,?_,?_⟩,fun hp _=>⟨⟨x1,x4,ts⟩,v4,rfl,hd,?_,?_,?_,fun c hc hcd=>trivial,Nat.le_refl _,by omega,?_⟩⟩
  ·rw [l66]
   simp (disch:=first|omega|(with_unfolding_all exact rfl)|(simp only[new_n,put_n,new_m];omega)|(refine put_m_le ?_;simp only[new_m];omega)) only [Abs.W,reduceIte,Nat.reduceEqDiff,Nat.reduceAdd,decide_true,decide_false,kLoop_def,Nat.reduceSub,List.cons_append,List.nil_append,List.append_nil,List.length_cons,List.length_nil,okA_agg]
  ·obtain ⟨f,hg⟩:=d6
   exact ⟨f,by rw [get_put_ne' _ _ _ _ (by omega)];exact hg⟩
  ·exact ⟨x10,by show x1≤239;omega,by show 0≤x4;omega,by show x4≤100000;omega,by show ts.length≤8;omega,tsok,tso⟩
  ·show x1≤9;omega
  ·exact rows_lower (rt6.mono (fun c hc hcn=>by rw [get_put_ne' _ _ _ _ (by omega)]) (by simp only [put_n];omega)) (by omega)
  ·rw [get_put_ne' _ _ _ _ (by omega),back c (by omega) hcd,wg c hc]
  ·simp only [put_n];omega
  ·simp only [put_n];omega
  ·simp only [St.put,minN_eq];exact hmm
  ·exact ⟨x10,by show x1≤239;omega,by show 0≤x4;omega,by show x4≤100000;omega,by show ts.length≤8;omega,tsok,tso⟩
  ·show x1≤9;omega
  ·rcases rt6.is with ⟨h1,h2⟩ | ⟨b,_,_,h2,_⟩
   ·rw [List.map_eq_nil_iff] at h1;subst h1;subst h2;exact Abs.Rows.nil _ _ _ _ _
   ·subst h2;cases (show false=true from hp)
  ·simp only [St.put,minN_eq];exact hmm)
 refine ⟨l,v4,t,hr.symm.trans e,⟨fr,hn,hle,fun h=>?_,?_⟩,hd',ok,b9,hC⟩
 ·rcases hm with ⟨_,h1⟩ | ⟨_,h1⟩<;>omega
 ·rcases hm with ⟨_,h1⟩ | ⟨_,h1⟩<;>omega
end Go.Proofs.Ytlfalcghhckanaa.walk
set_option maxRecDepth 10000
namespace Go.Abs
theorem endO_ok {M:Env} {l:List (Nat × Nat)} (s:St) (h:endOk M l=true):endO l (.ok M s)=.ok M s:=by
 show (match endOk M l with | true=>ORes.ok M s | false=>.fail)=_
 rw [h]
theorem endOk_nil (M:Env):endOk M []=true:=rfl
theorem endOk_cons {M:Env} {t u:Nat} {r:List (Nat × Nat)} (h:apartA (M.find t) (M.find u)=true):endOk M ((t,u)::r)=endOk M r:=by
 show (match apartA (M.find t) (M.find u) with | true=>endOk M r | false=>false)=_
 rw [h]
theorem apart_slice {b c o n k p:Nat} {e:Bool} (h:b≠c):apartA (.slice b o n k e) (.ptr c p)=true:=by
 unfold apartA
 simp [blockOf,nbeq_f h]
theorem Own.move {h h':Heap} {lo lo' n n' w tg:Nat} {rows:List (List AV)} {v:AV} (r:Own h lo n w tg rows v) (hh:∀ b,lo≤b→b<n→h'.get b=h.get b) (hl:lo'≤lo) (hn:n≤n'):Own h' lo' n' w tg rows v:=by
 refine ⟨r.wide,?_⟩
 rcases r.is with ⟨h1,h2 | ⟨b,h0,h3,h4,h5⟩⟩ | ⟨h1,b,h0,h3,h4,h5⟩
 ·exact .inl ⟨h1,.inl h2⟩
 ·exact .inl ⟨h1,.inr ⟨b,by omega,by omega,h4,by rw [hh b h0 h3];exact h5⟩⟩
 ·exact .inr ⟨h1,b,by omega,by omega,h4,by rw [hh b h0 h3];exact h5⟩
theorem Own.none {h h':Heap} {lo lo' n n' w tg:Nat} {rows:List (List AV)} {v:AV} (r:Own h lo n w tg rows v) (hp:plain v=true):Own h' lo' n' w tg rows v:=by
 rcases r.is with ⟨h1,h2 | ⟨b,_,_,h4,_⟩⟩ | ⟨_,b,_,_,h4,_⟩
 ·subst h1;subst h2;exact ⟨fun x hx=>(by cases hx),.inl ⟨rfl,.inl rfl⟩⟩
 ·subst h4;cases hp
 ·subst h4;cases hp
end Go.Abs
namespace Go.Proofs.Ytlfalcghhckanaa.walk
open Go.Abs Go.Proofs.Ytlfalcghhckanaa.code
theorem box_scalars (l:List Box):∀ r ∈ l.map Box.cells,scalars r=true:=by
 intro r hr
 obtain ⟨f,_,rfl⟩:=List.mem_map.mp hr
 rfl
theorem rate_scalars (l:List Rate):∀ r ∈ l.map Rate.cells,scalars r=true:=by
 intro r hr
 obtain ⟨f,_,rfl⟩:=List.mem_map.mp hr
 rfl
end Go.Proofs.Ytlfalcghhckanaa.walk
set_option maxRecDepth 10000
namespace Go.Abs
theorem set_parts {rows:List (List AV)} {w i:Nat} {R:List AV} (hw:∀ r ∈ rows,r.length=w) (hi:i<rows.length):∃ a l,(rows.set i R).flatten=a++(R++l)∧a.length=i * w∧∀ R',(rows.set i R').flatten=a++(R'++l):=by
 have e:∀ R',(rows.set i R').flatten=(rows.take i).flatten++(R'++(rows.drop (i+1)).flatten):=fun R'=>by
  rw [List.set_eq_take_append_cons_drop,if_pos hi,List.flatten_append,List.flatten_cons]
 exact ⟨_,_,e R,by rw [flatten_len (w:=w) (fun r hr=>hw r (List.mem_of_mem_take hr)),List.length_take,Nat.min_eq_left (by omega)],e⟩
end Go.Abs
namespace Go.Proofs.Ytlfalcghhckanaa.walk
open Go.Abs Go.Proofs.Ytlfalcghhckanaa.code
theorem box_wide (bs:List Box):∀ r ∈ bs.map Box.cells,r.length=9:=by
 intro r hr
 obtain ⟨f,_,rfl⟩:=List.mem_map.mp hr
 rfl
theorem own_scal {h:Heap} {lo n w tg:Nat} {rows:List (List AV)} {v:AV} (r:Own h lo n w tg rows v):v.scalar=true:=by
 rcases r.is with ⟨_,h2 | ⟨b,_,_,h2,_⟩⟩ | ⟨_,b,_,_,h2,_⟩<;>subst h2<;>rfl
end Go.Proofs.Ytlfalcghhckanaa.walk
set_option maxRecDepth 10000
namespace Go.Proofs.Ytlfalcghhckanaa.walk
open Go.Abs Go.Proofs.Ytlfalcghhckanaa.code
theorem CopyCellar_ex {N:Nat} {s:St} {r:ARes} {hl hh:Int} {v1 v2 v3:AV} (c:Cellar) (hr:call Try.prog X N (.fn 9) [.agg [.int .i64 hl,.int .i64 hh,v1,v2,v3]] s=r) (hN:1≤N)
  (S1:Seq s.h s.n 9 (c.boxes.map Box.cells) v1) (S2:Seq s.h s.n 3 (c.fills.map Fill.cells) v2) (S3:Seq s.h s.n 2 (c.rates.map Rate.cells) v3) (k1:c.boxes.length≤20) (k2:c.fills.length≤20) (k3:c.rates.length≤20) (hs:s.n+1000≤far) :
  ∃ (w1 w2 w3:AV) (t:St) (n1 n2:Nat),r=.val (.agg [.int .i64 hl,.int .i64 hh,w1,w2,w3]) t∧New s t 10∧s.n≤n1∧n1≤n2∧n2≤t.n ∧
   Own t.h s.n n1 9 (tag 43) (c.boxes.map Box.cells) w1∧Own t.h n1 n2 3 (tag 62) (c.fills.map Fill.cells) w2∧Own t.h n2 t.n 2 (tag 64) (c.rates.map Rate.cells) w3:=by
 obtain ⟨n,rfl⟩:∃ n,N=n+1:=⟨N - 1,by omega⟩
 have hf:far=1000000000:=rfl
 obtain ⟨w,t,e,st,w1,w2,w3,n1,n2,rfl,hq⟩:=call_new' (n:=n) (args:=[.agg [.int .i64 hl,.int .i64 hh,v1,v2,v3]]) (s:=s) (k:=10)
  (Q:=fun v h m=>∃ (w1 w2 w3:AV) (n1 n2:Nat),v=.agg [.int .i64 hl,.int .i64 hh,w1,w2,w3]∧s.n≤n1∧n1≤n2∧n2≤m∧Own h s.n n1 9 (tag 43) (c.boxes.map Box.cells) w1∧Own h n1 n2 3 (tag 62) (c.fills.map Fill.cells) w2∧Own h n2 m 2 (tag 64) (c.rates.map Rate.cells) w3)
  Try.func9 rfl (fun u uh un um=>by
  rw [← uh,← un] at S1 S2 S3
  rw [← un]
  obtain ⟨ok1,c1,sc1⟩:=S1.scalar
  obtain ⟨ok2,c2,sc2⟩:=S2.scalar
  obtain ⟨ok3,c3,sc3⟩:=S3.scalar
  have sh:shapeT Try.prog 31=some (some 5):=by kernel_rfl
  have nn1:∀ o,(u.new o).n=u.n+1:=fun _=>rfl
  rw [enter9]
  simp (disch:=first|omega|(with_unfolding_all exact rfl)|(simp only[new_n,put_n,new_m];omega)|(refine put_m_le ?_;simp only[new_m];omega)) only [res9,K9,K9r0,Abs.W,reduceIte,Nat.reduceEqDiff,Nat.reduceAdd,decide_true,decide_false,kLoop_def,Nat.reduceSub,List.cons_append,List.nil_append,List.append_nil,List.length_cons,List.length_nil,nn1]
  obtain ⟨w,hw⟩:∃ w:St,w=(u.new (.cells [.int .i64 hl,.int .i64 hh,v1,v2,v3] (tag 31))).new (.cells [.int .i64 0,.int .i64 0,.nilslice,.nilslice,.nilslice] (tag 31)):=⟨_,rfl⟩
  rw [← hw]
  have wn:w.n=u.n+2:=by rw [hw];rfl
  have wm:w.m=far:=by rw [hw];exact um
  have wg:∀ c,c<u.n→w.h.get c=u.h.get c:=fun c hc=>by rw [hw,get_new_ne _ _ _ (by simp only [new_n];omega),get_new_ne _ _ _ (by omega)]
  have w0:w.h.get u.n=some (.cells [.int .i64 hl,.int .i64 hh,v1,v2,v3] (tag 31)):=by
   rw [hw,get_new_ne _ _ _ (by simp only [new_n];omega)];exact get_new_eq _ _ _ rfl (by omega)
  have w1':w.h.get (u.n+1)=some (.cells [.int .i64 0,.int .i64 0,.nilslice,.nilslice,.nilslice] (tag 31)):=by rw [hw];exact get_new_eq _ _ _ rfl (by simp only [new_n];omega)
  have kl1:(c.boxes.map Box.cells).length≤20:=by rw [List.length_map];exact k1
  have kl2:(c.fills.map Fill.cells).length≤20:=by rw [List.length_map];exact k2
  have kl3:(c.rates.map Rate.cells).length≤20:=by rw [List.length_map];exact k3
  obtain ⟨x1,hx1⟩:∃ x1:St,x1=w.new (.cells [] 0):=⟨_,rfl⟩
  have x1n:x1.n=w.n+1:=by rw [hx1];rfl
  have x1m:x1.m=far:=by rw [hx1];exact wm
  have x1g:∀ c,c<w.n→x1.h.get c=w.h.get c:=fun c hc=>by rw [hx1,get_new_ne _ _ _ (by omega)]
  obtain ⟨a1,s1,e1,own1,ln1,le1,same1,m1,mm1⟩:=append_copy (bytes:=72) (tg:=tag 43) (p:=w.n) (S1.grow (h':=x1.h) (n':=x1.n) (fun b hb=>(x1g b (by omega)).trans (wg b hb)) (by omega)) (by rw [hx1];exact get_new_eq _ _ _ rfl (by omega)) (by omega) (box_scalars c.boxes) (by omega) (by omega)
  have mw1:=m1 w.n (Nat.le_refl _) (by omega)
  obtain ⟨x2,hx2⟩:∃ x2:St,x2=s1.new (.cells [] 0):=⟨_,rfl⟩
  have x2n:x2.n=s1.n+1:=by rw [hx2];rfl
  have x2m:x2.m=s1.m:=by rw [hx2];rfl
  have x2g:∀ c,c<s1.n→x2.h.get c=s1.h.get c:=fun c hc=>by rw [hx2,get_new_ne _ _ _ (by omega)]
  have b2:∀ c,c<x1.n→x2.h.get c=x1.h.get c:=fun c hc=>(x2g c (by omega)).trans (same1 c hc)
  obtain ⟨a2,s2,e2,own2,ln2,le2,same2,m2,mm2⟩:=append_copy (bytes:=24) (tg:=tag 62) (p:=s1.n) (S2.grow (h':=x2.h) (n':=x2.n) (fun b hb=>(b2 b (by omega)).trans ((x1g b (by omega)).trans (wg b hb))) (by omega)) (by rw [hx2];exact get_new_eq _ _ _ rfl (by omega)) (by omega) (fill_scalars c.fills) (by omega) (by omega)
  have mw2:=m2 w.n (by omega) (by omega)
  obtain ⟨x3,hx3⟩:∃ x3:St,x3=s2.new (.cells [] 0):=⟨_,rfl⟩
  have x3n:x3.n=s2.n+1:=by rw [hx3];rfl
  have x3m:x3.m=s2.m:=by rw [hx3];rfl
  have x3g:∀ c,c<s2.n→x3.h.get c=s2.h.get c:=fun c hc=>by rw [hx3,get_new_ne _ _ _ (by omega)]
  have b3:∀ c,c<x2.n→x3.h.get c=x2.h.get c:=fun c hc=>(x3g c (by omega)).trans (same2 c hc)
  obtain ⟨a3,s3,e3,own3,ln3,le3,same3,m3,mm3⟩:=append_copy (bytes:=16) (tg:=tag 64) (p:=s2.n) (S3.grow (h':=x3.h) (n':=x3.n) (fun b hb=>(b3 b (by omega)).trans ((b2 b (by omega)).trans ((x1g b (by omega)).trans (wg b hb)))) (by omega)) (by rw [hx3];exact get_new_eq _ _ _ rfl (by omega)) (by omega) (rate_scalars c.rates) (by omega) (by omega)
  have mw3:=m3 w.n (by omega) (by omega)
  have g1:∀ c,c<w.n→x1.h.get c=w.h.get c:=x1g
  have g2:∀ c,c<w.n→x2.h.get c=w.h.get c:=fun c hc=>(b2 c (by omega)).trans (x1g c hc)
  have g3:∀ c,c<w.n→x3.h.get c=w.h.get c:=fun c hc=>(b3 c (by omega)).trans (g2 c hc)
  have g4:∀ c,c<w.n→s3.h.get c=w.h.get c:=fun c hc=>(same3 c (by omega)).trans (g3 c hc)
  have y1:=(g1 u.n (by omega)).trans w0
  have y2:=(g2 u.n (by omega)).trans w0
  have y3:=(g3 u.n (by omega)).trans w0
  have y4:=(g4 u.n (by omega)).trans w0
  have y5:=(g4 (u.n+1) (by omega)).trans w1'
  obtain ⟨p1,q1,z1⟩:=own1.seq.scalar
  obtain ⟨p2,q2,z2⟩:=own2.seq.scalar
  obtain ⟨p3,q3,z3⟩:=own3.seq.scalar
  have z1':scalars [a1]=true:=by rw [z1];rfl
  have z2':scalars [a2]=true:=by rw [z2];rfl
  have z3':scalars [a3]=true:=by rw [z3];rfl
  have sall:∀ l,scalars (a1::a2::a3::l)=scalars l:=fun l=>by rw [z1,z2,z3]
  have gp:∀ o1 o2 o3,(((s3.put u.n o1).put u.n o2).put u.n o3).h.get (u.n+1)=some (.cells [.int .i64 0,.int .i64 0,.nilslice,.nilslice,.nilslice] (tag 31)):=fun o1 o2 o3=>by
   rw [get_put_ne' _ _ _ _ (by omega),get_put_ne' _ _ _ _ (by omega),get_put_ne' _ _ _ _ (by omega)];exact y5
  have s1u:=(same1 u.n (by omega)).trans y1
  have s2u:=(same2 u.n (by omega)).trans y2
  rw [hx1] at e1
  rw [hx2] at e2
  rw [hx3] at e3
  simp (disch:=first|omega|(with_unfolding_all exact rfl)|(simp only[new_n,put_n,new_m];omega)|(refine put_m_le ?_;simp only[new_m];omega)) only [K9r1,Abs.W,reduceIte,Nat.reduceEqDiff,Nat.reduceAdd,decide_true,decide_false,kLoop_def,Nat.reduceSub,List.cons_append,List.nil_append,List.append_nil,List.length_cons,List.length_nil,Env.find_set,w0,ok1,e1,s1u,ok2,e2,s2u,ok3,e3,y4,q1,q2,q3,z1',z2',z3',Nat.zero_add]
  rw [endO_ok _ (by
   rw [endOk_cons,endOk_cons,endOk_cons,endOk_nil]
   all_goals
    simp only [find_cons,reduceIte,Nat.reduceEqDiff]
    exact apart_slice (by omega))]
  simp (disch:=first|omega|(with_unfolding_all exact rfl)|(simp only[new_n,put_n,new_m];omega)|(refine put_m_le ?_;simp only[new_m];omega)) only [K9r2,Abs.W,reduceIte,Nat.reduceEqDiff,Nat.reduceAdd,decide_true,decide_false,kLoop_def,Nat.reduceSub,List.cons_append,List.nil_append,List.append_nil,List.length_cons,List.length_nil,Env.find_set,regD_ok,gp,sall,scal_nil,Nat.zero_add]
  have fin:∀ c,c≠u.n→c≠u.n+1→∀ o1 o2 o3 o4,((((s3.put u.n o1).put u.n o2).put u.n o3).put (u.n+1) o4).h.get c=s3.h.get c:=fun c h1 h2 o1 o2 o3 o4=>by
   rw [get_put_ne' _ _ _ _ h2,get_put_ne' _ _ _ _ h1,get_put_ne' _ _ _ _ h1,get_put_ne' _ _ _ _ h1]
  have o1:Own s3.h w.n s1.n 9 (tag 43) (c.boxes.map Box.cells) a1:=own1.move (fun b hb hb2=>(same3 b (by omega)).trans ((x3g b (by omega)).trans ((same2 b (by omega)).trans (x2g b hb2)))) (Nat.le_refl _) (Nat.le_refl _)
  have o2:Own s3.h s1.n s2.n 3 (tag 62) (c.fills.map Fill.cells) a2:=own2.move (fun b hb hb2=>(same3 b (by omega)).trans (x3g b hb2)) (Nat.le_refl _) (Nat.le_refl _)
  refine ⟨.agg [.int .i64 hl,.int .i64 hh,a1,a2,a3],_,leave_cell _ _ _ _ sh ?_,⟨fun c hc=>?_,?_,?_,?_,?_⟩,
   ⟨a1,a2,a3,s1.n,s2.n,rfl,by omega,by omega,by simp only [put_n];omega,o1.move (fun b hb hb2=>fin b (by omega) (by omega) _ _ _ _) (by omega) (Nat.le_refl _),o2.move (fun b hb hb2=>fin b (by omega) (by omega) _ _ _ _) (by omega) (Nat.le_refl _),own3.move (fun b hb hb2=>fin b (by omega) (by omega) _ _ _ _) (by omega) (Nat.le_refl _)⟩,
   fun hp=>⟨a1,a2,a3,u.n,u.n,rfl,Nat.le_refl _,Nat.le_refl _,by omega,own1.none (plains_mem hp (by simp)),own2.none (plains_mem hp (by simp)),own3.none (plains_mem hp (by simp))⟩⟩
  ·simp (disch:=first|omega|(with_unfolding_all exact rfl)|(simp only[new_n,put_n,new_m];omega)|(refine put_m_le ?_;simp only[new_m];omega)) only [Abs.W,reduceIte,Nat.reduceEqDiff,Nat.reduceAdd,decide_true,decide_false,kLoop_def,Nat.reduceSub,List.cons_append,List.nil_append,List.append_nil,List.length_cons,List.length_nil,okA_agg]
  ·rw [fin c (by omega) (by omega)];exact (g4 c (by omega)).trans (wg c hc)
  ·simp only [put_n];omega
  ·simp only [put_n];omega
  ·simp only [St.put,minN_eq];omega
  ·simp only [St.put,minN_eq];omega)
 exact ⟨w1,w2,w3,t,n1,n2,hr.symm.trans e,st,hq⟩
end Go.Proofs.Ytlfalcghhckanaa.walk
set_option maxRecDepth 10000
namespace Go.Proofs.Ytlfalcghhckanaa.walk
open Go.Abs Go.Proofs.Ytlfalcghhckanaa.code
theorem HourOf_ex {N d:Nat} {s:St} {r:ARes} {born keeps:Int} {v4:AV} (hr:call Try.prog X N (.fn 7) [.ptr d 0,.agg [.int .i64 born,.int .i64 keeps,v4]] s=r) (hN:6≤N) (hd:Die d s.h) (hdn:d<s.n) (hs:s.n+1000≤far) (hb:0≤born∧born≤240) :
  ∃ (h:Int) (t:St),r=.val (.int .i64 h) t∧Stir d s t 10∧Die d t.h∧born≤h∧h≤240:=by
 obtain ⟨n,rfl⟩:∃ n,N=n+1:=⟨N - 1,by omega⟩
 have hff:far=1000000000:=rfl
 obtain ⟨v,t,e,st,⟨h,rfl,h0,h1⟩,hd'⟩:=call_stir_plain (n:=n) (args:=[.ptr d 0,.agg [.int .i64 born,.int .i64 keeps,v4]]) (d:=d) (k:=10) (Q:=fun v=>∃ h:Int,v=.int .i64 h∧born≤h∧h≤240) (R:=Die d) Try.func7 hd (fun u uh un um=>by
  rw [← uh] at hd
  rw [enter7]
  simp (disch:=first|omega|(with_unfolding_all exact rfl)|(simp only[new_n,put_n,new_m];omega)|(refine put_m_le ?_;simp only[new_m];omega)) only [res7,K7,K7r0,Abs.W,reduceIte,Nat.reduceEqDiff,Nat.reduceAdd,decide_true,decide_false,kLoop_def,Nat.reduceSub,List.cons_append,List.nil_append,List.append_nil,List.length_cons,List.length_nil]
  obtain ⟨w,hw⟩:∃ w:St,w=u.new (.cells [.int .i64 born,.int .i64 keeps,v4] (tag 35)):=⟨_,rfl⟩
  rw [← hw]
  have wn:w.n=u.n+1:=by rw [hw];rfl
  have wm:w.m=far:=by rw [hw];exact um
  have wg:∀ c,c<u.n→w.h.get c=u.h.get c:=fun c hc=>by rw [hw,get_new_ne _ _ _ (by omega)]
  have w0:w.h.get u.n=some (.cells [.int .i64 born,.int .i64 keeps,v4] (tag 35)):=by rw [hw];exact get_new_eq _ _ _ rfl (by omega)
  have dw:Die d w.h:=by obtain ⟨f,hg⟩:=hd;exact ⟨f,by rw [wg _ (by omega)];exact hg⟩
  simp (disch:=first|omega|(with_unfolding_all exact rfl)|(simp only[new_n,put_n,new_m];omega)|(refine put_m_le ?_;simp only[new_m];omega)) only [K7r1,Abs.W,reduceIte,Nat.reduceEqDiff,Nat.reduceAdd,decide_true,decide_false,kLoop_def,Nat.reduceSub,List.cons_append,List.nil_append,List.append_nil,List.length_cons,List.length_nil,Env.find_set,w0]
  obtain ⟨y,hy⟩:∃ y:St,y=w.new (.cells [.int .i64 6,.int .i64 30,.int .i64 60] 0):=⟨_,rfl⟩
  rw [← hy]
  have yn:y.n=w.n+1:=by rw [hy];rfl
  have ym:y.m=far:=by rw [hy];exact wm
  have yg:∀ c,c<w.n→y.h.get c=w.h.get c:=fun c hc=>by rw [hy,get_new_ne _ _ _ (by omega)]
  have y0:=(yg u.n (by omega)).trans w0
  have y1:y.h.get w.n=some (.cells [.int .i64 6,.int .i64 30,.int .i64 60] 0):=by rw [hy];exact get_new_eq _ _ _ rfl (by omega)
  have dy:Die d y.h:=by obtain ⟨f,hg⟩:=dw;exact ⟨f,by rw [yg _ (by omega)];exact hg⟩
  generalize hc1:call _ _ _ (.fn 20) _ _=r1
  obtain ⟨x1,t1,rfl,st1,d1,m1⟩:=one_ex [6,30,60] hc1 (by omega) dy (by show d<y.n;omega) (by show y.n+200≤far;omega) y1 (by show w.n<y.n;omega) (by omega) rfl (by omega) (by omega)
  have x1r:x1=6∨x1=30∨x1=60:=by simpa using m1
  have n1:y.n≤t1.n:=st1.n
  have k1:t1.n≤y.n:=st1.le
  have p1:t1.h.get u.n=some (.cells [.int .i64 born,.int .i64 keeps,v4] (tag 35)):=(st1.same u.n (by show u.n<y.n;omega) (by omega)).trans y0
  simp (disch:=first|omega|(with_unfolding_all exact rfl)|(simp only[new_n,put_n,new_m];omega)|(refine put_m_le ?_;simp only[new_m];omega)) only [K7r1,Abs.W,reduceIte,Nat.reduceEqDiff,Nat.reduceAdd,decide_true,decide_false,kLoop_def,Nat.reduceSub,List.cons_append,List.nil_append,List.append_nil,List.length_cons,List.length_nil,Env.find_set,thenT_turn]
  generalize hc2:call _ _ _ (.fn 8) _ _=r2
  obtain ⟨x2,t2,rfl,st2,d2,x20,x21⟩:=cast_ex hc2 (by omega) d1 (by show d<t1.n;omega) (by show t1.n+100≤far;omega) (by omega)
  have n2:t1.n≤t2.n:=st2.n
  have k2:t2.n≤t1.n:=st2.le
  have p2:t2.h.get u.n=some (.cells [.int .i64 born,.int .i64 keeps,v4] (tag 35)):=(st2.same u.n (by show u.n<t1.n;omega) (by omega)).trans p1
  have a2:∀ s,aAdd s .i64 born x2=.val (.int .i64 (born+x2)) s:=fun s=>aAdd_i64 s _ _ (by omega)
  simp (disch:=first|omega|(with_unfolding_all exact rfl)|(simp only[new_n,put_n,new_m];omega)|(refine put_m_le ?_;simp only[new_m];omega)) only [K7r1,Abs.W,reduceIte,Nat.reduceEqDiff,Nat.reduceAdd,decide_true,decide_false,kLoop_def,Nat.reduceSub,List.cons_append,List.nil_append,List.append_nil,List.length_cons,List.length_nil,Env.find_set,thenT_turn,a2,kFold_def,foldA_nil,foldA_cons,minA_i64]
  have kp:∀ (a b:Heap) (M:Env),M.find 5=.ptr u.n 0→a.get u.n=some (.cells [.int .i64 born,.int .i64 keeps,v4] (tag 35))→b.get u.n=some (.cells [.int .i64 born,.int .i64 keeps,v4] (tag 35))→keptAll a b M [5]=true:=fun a b M h1 h2 h3=>by
   simp only [keptAll_cons,keptAll_nil,h1,keptV_ptr,h2,h3,sameO_cells,Bool.and_self]
  rw [endT_kept (s:=⟨t1.h,t1.n,minN y.m t1.m⟩) (kp _ _ _ (by simp only [find_cons,reduceIte,Nat.reduceEqDiff]) p1 p2),endT_kept (kp _ _ _ (by simp only [find_cons,reduceIte,Nat.reduceEqDiff]) y0 p1)]
  simp (disch:=first|omega|(with_unfolding_all exact rfl)|(simp only[new_n,put_n,new_m];omega)|(refine put_m_le ?_;simp only[new_m];omega)) only [res7,Abs.W,reduceIte,Nat.reduceEqDiff,Nat.reduceAdd,decide_true,decide_false,kLoop_def,Nat.reduceSub,List.cons_append,List.nil_append,List.append_nil,List.length_cons,List.length_nil,Env.find_set,endO_nil,regD_ok]
  have h1:=st1.m (show d≤far by omega)
  have h2:=st2.m (show d≤far by omega)
  refine ⟨_,_,rfl,⟨fun c hc hcd=>?_,?_,?_,fun _=>?_,?_⟩,rfl,⟨_,rfl,by omega,by omega⟩,d2⟩
  ·show t2.h.get c=_
   rw [st2.same c (by show c<t1.n;omega) hcd,st1.same c (by show c<y.n;omega) hcd]
   show y.h.get c=_
   rw [yg c (by omega),wg c hc]
  ·show u.n≤t2.n;omega
  ·show t2.n≤u.n+10;omega
  ·show d≤minN (minN y.m t1.m) t2.m;rw [minN_eq,minN_eq];omega
  ·show minN (minN y.m t1.m) t2.m≤u.m;rw [minN_eq,minN_eq];omega) (by omega)
 exact ⟨h,t,hr.symm.trans e,st,hd',h0,h1⟩
end Go.Proofs.Ytlfalcghhckanaa.walk
set_option maxRecDepth 10000
namespace Go.Proofs.Ytlfalcghhckanaa.walk
open Go.Abs Go.Proofs.Ytlfalcghhckanaa.code
theorem true_ex {N d:Nat} {lo hi:Int} {s:St} {r:ARes} (hr:call Try.prog X N (.fn 21) [.ptr d 0,.agg [.int .i64 lo,.int .i64 hi]] s=r) (hN:5≤N) (hd:Die d s.h) (hlt:d<s.n) (hs:s.n+600≤far)
  (h0 : -1000000≤lo) (h1:lo≤hi) (h2:hi≤1000000) :
  ∃ a t,r=.val (.int .i64 a) t∧Stir d s t 3∧Die d t.h∧lo≤a∧a≤hi:=by
 obtain ⟨n,rfl⟩:∃ n,N=n+1:=⟨N - 1,by omega⟩
 have hff:far=1000000000:=rfl
 obtain ⟨v,t,e,st,⟨x,rfl,q0,q1⟩,hd'⟩:=call_stir_plain (n:=n) (args:=[.ptr d 0,.agg [.int .i64 lo,.int .i64 hi]]) (d:=d) (k:=3) (Q:=fun v=>∃ x:Int,v=.int .i64 x∧lo≤x∧x≤hi) (R:=Die d) Try.func21 hd (fun u uh un um=>by
  rw [← uh] at hd
  rw [enter21]
  simp (disch:=first|omega|(with_unfolding_all exact rfl)|(simp only[new_n,put_n,new_m];omega)|(refine put_m_le ?_;simp only[new_m];omega)) only [res21,K21,K21r0,Abs.W,reduceIte,Nat.reduceEqDiff,Nat.reduceAdd,decide_true,decide_false,kLoop_def,Nat.reduceSub,List.cons_append,List.nil_append,List.append_nil,List.length_cons,List.length_nil]
  obtain ⟨y,hy⟩:∃ y:St,y=u.new (.cells [.int .i64 lo,.int .i64 hi] (tag 26)):=⟨_,rfl⟩
  rw [← hy]
  have yn:y.n=u.n+1:=by rw [hy];rfl
  have ym:y.m=far:=by rw [hy];exact um
  have yg:∀ c,c<u.n→y.h.get c=u.h.get c:=fun c hc=>by rw [hy,get_new_ne _ _ _ (by omega)]
  have y0:y.h.get u.n=some (.cells [.int .i64 lo,.int .i64 hi] (tag 26)):=by rw [hy];exact get_new_eq _ _ _ rfl (by omega)
  have dy:Die d y.h:=by obtain ⟨f,hg⟩:=hd;exact ⟨f,by rw [yg _ (by omega)];exact hg⟩
  simp (disch:=first|omega|(with_unfolding_all exact rfl)|(simp only[new_n,put_n,new_m];omega)|(refine put_m_le ?_;simp only[new_m];omega)) only [K21r1,Abs.W,reduceIte,Nat.reduceEqDiff,Nat.reduceAdd,decide_true,decide_false,kLoop_def,Nat.reduceSub,List.cons_append,List.nil_append,List.append_nil,List.length_cons,List.length_nil,Env.find_set,y0,Nat.reduceAdd,Nat.zero_add]
  generalize hc1:call _ _ _ (.fn 19) _ _=r1
  obtain ⟨x1,t1,rfl,st1,d1,x10,x11⟩:=from_ex hc1 (by omega) dy (by show d<y.n;omega) (by show y.n+200≤far;omega) (by omega) (by omega) (by omega) (by omega)
  have n1:y.n≤t1.n:=st1.n
  have k1:t1.n≤y.n:=st1.le
  have p1:t1.h.get u.n=some (.cells [.int .i64 lo,.int .i64 hi] (tag 26)):=(st1.same u.n (by show u.n<y.n;omega) (by omega)).trans y0
  simp (disch:=first|omega|(with_unfolding_all exact rfl)|(simp only[new_n,put_n,new_m];omega)|(refine put_m_le ?_;simp only[new_m];omega)) only [K21r1,Abs.W,reduceIte,Nat.reduceEqDiff,Nat.reduceAdd,decide_true,decide_false,kLoop_def,Nat.reduceSub,List.cons_append,List.nil_append,List.append_nil,List.length_cons,List.length_nil,Env.find_set,thenT_turn,p1,Nat.reduceAdd,Nat.zero_add]
  generalize hc2:call _ _ _ (.fn 19) _ _=r2
  obtain ⟨x2,t2,rfl,st2,d2,x20,x21⟩:=from_ex hc2 (by omega) d1 (by show d<t1.n;omega) (by show t1.n+200≤far;omega) (by omega) (by omega) (by omega) (by omega)
  have n2:t1.n≤t2.n:=st2.n
  have k2:t2.n≤t1.n:=st2.le
  have p2:t2.h.get u.n=some (.cells [.int .i64 lo,.int .i64 hi] (tag 26)):=(st2.same u.n (by show u.n<t1.n;omega) (by omega)).trans p1
  simp (disch:=first|omega|(with_unfolding_all exact rfl)|(simp only[new_n,put_n,new_m];omega)|(refine put_m_le ?_;simp only[new_m];omega)) only [K21r1,Abs.W,reduceIte,Nat.reduceEqDiff,Nat.reduceAdd,decide_true,decide_false,kLoop_def,Nat.reduceSub,List.cons_append,List.nil_append,List.append_nil,List.length_cons,List.length_nil,Env.find_set,thenT_turn,Nat.reduceAdd,Nat.zero_add]
  generalize hc3:call _ _ _ (.fn 20) _ _=r3
  obtain ⟨x3,t3,rfl,st3,d3,m3⟩:=one_ex [lo,hi,x1,x2] hc3 (by omega) (by obtain ⟨f,hg⟩:=d2;exact ⟨f,by rw [get_new_ne _ _ _ (by show d≠t2.n;omega)];exact hg⟩) (by show d<t2.n+1;omega) (by show t2.n+1+200≤far;omega) (get_new_eq _ _ _ rfl (by show t2.n<_;omega)) (by show t2.n<t2.n+1;omega) (by show t2.n≠d;omega) rfl (by omega) (by omega)
  have x3r:lo≤x3∧x3≤hi:=by
   simp only [List.mem_cons,List.not_mem_nil,or_false] at m3
   omega
  have n3:t2.n+1≤t3.n:=st3.n
  have k3:t3.n≤t2.n+1:=st3.le
  simp (disch:=first|omega|(with_unfolding_all exact rfl)|(simp only[new_n,put_n,new_m];omega)|(refine put_m_le ?_;simp only[new_m];omega)) only [K21r1,Abs.W,reduceIte,Nat.reduceEqDiff,Nat.reduceAdd,decide_true,decide_false,kLoop_def,Nat.reduceSub,List.cons_append,List.nil_append,List.append_nil,List.length_cons,List.length_nil,Env.find_set,thenT_turn]
  have kp:∀ (a b:Heap) (M:Env),a.get u.n=some (.cells [.int .i64 lo,.int .i64 hi] (tag 26))→b.get u.n=some (.cells [.int .i64 lo,.int .i64 hi] (tag 26))→M.find 6=.ptr u.n 0→M.find 8=.ptr u.n 1→keptAll a b M [6,8]=true:=fun a b M h2 h3 h1 h4=>by
   simp only [keptAll_cons,keptAll_nil,h1,h4,keptV_ptr,h2,h3,sameO_cells,Bool.and_self]
  have kp4:∀ (a b:Heap) (M:Env),a.get u.n=some (.cells [.int .i64 lo,.int .i64 hi] (tag 26))→b.get u.n=some (.cells [.int .i64 lo,.int .i64 hi] (tag 26))→M.find 6=.ptr u.n 0→M.find 8=.ptr u.n 1→M.find 17=.ptr u.n 0→M.find 19=.ptr u.n 1→keptAll a b M [6,8,17,19]=true:=fun a b M h2 h3 h1 h4 h5 h6=>by
   simp only [keptAll_cons,keptAll_nil,h1,h4,h5,h6,keptV_ptr,h2,h3,sameO_cells,Bool.and_self]
  rw [endT_kept (s:=⟨t1.h,t1.n,minN y.m t1.m⟩) (kp _ _ _ p1 p2 (by simp only [find_cons,reduceIte,Nat.reduceEqDiff]) (by simp only [find_cons,reduceIte,Nat.reduceEqDiff])),endT_kept (kp4 _ _ _ y0 p1 (by simp only [find_cons,reduceIte,Nat.reduceEqDiff]) (by simp only [find_cons,reduceIte,Nat.reduceEqDiff]) (by simp only [find_cons,reduceIte,Nat.reduceEqDiff]) (by simp only [find_cons,reduceIte,Nat.reduceEqDiff]))]
  simp (disch:=first|omega|(with_unfolding_all exact rfl)|(simp only[new_n,put_n,new_m];omega)|(refine put_m_le ?_;simp only[new_m];omega)) only [res21,Abs.W,reduceIte,Nat.reduceEqDiff,Nat.reduceAdd,decide_true,decide_false,kLoop_def,Nat.reduceSub,List.cons_append,List.nil_append,List.append_nil,List.length_cons,List.length_nil,Env.find_set,endO_nil,regD_ok]
  have h1:=st1.m (show d≤far by omega)
  have h2:=st2.m (show d≤far by omega)
  have h3:=st3.m (show d≤minN (minN y.m t1.m) t2.m by rw [minN_eq,minN_eq];omega)
  have h4:t3.m≤minN (minN y.m t1.m) t2.m:=st3.mle
  rw [minN_eq,minN_eq] at h4
  refine ⟨_,_,rfl,⟨fun c hc hcd=>?_,?_,?_,fun _=>?_,?_⟩,rfl,⟨_,rfl,x3r.1,x3r.2⟩,d3⟩
  ·rw [st3.same c (by show c<t2.n+1;omega) hcd,get_new_ne _ _ _ (by show c≠t2.n;omega)]
   show t2.h.get c=_
   rw [st2.same c (by show c<t1.n;omega) hcd,st1.same c (by show c<y.n;omega) hcd]
   show y.h.get c=_
   rw [yg c hc]
  ·omega
  ·omega
  ·exact h3
  ·omega) (by omega)
 exact ⟨x,t,hr.symm.trans e,st,hd',q0,q1⟩
end Go.Proofs.Ytlfalcghhckanaa.walk
set_option maxRecDepth 10000
namespace Go.Proofs.Ytlfalcghhckanaa.walk
open Go.Abs Go.Proofs.Ytlfalcghhckanaa.code
theorem narrow_ex {N d:Nat} {lo hi:Int} {s:St} {r:ARes} (hr:call Try.prog X N (.fn 10) [.ptr d 0,.agg [.int .i64 lo,.int .i64 hi]] s=r) (hN:6≤N) (hd:Die d s.h) (hlt:d<s.n) (hs:s.n+1000≤far)
  (h0 : -1000000≤lo) (h1:lo≤hi) (h2:hi≤1000000) :
  ∃ a b t,r=.val (.agg [.int .i64 a,.int .i64 b]) t∧Stir d s t 10∧Die d t.h∧lo≤a∧a≤b∧b≤hi:=by
 obtain ⟨n,rfl⟩:∃ n,N=n+1:=⟨N - 1,by omega⟩
 have hff:far=1000000000:=rfl
 obtain ⟨v,t,e,st,⟨a,b,rfl,q0,q1,q2⟩,hd'⟩:=call_stir_plain (n:=n) (args:=[.ptr d 0,.agg [.int .i64 lo,.int .i64 hi]]) (d:=d) (k:=10) (Q:=fun v=>∃ a b:Int,v=.agg [.int .i64 a,.int .i64 b]∧lo≤a∧a≤b∧b≤hi) (R:=Die d) Try.func10 hd (fun u uh un um=>by
  rw [← uh] at hd
  have sh:shapeT Try.prog 26=some (some 2):=by kernel_rfl
  have nn1:∀ o,(u.new o).n=u.n+1:=fun _=>rfl
  rw [enter10]
  simp (disch:=first|omega|(with_unfolding_all exact rfl)|(simp only[new_n,put_n,new_m];omega)|(refine put_m_le ?_;simp only[new_m];omega)) only [res10,K10,K10r0,Abs.W,reduceIte,Nat.reduceEqDiff,Nat.reduceAdd,decide_true,decide_false,kLoop_def,Nat.reduceSub,List.cons_append,List.nil_append,List.append_nil,List.length_cons,List.length_nil,nn1]
  obtain ⟨y,hy⟩:∃ y:St,y=(u.new (.cells [.int .i64 lo,.int .i64 hi] (tag 26))).new (.cells [.int .i64 0,.int .i64 0] (tag 26)):=⟨_,rfl⟩
  rw [← hy]
  have yn:y.n=u.n+2:=by rw [hy];rfl
  have ym:y.m=far:=by rw [hy];exact um
  have yg:∀ c,c<u.n→y.h.get c=u.h.get c:=fun c hc=>by rw [hy,get_new_ne _ _ _ (by simp only [new_n];omega),get_new_ne _ _ _ (by omega)]
  have y0:y.h.get u.n=some (.cells [.int .i64 lo,.int .i64 hi] (tag 26)):=by rw [hy,get_new_ne _ _ _ (by simp only [new_n];omega)];exact get_new_eq _ _ _ rfl (by omega)
  have y1:y.h.get (u.n+1)=some (.cells [.int .i64 0,.int .i64 0] (tag 26)):=by rw [hy];exact get_new_eq _ _ _ rfl (by simp only [new_n];omega)
  have dy:Die d y.h:=by obtain ⟨f,hg⟩:=hd;exact ⟨f,by rw [yg _ (by omega)];exact hg⟩
  simp (disch:=first|omega|(with_unfolding_all exact rfl)|(simp only[new_n,put_n,new_m];omega)|(refine put_m_le ?_;simp only[new_m];omega)) only [K10r1,Abs.W,reduceIte,Nat.reduceEqDiff,Nat.reduceAdd,decide_true,decide_false,kLoop_def,Nat.reduceSub,List.cons_append,List.nil_append,List.append_nil,List.length_cons,List.length_nil,Env.find_set,y0,Nat.reduceAdd,Nat.zero_add]
  generalize hc1:call _ _ _ (.fn 21) _ _=r1
  obtain ⟨x1,t1,rfl,st1,d1,x10,x11⟩:=true_ex hc1 (by omega) dy (by show d<y.n;omega) (by show y.n+600≤far;omega) (by omega) (by omega) (by omega)
  have n1:y.n≤t1.n:=st1.n
  have k1:t1.n≤y.n+3:=st1.le
  have p1:t1.h.get u.n=some (.cells [.int .i64 lo,.int .i64 hi] (tag 26)):=(st1.same u.n (by show u.n<y.n;omega) (by omega)).trans y0
  simp (disch:=first|omega|(with_unfolding_all exact rfl)|(simp only[new_n,put_n,new_m];omega)|(refine put_m_le ?_;simp only[new_m];omega)) only [K10r1,Abs.W,reduceIte,Nat.reduceEqDiff,Nat.reduceAdd,decide_true,decide_false,kLoop_def,Nat.reduceSub,List.cons_append,List.nil_append,List.append_nil,List.length_cons,List.length_nil,Env.find_set,thenT_turn,p1,Nat.reduceAdd,Nat.zero_add]
  generalize hc2:call _ _ _ (.fn 21) _ _=r2
  obtain ⟨x2,t2,rfl,st2,d2,x20,x21⟩:=true_ex hc2 (by omega) d1 (by show d<t1.n;omega) (by show t1.n+600≤far;omega) (by omega) (by omega) (by omega)
  have n2:t1.n≤t2.n:=st2.n
  have k2:t2.n≤t1.n+3:=st2.le
  have b2:∀ c,c<y.n→c≠d→t2.h.get c=y.h.get c:=fun c hc hcd=>(st2.same c (by show c<t1.n;omega) hcd).trans (st1.same c hc hcd)
  have p2:=(b2 (u.n+1) (by omega) (by omega)).trans y1
  simp (disch:=first|omega|(with_unfolding_all exact rfl)|(simp only[new_n,put_n,new_m];omega)|(refine put_m_le ?_;simp only[new_m];omega)) only [K10r1,Abs.W,reduceIte,Nat.reduceEqDiff,Nat.reduceAdd,decide_true,decide_false,kLoop_def,Nat.reduceSub,List.cons_append,List.nil_append,List.append_nil,List.length_cons,List.length_nil,Env.find_set,thenT_turn,Nat.reduceAdd,Nat.zero_add]
  rw [endT_kept (by simp only [keptAll_cons,keptAll_nil,find_cons,keptV_ptr,y0,p1,sameO_cells,reduceIte,Nat.reduceEqDiff,Bool.and_self])]
  simp (disch:=first|omega|(with_unfolding_all exact rfl)|(simp only[new_n,put_n,new_m];omega)|(refine put_m_le ?_;simp only[new_m];omega)) only [K10r2,res10,Abs.W,reduceIte,Nat.reduceEqDiff,Nat.reduceAdd,decide_true,decide_false,kLoop_def,Nat.reduceSub,List.cons_append,List.nil_append,List.append_nil,List.length_cons,List.length_nil,Env.find_set,endO_nil,regD_ok,kFold_def,foldA_nil,foldA_cons,minA_i64,maxA_i64,p2,Nat.zero_add]
  have h1:=st1.m (show d≤far by omega)
  have h3:=st2.m (show d≤minN y.m t1.m by rw [minN_eq];omega)
  have h4:t2.m≤minN y.m t1.m:=st2.mle
  rw [minN_eq] at h4
  refine ⟨.agg [.int .i64 (min x1 x2),.int .i64 (max x1 x2)],_,leave_cell _ _ _ _ sh ?_,⟨fun c hc hcd=>?_,?_,?_,fun _=>?_,?_⟩,rfl,⟨_,_,rfl,by omega,by omega,by omega⟩,?_⟩
  ·simp (disch:=first|omega|(with_unfolding_all exact rfl)|(simp only[new_n,put_n,new_m];omega)|(refine put_m_le ?_;simp only[new_m];omega)) only [Abs.W,reduceIte,Nat.reduceEqDiff,Nat.reduceAdd,decide_true,decide_false,kLoop_def,Nat.reduceSub,List.cons_append,List.nil_append,List.append_nil,List.length_cons,List.length_nil,okA_agg,find_cons]
  ·rw [get_put_ne' _ _ _ _ (by omega),b2 c (by omega) hcd,yg c hc]
  ·simp only [put_n];omega
  ·simp only [put_n];omega
  ·simp only [St.put,minN_eq];omega
  ·simp only [St.put,minN_eq];omega
  ·obtain ⟨f,hg⟩:=d2
   exact ⟨f,by rw [get_put_ne' _ _ _ _ (by omega)];exact hg⟩) (by omega)
 exact ⟨a,b,t,hr.symm.trans e,st,hd',q0,q1,q2⟩
end Go.Proofs.Ytlfalcghhckanaa.walk
