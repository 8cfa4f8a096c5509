/- Cellars that are made of numbers: boxes. -/
import Derived.Test.YtlfalcghhckanabM5
import Derived.Test.YtlfalcghhckanabM1
import Derived.Test.YtlfalcghhckanabCodes
import Derived.Test.YtlfalcghhckanabWalkAll
set_option linter.unusedSimpArgs false
set_option maxHeartbeats 16000000
set_option linter.unusedVariables false
set_option maxRecDepth 10000
namespace Go.Abs
theorem aQuo_i64 (s:St) (a b:Int) (hb:b≠0) (h : -9223372036854775808≤a.tdiv b∧a.tdiv b≤9223372036854775807):aQuo s .i64 a b=.val (.int .i64 (a.tdiv b)) s:=by
 unfold aQuo
 rw [if_neg hb,wrap_in _ h]
end Go.Abs
namespace Go.Proofs.Ytlfalcghhckanab.walk
open Go.Abs Go.Proofs.Ytlfalcghhckanab.code
theorem Die.new {d:Nat} {s:St} (h:Die d s.h) (hd:d<s.n) (o:AObj):Die d (s.new o).h:=by obtain ⟨f,hf⟩:=h;exact ⟨f,by rw [get_new_ne _ _ _ (by omega)];exact hf⟩
theorem Die.put {d b:Nat} {s:St} (h:Die d s.h) (hd:d≠b) (o:AObj):Die d (s.put b o).h:=by obtain ⟨f,hf⟩:=h;exact ⟨f,by rw [get_put_ne' _ _ _ _ hd];exact hf⟩
theorem box_round (N:Nat) (hN:5≤N) (cx:Ctx) (d p7 lo i:Nat) (a b:Int) (v1:AV) (bs:List Box) (L:Env) (s:St) (hi:0<i) (hi6:i≤10) (hd:Die d s.h) (hdp:d<p7) (hp7:p7<lo) (hlo:lo≤s.n) (hs:s.n+1000≤far)
  (g7:s.h.get p7=some (.cells [.int .i64 a,.int .i64 b,v1,.nilslice,.nilslice] (tag 31))) (hR:Abs.Rows s.h lo s.n 9 (tag 63) (bs.map Box.cells) v1) (hbl:bs.length≤10)
  (l0:L.find 0=.ptr d 0) (l7:L.find 7=.ptr p7 0) (l8:L.find 8=.int .i64 i) :
  ∃ L1 s1 B v1',K5l0 (call Try.prog X N) cx L [] s=.done .norm L1 [] s1∧(∀ t,t=0∨t=2∨t=6∨t=7→L1.find t=L.find t)∧L1.find 8=.int .i64 ((i:Int) - 1)∧B.Ok∧B.room≤500∧Die d s1.h∧s1.h.get p7=some (.cells [.int .i64 a,.int .i64 b,v1',.nilslice,.nilslice] (tag 31)) ∧
   Abs.Rows s1.h lo s1.n 9 (tag 63) ((bs++[B]).map Box.cells) v1'∧(∀ c,c<lo→c≠d→c≠p7→s1.h.get c=s.h.get c)∧s.n≤s1.n∧s1.n≤s.n+20∧(d≤s.m→d≤s1.m)∧s1.m≤s.m:=by
 have hf:far=1000000000:=rfl
 have e0:decide ((0:Int)<(i:Int))=true:=by simp;omega
 obtain ⟨ok1,c1,sc1⟩:=hR.scalar
 simp (disch:=first|omega|(with_unfolding_all exact rfl)|(simp only[new_n,put_n,new_m];omega)|(refine put_m_le ?_;simp only[new_m];omega)) only [res5,K5r0,K5r1,K5r2,K5r3,K5r4,K5r5,K5r6,K5r7,K5r8,K5r9,K5l0,K5r10,K5r11,K5r12s7,K5r12s6,K5r12s5,K5r12s4,K5r12,K5r13,K5r14,K5r15,K5r16,K5l1,K5r17,K5r18,K5r19,K5r20,K5r21,K5r22,K5l2,K5r23,K5,Abs.W,reduceIte,Nat.reduceEqDiff,Nat.reduceAdd,decide_true,decide_false,kLoop_def,Nat.reduceSub,List.cons_append,List.nil_append,List.append_nil,List.length_cons,List.length_nil,Env.find_set,l0,l7,l8,e0]
 generalize hc1:call _ _ _ (.fn 22) _ _=r1
 obtain ⟨x1,t1,rfl,st1,d1,m1⟩:=one_ex [30,500] hc1 (by omega) (hd.new (by omega) _) (by simp only [new_n];omega) (by simp only [new_n];omega) (get_new_eq _ _ _ rfl (by omega)) (by simp only [new_n];omega) (by omega) rfl (by omega) (by omega)
 have x1r:x1=30∨x1=500:=by simpa using m1
 have n1:s.n+1≤t1.n:=st1.n
 have k1:t1.n≤s.n+1:=st1.le
 simp (disch:=first|omega|(with_unfolding_all exact rfl)|(simp only[new_n,put_n,new_m];omega)|(refine put_m_le ?_;simp only[new_m];omega)) only [res5,K5r0,K5r1,K5r2,K5r3,K5r4,K5r5,K5r6,K5r7,K5r8,K5r9,K5l0,K5r10,K5r11,K5r12s7,K5r12s6,K5r12s5,K5r12s4,K5r12,K5r13,K5r14,K5r15,K5r16,K5l1,K5r17,K5r18,K5r19,K5r20,K5r21,K5r22,K5l2,K5r23,K5,Abs.W,reduceIte,Nat.reduceEqDiff,Nat.reduceAdd,decide_true,decide_false,kLoop_def,Nat.reduceSub,List.cons_append,List.nil_append,List.append_nil,List.length_cons,List.length_nil,Env.find_set,l0,l7,l8]
 generalize hc2:call _ _ _ (.fn 21) _ _=r2
 obtain ⟨room,t2,rfl,st2,d2,r20,r21⟩:=from_ex hc2 (by omega) d1 (by omega) (by omega) (by omega) (by omega) (by omega) (by omega)
 have n2:t1.n≤t2.n:=st2.n
 have k2:t2.n≤t1.n:=st2.le
 have hroom:1≤room∧room≤500:=by omega
 simp (disch:=first|omega|(with_unfolding_all exact rfl)|(simp only[new_n,put_n,new_m];omega)|(refine put_m_le ?_;simp only[new_m];omega)) only [res5,K5r0,K5r1,K5r2,K5r3,K5r4,K5r5,K5r6,K5r7,K5r8,K5r9,K5l0,K5r10,K5r11,K5r12s7,K5r12s6,K5r12s5,K5r12s4,K5r12,K5r13,K5r14,K5r15,K5r16,K5l1,K5r17,K5r18,K5r19,K5r20,K5r21,K5r22,K5l2,K5r23,K5,Abs.W,reduceIte,Nat.reduceEqDiff,Nat.reduceAdd,decide_true,decide_false,kLoop_def,Nat.reduceSub,List.cons_append,List.nil_append,List.append_nil,List.length_cons,List.length_nil,Env.find_set,l0,l7,l8]
 obtain ⟨y,hy⟩:∃ y:St,y=(t2.new (.cells [.int .i64 0,.int .i64 0,.int .i64 0,.int .i64 0,.int .i64 0,.int .i64 0,.int .i64 0,.int .i64 0,.int .i64 0] (tag 63))).put t2.n (.cells [.int .i64 room,.int .i64 0,.int .i64 0,.int .i64 0,.int .i64 0,.int .i64 0,.int .i64 0,.int .i64 0,.int .i64 0] (tag 63)):=⟨_,rfl⟩
 rw [← hy]
 have yn:y.n=t2.n+1:=by rw [hy];rfl
 have ym:y.m=min t2.m t2.n:=by rw [hy];simp only [St.put,minN_eq,new_m]
 have yg:∀ c,c≠t2.n→y.h.get c=t2.h.get c:=fun c hc=>by rw [hy,get_put_ne' _ _ _ _ hc,get_new_ne _ _ _ hc]
 have yp:y.h.get t2.n=some (.cells [.int .i64 room,.int .i64 0,.int .i64 0,.int .i64 0,.int .i64 0,.int .i64 0,.int .i64 0,.int .i64 0,.int .i64 0] (tag 63)):=by rw [hy];exact get_put_eq _ _ _ _ rfl (by omega)
 have dy:Die d y.h:=by obtain ⟨f,hf'⟩:=d2;exact ⟨f,by rw [yg _ (by omega)];exact hf'⟩
 generalize hc3:call _ _ _ (.fn 20) _ _=r3
 obtain ⟨il,ih,t3,rfl,st3,d3,i0,i1,i2⟩:=span_ex hc3 (by omega) dy (by show d<y.n;omega) (by show y.n+300≤far;omega) (by omega) (by omega) (by omega)
 have n3:y.n≤t3.n:=st3.n
 have k3:t3.n≤y.n+2:=st3.le
 have p3:t3.h.get t2.n=y.h.get t2.n:=st3.same t2.n (by show t2.n<y.n;omega) (by omega)
 have p3':=p3.trans yp
 have q3:∀ s,aQuo s .i64 room 4=.val (.int .i64 (room / 4)) s:=fun s=>by
  rw [aQuo_i64 _ _ _ (by omega) (by rw [Int.tdiv_eq_ediv_of_nonneg (by omega)];omega),Int.tdiv_eq_ediv_of_nonneg (by omega)]
 have a3:∀ s,aAdd s .i64 1 (room / 4)=.val (.int .i64 (1+room / 4)) s:=fun s=>aAdd_i64 s _ _ (by omega)
 simp (disch:=first|omega|(with_unfolding_all exact rfl)|(simp only[new_n,put_n,new_m];omega)|(refine put_m_le ?_;simp only[new_m];omega)) only [res5,K5r0,K5r1,K5r2,K5r3,K5r4,K5r5,K5r6,K5r7,K5r8,K5r9,K5l0,K5r10,K5r11,K5r12s7,K5r12s6,K5r12s5,K5r12s4,K5r12,K5r13,K5r14,K5r15,K5r16,K5l1,K5r17,K5r18,K5r19,K5r20,K5r21,K5r22,K5l2,K5r23,K5,Abs.W,reduceIte,Nat.reduceEqDiff,Nat.reduceAdd,decide_true,decide_false,kLoop_def,Nat.reduceSub,List.cons_append,List.nil_append,List.append_nil,List.length_cons,List.length_nil,Env.find_set,l0,l7,l8,thenT_turn,p3',q3,a3]
 generalize hc4:call _ _ _ (.fn 22) _ _=r4
 obtain ⟨x4,t4,rfl,st4,d4,m4⟩:=one_ex [2,1+room / 4] hc4 (by omega) (Die.new (s:=⟨t3.h,t3.n,minN y.m t3.m⟩) d3 (by show d<t3.n;omega) _) (by show d<t3.n+1;omega) (by show t3.n+1+200≤far;omega) (get_new_eq _ _ _ rfl (by show t3.n<_;omega)) (by show t3.n<t3.n+1;omega) (by show t3.n≠d;omega) rfl (by omega) (by omega)
 have x4r:x4=2∨x4=1+room / 4:=by simpa using m4
 have n4:t3.n+1≤t4.n:=st4.n
 have k4:t4.n≤t3.n+1:=st4.le
 have p4:∀ c,c<t3.n→c≠d→t4.h.get c=t3.h.get c:=fun c hc hcd=>by rw [st4.same c (by show c<t3.n+1;omega) hcd,get_new_ne _ _ _ (by show c≠t3.n;omega)]
 simp (disch:=first|omega|(with_unfolding_all exact rfl)|(simp only[new_n,put_n,new_m];omega)|(refine put_m_le ?_;simp only[new_m];omega)) only [res5,K5r0,K5r1,K5r2,K5r3,K5r4,K5r5,K5r6,K5r7,K5r8,K5r9,K5l0,K5r10,K5r11,K5r12s7,K5r12s6,K5r12s5,K5r12s4,K5r12,K5r13,K5r14,K5r15,K5r16,K5l1,K5r17,K5r18,K5r19,K5r20,K5r21,K5r22,K5l2,K5r23,K5,Abs.W,reduceIte,Nat.reduceEqDiff,Nat.reduceAdd,decide_true,decide_false,kLoop_def,Nat.reduceSub,List.cons_append,List.nil_append,List.append_nil,List.length_cons,List.length_nil,Env.find_set,l0,l7,l8,thenT_turn]
 generalize hc5:call _ _ _ (.fn 20) _ _=r5
 obtain ⟨ml,mh,t5,rfl,st5,d5,ml0,ml1,ml2⟩:=span_ex hc5 (by omega) d4 (by omega) (by omega) (by omega) (by omega) (by omega)
 have n5:t4.n≤t5.n:=st5.n
 have k5:t5.n≤t4.n+2:=st5.le
 have p5':t5.h.get t2.n=some (.cells [.int .i64 room,.int .i64 0,.int .i64 0,.int .i64 0,.int .i64 0,.int .i64 0,.int .i64 0,.int .i64 0,.int .i64 0] (tag 63)):=(st5.same _ (by omega) (by omega)).trans ((p4 _ (by omega) (by omega)).trans p3')
 simp (disch:=first|omega|(with_unfolding_all exact rfl)|(simp only[new_n,put_n,new_m];omega)|(refine put_m_le ?_;simp only[new_m];omega)) only [res5,K5r0,K5r1,K5r2,K5r3,K5r4,K5r5,K5r6,K5r7,K5r8,K5r9,K5l0,K5r10,K5r11,K5r12s7,K5r12s6,K5r12s5,K5r12s4,K5r12,K5r13,K5r14,K5r15,K5r16,K5l1,K5r17,K5r18,K5r19,K5r20,K5r21,K5r22,K5l2,K5r23,K5,Abs.W,reduceIte,Nat.reduceEqDiff,Nat.reduceAdd,decide_true,decide_false,kLoop_def,Nat.reduceSub,List.cons_append,List.nil_append,List.append_nil,List.length_cons,List.length_nil,Env.find_set,l0,l7,l8,p5',Nat.zero_add,Nat.add_zero]
 rw [endT_kept (by simp only [keptAll_cons,keptAll_nil,find_cons,keptV_ptr,yp,p3',sameO_cells,reduceIte,Nat.reduceEqDiff,Bool.and_self])]
 obtain ⟨z1,hz1⟩:∃ z1:St,z1=(t5.put t2.n (.cells [.int .i64 room,.int .i64 il,.int .i64 ih,.int .i64 0,.int .i64 0,.int .i64 0,.int .i64 0,.int .i64 0,.int .i64 0] (tag 63))).put t2.n (.cells [.int .i64 room,.int .i64 il,.int .i64 ih,.int .i64 ml,.int .i64 mh,.int .i64 0,.int .i64 0,.int .i64 0,.int .i64 0] (tag 63)):=⟨_,rfl⟩
 rw [← hz1]
 have z1n:z1.n=t5.n:=by rw [hz1];rfl
 have z1m:z1.m=min (min t5.m t2.n) t2.n:=by rw [hz1];simp only [St.put,minN_eq]
 have z1g:∀ c,c≠t2.n→z1.h.get c=t5.h.get c:=fun c hc=>by rw [hz1,get_put_ne' _ _ _ _ hc,get_put_ne' _ _ _ _ hc]
 have z1p:z1.h.get t2.n=some (.cells [.int .i64 room,.int .i64 il,.int .i64 ih,.int .i64 ml,.int .i64 mh,.int .i64 0,.int .i64 0,.int .i64 0,.int .i64 0] (tag 63)):=by rw [hz1];exact get_put_eq _ _ _ _ rfl (by omega)
 have dz1:Die d z1.h:=by obtain ⟨f,hf'⟩:=d5;exact ⟨f,by rw [z1g _ (by omega)];exact hf'⟩
 simp (disch:=first|omega|(with_unfolding_all exact rfl)|(simp only[new_n,put_n,new_m];omega)|(refine put_m_le ?_;simp only[new_m];omega)) only [res5,K5r0,K5r1,K5r2,K5r3,K5r4,K5r5,K5r6,K5r7,K5r8,K5r9,K5l0,K5r10,K5r11,K5r12s7,K5r12s6,K5r12s5,K5r12s4,K5r12,K5r13,K5r14,K5r15,K5r16,K5l1,K5r17,K5r18,K5r19,K5r20,K5r21,K5r22,K5l2,K5r23,K5,Abs.W,reduceIte,Nat.reduceEqDiff,Nat.reduceAdd,decide_true,decide_false,kLoop_def,Nat.reduceSub,List.cons_append,List.nil_append,List.append_nil,List.length_cons,List.length_nil,Env.find_set,l0,l7,l8,endO_nil,regD_ok]
 generalize hc6:call _ _ _ (.fn 20) _ _=r6
 obtain ⟨cl,ch,t6,rfl,st6,d6,cl0,cl1,cl2⟩:=span_ex hc6 (by omega) dz1 (by omega) (by omega) (by omega) (by omega) (by omega)
 have n6:z1.n≤t6.n:=st6.n
 have k6:t6.n≤z1.n+2:=st6.le
 have p6':t6.h.get t2.n=some (.cells [.int .i64 room,.int .i64 il,.int .i64 ih,.int .i64 ml,.int .i64 mh,.int .i64 0,.int .i64 0,.int .i64 0,.int .i64 0] (tag 63)):=(st6.same _ (by omega) (by omega)).trans z1p
 have a6:∀ s,aAdd s .i64 ch 120=.val (.int .i64 (ch+120)) s:=fun s=>aAdd_i64 s _ _ (by omega)
 simp (disch:=first|omega|(with_unfolding_all exact rfl)|(simp only[new_n,put_n,new_m];omega)|(refine put_m_le ?_;simp only[new_m];omega)) only [res5,K5r0,K5r1,K5r2,K5r3,K5r4,K5r5,K5r6,K5r7,K5r8,K5r9,K5l0,K5r10,K5r11,K5r12s7,K5r12s6,K5r12s5,K5r12s4,K5r12,K5r13,K5r14,K5r15,K5r16,K5l1,K5r17,K5r18,K5r19,K5r20,K5r21,K5r22,K5l2,K5r23,K5,Abs.W,reduceIte,Nat.reduceEqDiff,Nat.reduceAdd,decide_true,decide_false,kLoop_def,Nat.reduceSub,List.cons_append,List.nil_append,List.append_nil,List.length_cons,List.length_nil,Env.find_set,l0,l7,l8,p6',a6,Nat.reduceAdd,Nat.zero_add]
 obtain ⟨z2,hz2⟩:∃ z2:St,z2=t6.put t2.n (.cells [.int .i64 room,.int .i64 il,.int .i64 ih,.int .i64 ml,.int .i64 mh,.int .i64 cl,.int .i64 ch,.int .i64 0,.int .i64 0] (tag 63)):=⟨_,rfl⟩
 rw [← hz2]
 have z2n:z2.n=t6.n:=by rw [hz2];rfl
 have z2m:z2.m=min t6.m t2.n:=by rw [hz2];simp only [St.put,minN_eq]
 have z2g:∀ c,c≠t2.n→z2.h.get c=t6.h.get c:=fun c hc=>by rw [hz2,get_put_ne' _ _ _ _ hc]
 have z2p:z2.h.get t2.n=some (.cells [.int .i64 room,.int .i64 il,.int .i64 ih,.int .i64 ml,.int .i64 mh,.int .i64 cl,.int .i64 ch,.int .i64 0,.int .i64 0] (tag 63)):=by rw [hz2];exact get_put_eq _ _ _ _ rfl (by omega)
 have dz2:Die d z2.h:=by obtain ⟨f,hf'⟩:=d6;exact ⟨f,by rw [z2g _ (by omega)];exact hf'⟩
 generalize hc7:call _ _ _ (.fn 20) _ _=r7
 obtain ⟨wl,wh,t7,rfl,st7,d7,wl0,wl1,wl2⟩:=span_ex hc7 (by omega) dz2 (by omega) (by omega) (by omega) (by omega) (by omega)
 have n7:z2.n≤t7.n:=st7.n
 have k7:t7.n≤z2.n+2:=st7.le
 have p7':t7.h.get t2.n=some (.cells [.int .i64 room,.int .i64 il,.int .i64 ih,.int .i64 ml,.int .i64 mh,.int .i64 cl,.int .i64 ch,.int .i64 0,.int .i64 0] (tag 63)):=(st7.same _ (by omega) (by omega)).trans z2p
 obtain ⟨z3,hz3⟩:∃ z3:St,z3=t7.put t2.n (.cells [.int .i64 room,.int .i64 il,.int .i64 ih,.int .i64 ml,.int .i64 mh,.int .i64 cl,.int .i64 ch,.int .i64 wl,.int .i64 wh] (tag 63)):=⟨_,rfl⟩
 have z3n:z3.n=t7.n:=by rw [hz3];rfl
 have z3m:z3.m=min t7.m t2.n:=by rw [hz3];simp only [St.put,minN_eq]
 have z3g:∀ c,c≠t2.n→z3.h.get c=t7.h.get c:=fun c hc=>by rw [hz3,get_put_ne' _ _ _ _ hc]
 have z3p:z3.h.get t2.n=some (.cells [.int .i64 room,.int .i64 il,.int .i64 ih,.int .i64 ml,.int .i64 mh,.int .i64 cl,.int .i64 ch,.int .i64 wl,.int .i64 wh] (tag 63)):=by rw [hz3];exact get_put_eq _ _ _ _ rfl (by omega)
 have back:∀ c,c<s.n→c≠d→z3.h.get c=s.h.get c:=fun c hc hcd=>by
  rw [z3g c (by omega),st7.same c (by omega) hcd,z2g c (by omega),st6.same c (by omega) hcd,z1g c (by omega),st5.same c (by omega) hcd,p4 c (by omega) hcd,st3.same c (by show c<y.n;omega) hcd]
  show y.h.get c=_
  rw [yg c (by omega),st2.same c (by omega) hcd,st1.same c (by simp only [new_n];omega) hcd,get_new_ne _ _ _ (by omega)]
 have dz3:Die d z3.h:=by obtain ⟨f,hf'⟩:=d7;exact ⟨f,by rw [z3g _ (by omega)];exact hf'⟩
 have g73:z3.h.get p7=some (.cells [.int .i64 a,.int .i64 b,v1,.nilslice,.nilslice] (tag 31)):=(back p7 (by omega) (by omega)).trans g7
 obtain ⟨B,hB⟩:∃ B:Box,B=⟨room,il,ih,ml,mh,cl,ch,wl,wh⟩:=⟨_,rfl⟩
 have hBc:B.cells=[.int .i64 room,.int .i64 il,.int .i64 ih,.int .i64 ml,.int .i64 mh,.int .i64 cl,.int .i64 ch,.int .i64 wl,.int .i64 wh]:=by rw [hB];rfl
 have hR3:Abs.Rows (z3.new (.cells B.cells 0)).h lo (z3.new (.cells B.cells 0)).n 9 (tag 63) (bs.map Box.cells) v1:=hR.mono (fun c hc hcn=>by rw [get_new_ne _ _ _ (by omega)];exact back c hcn (by omega)) (by simp only [new_n];omega)
 obtain ⟨v1',s8,e8,r8,n8,low8,_,m8,mm8,_⟩:=append_row (bytes:=72) (row:=B.cells) hR3 (get_new_eq _ _ _ rfl (by omega)) (by rw [hBc];rfl) (by rw [hBc];rfl) (by rw [List.length_map];omega) (by kernel_rfl) (by simp only [new_n];omega) (by simp only [new_n];omega)
 obtain ⟨ok8,c8,sc8⟩:=r8.scalar
 have sn8:scalars [v1']=true:=by rw [sc8];rfl
 rw [hBc] at e8
 have g78:s8.h.get p7=some (.cells [.int .i64 a,.int .i64 b,v1,.nilslice,.nilslice] (tag 31)):=by rw [low8 p7 hp7,get_new_ne _ _ _ (by omega)];exact g73
 have a8:∀ s,aSub s .i64 (i:Int) 1=.val (.int .i64 ((i:Int) - 1)) s:=fun s=>aSub_i64 s _ _ (by omega)
 simp (disch:=first|omega|(with_unfolding_all exact rfl)|(simp only[new_n,put_n,new_m];omega)|(refine put_m_le ?_;simp only[new_m];omega)) only [res5,K5r0,K5r1,K5r2,K5r3,K5r4,K5r5,K5r6,K5r7,K5r8,K5r9,K5l0,K5r10,K5r11,K5r12s7,K5r12s6,K5r12s5,K5r12s4,K5r12,K5r13,K5r14,K5r15,K5r16,K5l1,K5r17,K5r18,K5r19,K5r20,K5r21,K5r22,K5l2,K5r23,K5,Abs.W,reduceIte,Nat.reduceEqDiff,Nat.reduceAdd,decide_true,decide_false,kLoop_def,Nat.reduceSub,List.cons_append,List.nil_append,List.append_nil,List.length_cons,List.length_nil,Env.find_set,l0,l7,l8,p7',Nat.reduceAdd,Nat.zero_add]
 have g77:=(z3g p7 (by omega)).symm.trans g73
 rw [← hz3]
 simp (disch:=first|omega|(with_unfolding_all exact rfl)|(simp only[new_n,put_n,new_m];omega)|(refine put_m_le ?_;simp only[new_m];omega)) only [res5,K5r0,K5r1,K5r2,K5r3,K5r4,K5r5,K5r6,K5r7,K5r8,K5r9,K5l0,K5r10,K5r11,K5r12s7,K5r12s6,K5r12s5,K5r12s4,K5r12,K5r13,K5r14,K5r15,K5r16,K5l1,K5r17,K5r18,K5r19,K5r20,K5r21,K5r22,K5l2,K5r23,K5,Abs.W,reduceIte,Nat.reduceEqDiff,Nat.reduceAdd,decide_true,decide_false,kLoop_def,Nat.reduceSub,List.cons_append,List.nil_append,List.append_nil,List.length_cons,List.length_nil,Env.find_set,l0,l7,l8,z3p,g73,g77,ok1,e8,g78,c8,sn8,a8,Nat.reduceAdd,Nat.zero_add]
 simp only [new_n] at n8
 refine ⟨_,_,B,v1',rfl,fun t ht=>?_,by simp only [Env.find_set,reduceIte,Nat.reduceEqDiff],?_,by rw [hB];exact hroom.2,?_,get_put_eq _ _ _ _ rfl (by omega),?_,fun c hc hcd hcp=>?_,?_,?_,fun hm=>?_,?_⟩
 ·rcases ht with rfl | rfl | rfl | rfl<;>simp only [Env.find_set,reduceIte,Nat.reduceEqDiff]
 ·rw [hB];constructor<;>simp only<;>omega
 ·obtain ⟨f,hf'⟩:=dz3
  exact ⟨f,by rw [get_put_ne' _ _ _ _ (by omega),low8 d (by omega),get_new_ne _ _ _ (by omega)];exact hf'⟩
 ·rw [List.map_append]
  exact r8.mono (fun c hc _=>get_put_ne' _ _ _ _ (by omega)) (Nat.le_refl _)
 ·rw [get_put_ne' _ _ _ _ hcp,low8 c hc,get_new_ne _ _ _ (by omega)];exact back c (by omega) hcd
 ·simp only [put_n];omega
 ·simp only [put_n];omega
 ·have h1:=st1.m (by rw [new_m];exact hm)
  have h2:=st2.m h1
  have h3:=st3.m (show d≤far by omega)
  have h4:d≤t4.m:=st4.m (by show d≤minN y.m t3.m;rw [minN_eq];omega)
  have h5:=st5.m h4
  have h6:=st6.m (by omega)
  have h7:=st7.m (by omega)
  have h8:=m8 d (by omega) (by rw [new_m];omega)
  simp only [St.put,minN_eq];omega
 ·have h1:=st1.mle
  have h2:=st2.mle
  rw [new_m] at h1
  have h4:t4.m≤minN y.m t3.m:=st4.mle
  rw [minN_eq] at h4
  have h5:=st5.mle
  have h6:=st6.mle
  have h7:=st7.mle
  rw [new_m] at mm8
  simp only [St.put,minN_eq];omega
end Go.Proofs.Ytlfalcghhckanab.walk
set_option maxRecDepth 10000
namespace Go.Proofs.Ytlfalcghhckanab.walk
open Go.Abs Go.Proofs.Ytlfalcghhckanab.code
theorem before_snoc {fs:List Fill} {f:Fill} (h:∀ i (hi:i<fs.length),before fs i≤(fs[i]).hour) (hf:before fs fs.length≤f.hour):∀ i (hi:i<(fs++[f]).length),before (fs++[f]) i≤((fs++[f])[i]).hour:=by
 intro i hi
 have hb:before (fs++[f]) i=before fs i:=by
  cases i with
  | zero=>rfl
  | succ i =>
   rw [List.length_append,List.length_singleton] at hi
   simp only [before,List.getElem?_append_left (show i<fs.length by omega)]
 rw [hb]
 by_cases e:i<fs.length
 ·rw [List.getElem_append_left e];exact h i e
 ·have:i=fs.length:=by rw [List.length_append,List.length_singleton] at hi;omega
  subst this
  rw [List.getElem_append_right (Nat.le_refl _)]
  simpa using hf
theorem rateBefore_snoc {rs:List Rate} {r:Rate} (h:∀ i (hi:i<rs.length),(rateBefore rs i).above<(rs[i]).above∧(rateBefore rs i).loss≤(rs[i]).loss) (hf:(rateBefore rs rs.length).above<r.above∧(rateBefore rs rs.length).loss≤r.loss) :
  ∀ i (hi:i<(rs++[r]).length),(rateBefore (rs++[r]) i).above<((rs++[r])[i]).above∧(rateBefore (rs++[r]) i).loss≤((rs++[r])[i]).loss:=by
 intro i hi
 have hb:rateBefore (rs++[r]) i=rateBefore rs i:=by
  cases i with
  | zero=>rfl
  | succ i =>
   rw [List.length_append,List.length_singleton] at hi
   simp only [rateBefore,List.getElem?_append_left (show i<rs.length by omega)]
 rw [hb]
 by_cases e:i<rs.length
 ·rw [List.getElem_append_left e];exact h i e
 ·have:i=rs.length:=by rw [List.length_append,List.length_singleton] at hi;omega
  subst this
  rw [List.getElem_append_right (Nat.le_refl _)]
  simpa using hf
theorem before_last (fs:List Fill) (f:Fill):before (fs++[f]) (fs++[f]).length=f.hour:=by
 rw [List.length_append,List.length_singleton]
 unfold before
 simp
theorem rateBefore_last (rs:List Rate) (r:Rate):rateBefore (rs++[r]) (rs++[r]).length=r:=by
 rw [List.length_append,List.length_singleton]
 unfold rateBefore
 simp
theorem rate_round (N:Nat) (hN:4≤N) (cx:Ctx) (d p7 lo i:Nat) (a b above loss:Int) (v1 v2 v3:AV) (rs:List Rate) (L:Env) (s:St) (hi:0<i) (hi6:i≤10) (hd:Die d s.h) (hdp:d<p7) (hp7:p7<lo) (hlo:lo≤s.n) (hs:s.n+1000≤far)
  (g7:s.h.get p7=some (.cells [.int .i64 a,.int .i64 b,v1,v2,v3] (tag 31))) (hR:Abs.Rows s.h lo s.n 2 (tag 67) (rs.map Rate.cells) v3) (hrl:rs.length≤10) (ha : -1000≤above∧above≤10000) (hl:0≤loss∧loss≤10000)
  (l0:L.find 0=.ptr d 0) (l7:L.find 7=.ptr p7 0) (l13:L.find 13=.int .i64 above) (l14:L.find 14=.int .i64 loss) (l15:L.find 15=.int .i64 i) :
  ∃ L1 s1 above' loss' v3',K5l2 (call Try.prog X N) cx L [] s=.done .norm L1 [] s1∧(∀ t,t=0∨t=6∨t=7→L1.find t=L.find t)∧L1.find 13=.int .i64 above'∧L1.find 14=.int .i64 loss'∧L1.find 15=.int .i64 ((i:Int) - 1)∧(above<above'∧above'≤above+60)∧(loss≤loss'∧loss'≤loss+8)∧Die d s1.h ∧
   s1.h.get p7=some (.cells [.int .i64 a,.int .i64 b,v1,v2,v3'] (tag 31))∧Abs.Rows s1.h lo s1.n 2 (tag 67) ((rs++[(⟨above,loss⟩:Rate)]).map Rate.cells) v3'∧(∀ c,c<lo→c≠d→c≠p7→s1.h.get c=s.h.get c)∧s.n≤s1.n∧s1.n≤s.n+20∧(d≤s.m→d≤s1.m)∧s1.m≤s.m:=by
 have hf:far=1000000000:=rfl
 have e0:decide ((0:Int)<(i:Int))=true:=by simp;omega
 obtain ⟨ok1,c1,sc1⟩:=hR.scalar
 have hR3:Abs.Rows (s.new (.cells [.int .i64 above,.int .i64 loss] 0)).h lo (s.new (.cells [.int .i64 above,.int .i64 loss] 0)).n 2 (tag 67) (rs.map Rate.cells) v3:=hR.mono (fun c hc hcn=>get_new_ne _ _ _ (by omega)) (by simp only [new_n];omega)
 obtain ⟨v3',s8,e8,r8,n8,low8,_,m8,mm8,_⟩:=append_row (bytes:=16) (row:=[.int .i64 above,.int .i64 loss]) hR3 (get_new_eq _ _ _ rfl (by omega)) rfl rfl (by rw [List.length_map];omega) (by kernel_rfl) (by simp only [new_n];omega) (by simp only [new_n];omega)
 obtain ⟨ok8,c8,sc8⟩:=r8.scalar
 have sn8:scalars [v3']=true:=by rw [sc8];rfl
 simp only [new_n] at n8
 have g78:s8.h.get p7=some (.cells [.int .i64 a,.int .i64 b,v1,v2,v3] (tag 31)):=by rw [low8 p7 hp7,get_new_ne _ _ _ (by omega)];exact g7
 simp (disch:=first|omega|(with_unfolding_all exact rfl)|(simp only[new_n,put_n,new_m];omega)|(refine put_m_le ?_;simp only[new_m];omega)) only [res5,K5r0,K5r1,K5r2,K5r3,K5r4,K5r5,K5r6,K5r7,K5r8,K5r9,K5l0,K5r10,K5r11,K5r12s7,K5r12s6,K5r12s5,K5r12s4,K5r12,K5r13,K5r14,K5r15,K5r16,K5l1,K5r17,K5r18,K5r19,K5r20,K5r21,K5r22,K5l2,K5r23,K5,Abs.W,reduceIte,Nat.reduceEqDiff,Nat.reduceAdd,decide_true,decide_false,kLoop_def,Nat.reduceSub,List.cons_append,List.nil_append,List.append_nil,List.length_cons,List.length_nil,Env.find_set,l0,l7,l13,l14,l15,e0,g7,ok1,e8,g78,c8,sn8,Nat.reduceAdd,Nat.zero_add]
 obtain ⟨z,hz⟩:∃ z:St,z=s8.put p7 (.cells [.int .i64 a,.int .i64 b,v1,v2,v3'] (tag 31)):=⟨_,rfl⟩
 rw [← hz]
 have zn:z.n=s8.n:=by rw [hz];rfl
 have zm:z.m=min s8.m p7:=by rw [hz];simp only [St.put,minN_eq]
 have zg:∀ c,c≠p7→z.h.get c=s8.h.get c:=fun c hc=>by rw [hz,get_put_ne' _ _ _ _ hc]
 have zp:z.h.get p7=some (.cells [.int .i64 a,.int .i64 b,v1,v2,v3'] (tag 31)):=by rw [hz];exact get_put_eq _ _ _ _ rfl (by omega)
 have dz:Die d z.h:=by obtain ⟨f,hf'⟩:=hd;exact ⟨f,by rw [zg _ (by omega),low8 d (by omega),get_new_ne _ _ _ (by omega)];exact hf'⟩
 generalize hc1:call _ _ _ (.fn 21) _ _=r1
 obtain ⟨x1,t1,rfl,st1,d1,x10,x11⟩:=from_ex hc1 (by omega) dz (by omega) (by omega) (by omega) (by omega) (by omega) (by omega)
 have n1:z.n≤t1.n:=st1.n
 have k1:t1.n≤z.n:=st1.le
 have a1:∀ s,aAdd s .i64 above x1=.val (.int .i64 (above+x1)) s:=fun s=>aAdd_i64 s _ _ (by omega)
 simp (disch:=first|omega|(with_unfolding_all exact rfl)|(simp only[new_n,put_n,new_m];omega)|(refine put_m_le ?_;simp only[new_m];omega)) only [res5,K5r0,K5r1,K5r2,K5r3,K5r4,K5r5,K5r6,K5r7,K5r8,K5r9,K5l0,K5r10,K5r11,K5r12s7,K5r12s6,K5r12s5,K5r12s4,K5r12,K5r13,K5r14,K5r15,K5r16,K5l1,K5r17,K5r18,K5r19,K5r20,K5r21,K5r22,K5l2,K5r23,K5,Abs.W,reduceIte,Nat.reduceEqDiff,Nat.reduceAdd,decide_true,decide_false,kLoop_def,Nat.reduceSub,List.cons_append,List.nil_append,List.append_nil,List.length_cons,List.length_nil,Env.find_set,l0,l7,l13,l14,l15,a1]
 generalize hc2:call _ _ _ (.fn 8) _ _=r2
 obtain ⟨x2,t2,rfl,st2,d2,x20,x21⟩:=cast_ex hc2 (by omega) d1 (by omega) (by omega) (by omega)
 have n2:t1.n≤t2.n:=st2.n
 have k2:t2.n≤t1.n:=st2.le
 have a2:∀ s,aAdd s .i64 loss x2=.val (.int .i64 (loss+x2)) s:=fun s=>aAdd_i64 s _ _ (by omega)
 have a8:∀ s,aSub s .i64 (i:Int) 1=.val (.int .i64 ((i:Int) - 1)) s:=fun s=>aSub_i64 s _ _ (by omega)
 simp (disch:=first|omega|(with_unfolding_all exact rfl)|(simp only[new_n,put_n,new_m];omega)|(refine put_m_le ?_;simp only[new_m];omega)) only [res5,K5r0,K5r1,K5r2,K5r3,K5r4,K5r5,K5r6,K5r7,K5r8,K5r9,K5l0,K5r10,K5r11,K5r12s7,K5r12s6,K5r12s5,K5r12s4,K5r12,K5r13,K5r14,K5r15,K5r16,K5l1,K5r17,K5r18,K5r19,K5r20,K5r21,K5r22,K5l2,K5r23,K5,Abs.W,reduceIte,Nat.reduceEqDiff,Nat.reduceAdd,decide_true,decide_false,kLoop_def,Nat.reduceSub,List.cons_append,List.nil_append,List.append_nil,List.length_cons,List.length_nil,Env.find_set,l0,l7,l13,l14,l15,a2,a8]
 have back:∀ c,c<z.n→c≠d→t2.h.get c=z.h.get c:=fun c hc hcd=>(st2.same c (by omega) hcd).trans (st1.same c hc hcd)
 refine ⟨_,_,above+x1,loss+x2,v3',rfl,fun t ht=>?_,by simp only [Env.find_set,reduceIte,Nat.reduceEqDiff],by simp only [Env.find_set,reduceIte,Nat.reduceEqDiff],by simp only [Env.find_set,reduceIte,Nat.reduceEqDiff],by omega,by omega,d2,(back p7 (by omega) (by omega)).trans zp,?_,fun c hc hcd hcp=>?_,by omega,by omega,fun hm=>?_,?_⟩
 ·rcases ht with rfl | rfl | rfl<;>simp only [Env.find_set,reduceIte,Nat.reduceEqDiff]
 ·rw [List.map_append]
  exact r8.mono (fun c hc hcn=>(back c (by omega) (by omega)).trans (zg c (by omega))) (by omega)
 ·rw [back c (by omega) hcd,zg c hcp,low8 c hc,get_new_ne _ _ _ (by omega)]
 ·have h8:=m8 d (by omega) (by rw [new_m];exact hm)
  exact st2.m (st1.m (by omega))
 ·have h1:=st1.mle
  have h2:=st2.mle
  rw [new_m] at mm8
  omega
theorem filling_round (N:Nat) (hN:4≤N) (cx:Ctx) (d p7 lo i:Nat) (a b hour:Int) (v1 v2 v3:AV) (bs:List Box) (fs:List Fill) (L:Env) (s:St) (hi:0<i) (hi6:i≤10) (hd:Die d s.h) (hdp:d<p7) (hp7:p7<lo) (hlo:lo≤s.n) (hs:s.n+1000≤far)
  (hB:RowsAt s.h lo 9 (bs.map Box.cells) v1) (hdB:∀ i (hi:i<bs.length),∃ b p c sz,b<lo∧b≠d∧(∀ s,ixsA 9 s v1 (.int .i64 i)=.val (.ptr b p) s)∧s.h.get b=some (.cells c sz)∧cut p 9 c=some (bs[i]).cells) (hbl:0<bs.length∧bs.length≤10) (hbr:∀ b ∈ bs,0≤b.room∧b.room≤500)
  (g7:s.h.get p7=some (.cells [.int .i64 a,.int .i64 b,v1,v2,v3] (tag 31))) (hR:Abs.Rows s.h lo s.n 3 (tag 65) (fs.map Fill.cells) v2) (hfl:fs.length≤10) (hh:0≤hour∧hour≤1000)
  (l0:L.find 0=.ptr d 0) (l7:L.find 7=.ptr p7 0) (l10:L.find 10=.int .i64 hour) (l11:L.find 11=.int .i64 i) :
  ∃ (L1:Env) (s1:St) (F:Fill) (v2':AV),K5l1 (call Try.prog X N) cx L [] s=.done .norm L1 [] s1∧(∀ t,t=0∨t=6∨t=7→L1.find t=L.find t)∧L1.find 10=.int .i64 F.hour∧L1.find 11=.int .i64 ((i:Int) - 1)∧(hour≤F.hour∧F.hour≤hour+5)∧(0≤F.box∧F.box<bs.length)∧(0≤F.grams∧F.grams≤1000)∧Die d s1.h ∧
   s1.h.get p7=some (.cells [.int .i64 a,.int .i64 b,v1,v2',v3] (tag 31))∧Abs.Rows s1.h lo s1.n 3 (tag 65) ((fs++[F]).map Fill.cells) v2'∧(∀ c,c<lo→c≠d→c≠p7→s1.h.get c=s.h.get c)∧s.n≤s1.n∧s1.n≤s.n+20∧(d≤s.m→d≤s1.m)∧s1.m≤s.m:=by
 have hf:far=1000000000:=rfl
 have e0:decide ((0:Int)<(i:Int))=true:=by simp;omega
 have e1:decide ((0:Int)<(bs.length:Int))=true:=by simp;omega
 obtain ⟨ok2,c2,sc2⟩:=hR.scalar
 have ok1:∀ t,okA (.val v1 t)=.val v1 t:=fun t=>okA_ne hB.ne
 have len1:=hB.len
 rw [List.length_map] at len1
 simp (disch:=first|omega|(with_unfolding_all exact rfl)|(simp only[new_n,put_n,new_m];omega)|(refine put_m_le ?_;simp only[new_m];omega)) only [res5,K5r0,K5r1,K5r2,K5r3,K5r4,K5r5,K5r6,K5r7,K5r8,K5r9,K5l0,K5r10,K5r11,K5r12s7,K5r12s6,K5r12s5,K5r12s4,K5r12,K5r13,K5r14,K5r15,K5r16,K5l1,K5r17,K5r18,K5r19,K5r20,K5r21,K5r22,K5l2,K5r23,K5,Abs.W,reduceIte,Nat.reduceEqDiff,Nat.reduceAdd,decide_true,decide_false,kLoop_def,Nat.reduceSub,List.cons_append,List.nil_append,List.append_nil,List.length_cons,List.length_nil,Env.find_set,l0,l7,l10,l11,e0,e1,g7,ok1,len1,gtrA_i64,pickA_true,Nat.reduceAdd,Nat.zero_add]
 generalize hc1:call _ _ _ (.fn 8) _ _=r1
 obtain ⟨x1,t1,rfl,st1,d1,x10,x11⟩:=cast_ex hc1 (by omega) hd (by omega) (by omega) (by omega)
 have n1:s.n≤t1.n:=st1.n
 have k1:t1.n≤s.n:=st1.le
 have a1:∀ s,aAdd s .i64 hour x1=.val (.int .i64 (hour+x1)) s:=fun s=>aAdd_i64 s _ _ (by omega)
 have g71:=(st1.same p7 (by omega) (by omega)).trans g7
 simp (disch:=first|omega|(with_unfolding_all exact rfl)|(simp only[new_n,put_n,new_m];omega)|(refine put_m_le ?_;simp only[new_m];omega)) only [res5,K5r0,K5r1,K5r2,K5r3,K5r4,K5r5,K5r6,K5r7,K5r8,K5r9,K5l0,K5r10,K5r11,K5r12s7,K5r12s6,K5r12s5,K5r12s4,K5r12,K5r13,K5r14,K5r15,K5r16,K5l1,K5r17,K5r18,K5r19,K5r20,K5r21,K5r22,K5l2,K5r23,K5,Abs.W,reduceIte,Nat.reduceEqDiff,Nat.reduceAdd,decide_true,decide_false,kLoop_def,Nat.reduceSub,List.cons_append,List.nil_append,List.append_nil,List.length_cons,List.length_nil,Env.find_set,l0,l7,l10,l11,a1,g71,ok1,len1,Nat.reduceAdd,Nat.zero_add]
 generalize hc2:call _ _ _ (.fn 8) _ _=r2
 obtain ⟨x2,t2,rfl,st2,d2,x20,x21⟩:=cast_ex hc2 (by omega) d1 (by omega) (by omega) (by omega)
 have n2:t1.n≤t2.n:=st2.n
 have k2:t2.n≤t1.n:=st2.le
 have g72:=(st2.same p7 (by omega) (by omega)).trans g71
 have hx2:x2.toNat<bs.length:=by omega
 obtain ⟨bb,pp,cc,zz,hb1,hb2,hix,hgb,hcut⟩:=hdB x2.toNat hx2
 have hx2e:((x2.toNat:Nat):Int)=x2:=by omega
 rw [hx2e] at hix
 have gb2:t2.h.get bb=some (.cells cc zz):=(st2.same bb (by omega) hb2).trans ((st1.same bb (by omega) hb2).trans hgb)
 have hroom:=hbr _ (List.getElem_mem hx2)
 have hn0:nth cc pp=.int .i64 (bs[x2.toNat]).room:=by
  obtain ⟨q,t,h1,h2,_⟩:=cut_some hcut
  subst h1
  have nsk:∀ (a l:List AV) (k:Nat),nth (a++l) (a.length+k)=nth l k:=by
   intro a
   induction a with
   | nil=>intro l k;rw [List.length_nil,Nat.zero_add,List.nil_append]
   | cons x a ih=>intro l k;rw [List.length_cons,List.cons_append,show a.length+1+k=(a.length+k)+1 by omega,nth_cons,if_neg (by omega)];exact ih l k
  have:=nsk q ((bs[x2.toNat]).cells++t) 0
  rw [Nat.add_zero,h2] at this
  rw [List.append_assoc,this]
  rfl
 generalize (bs[x2.toNat]).room=room at hroom hn0
 have a3:∀ s,aAdd s .i64 room 5=.val (.int .i64 (room+5)) s:=fun s=>aAdd_i64 s _ _ (by omega)
 simp (disch:=first|omega|(with_unfolding_all exact rfl)|(simp only[new_n,put_n,new_m];omega)|(refine put_m_le ?_;simp only[new_m];omega)) only [res5,K5r0,K5r1,K5r2,K5r3,K5r4,K5r5,K5r6,K5r7,K5r8,K5r9,K5l0,K5r10,K5r11,K5r12s7,K5r12s6,K5r12s5,K5r12s4,K5r12,K5r13,K5r14,K5r15,K5r16,K5l1,K5r17,K5r18,K5r19,K5r20,K5r21,K5r22,K5l2,K5r23,K5,Abs.W,reduceIte,Nat.reduceEqDiff,Nat.reduceAdd,decide_true,decide_false,kLoop_def,Nat.reduceSub,List.cons_append,List.nil_append,List.append_nil,List.length_cons,List.length_nil,Env.find_set,l0,l7,l10,l11,g72,ok1,ok2,hix,gb2,hn0,a3,Nat.reduceAdd,Nat.zero_add,Nat.add_zero]
 generalize hc3:call _ _ _ (.fn 8) _ _=r3
 obtain ⟨x3,t3,rfl,st3,d3,x30,x31⟩:=cast_ex hc3 (by omega) d2 (by show d<t2.n;omega) (by show t2.n+100≤far;omega) (by omega)
 have n3:t2.n≤t3.n:=st3.n
 have k3:t3.n≤t2.n:=st3.le
 have st3':Stir d t2 ⟨t3.h,t3.n,minN t2.m t3.m⟩ 0:=Stir.draw st3 (by omega)
 obtain ⟨y,hy⟩:∃ y:St,y=⟨t3.h,t3.n,minN t2.m t3.m⟩:=⟨_,rfl⟩
 have yn:y.n=t3.n:=by rw [hy]
 have yh:y.h=t3.h:=by rw [hy]
 have back:∀ c,c<s.n→c≠d→y.h.get c=s.h.get c:=fun c hc hcd=>by
  rw [yh,st3.same c (by show c<t2.n;omega) hcd]
  exact (st2.same c (by omega) hcd).trans (st1.same c (by omega) hcd)
 have g73:t3.h.get p7=some (.cells [.int .i64 a,.int .i64 b,v1,v2,v3] (tag 31)):=by rw [← yh];exact (back p7 (by omega) (by omega)).trans g7
 obtain ⟨F,hF⟩:∃ F:Fill,F=⟨x2,hour+x1,x3⟩:=⟨_,rfl⟩
 have hR3:Abs.Rows (y.new (.cells [.int .i64 x2,.int .i64 (hour+x1),.int .i64 x3] 0)).h lo (y.new (.cells [.int .i64 x2,.int .i64 (hour+x1),.int .i64 x3] 0)).n 3 (tag 65) (fs.map Fill.cells) v2:=hR.mono (fun c hc hcn=>by rw [get_new_ne _ _ _ (by omega)];exact back c hcn (by omega)) (by simp only [new_n];omega)
 obtain ⟨v2',s8,e8,r8,n8,low8,_,m8,mm8,_⟩:=append_row (bytes:=24) (row:=[.int .i64 x2,.int .i64 (hour+x1),.int .i64 x3]) hR3 (get_new_eq _ _ _ rfl (by omega)) rfl rfl (by rw [List.length_map];omega) (by kernel_rfl) (by simp only [new_n];omega) (by simp only [new_n];omega)
 rw [hy] at e8
 have e8':appendA false 3 24 (tag 65) (St.new ⟨t3.h,t3.n,minN t2.m t3.m⟩ (.cells [.int .i64 x2,.int .i64 (hour+x1),.int .i64 x3] 0)) v2 (.slice t3.n 0 1 1 false)=.val v2' s8:=e8
 obtain ⟨ok8,c8,sc8⟩:=r8.scalar
 have sn8:scalars [v2']=true:=by rw [sc8];rfl
 simp only [new_n] at n8
 have g78:s8.h.get p7=some (.cells [.int .i64 a,.int .i64 b,v1,v2,v3] (tag 31)):=by rw [low8 p7 hp7,get_new_ne _ _ _ (by omega),yh];exact g73
 have a8:∀ s,aSub s .i64 (i:Int) 1=.val (.int .i64 ((i:Int) - 1)) s:=fun s=>aSub_i64 s _ _ (by omega)
 simp (disch:=first|omega|(with_unfolding_all exact rfl)|(simp only[new_n,put_n,new_m];omega)|(refine put_m_le ?_;simp only[new_m];omega)) only [res5,K5r0,K5r1,K5r2,K5r3,K5r4,K5r5,K5r6,K5r7,K5r8,K5r9,K5l0,K5r10,K5r11,K5r12s7,K5r12s6,K5r12s5,K5r12s4,K5r12,K5r13,K5r14,K5r15,K5r16,K5l1,K5r17,K5r18,K5r19,K5r20,K5r21,K5r22,K5l2,K5r23,K5,Abs.W,reduceIte,Nat.reduceEqDiff,Nat.reduceAdd,decide_true,decide_false,kLoop_def,Nat.reduceSub,List.cons_append,List.nil_append,List.append_nil,List.length_cons,List.length_nil,Env.find_set,l0,l7,l10,l11,thenT_turn,e8',g78,c8,sn8,Nat.reduceAdd,Nat.zero_add]
 rw [endT_kept (by simp only [keptAll_cons,keptAll_nil,find_cons,keptV_ptr,g72,g73,sameO_cells,reduceIte,Nat.reduceEqDiff,Bool.and_self])]
 simp (disch:=first|omega|(with_unfolding_all exact rfl)|(simp only[new_n,put_n,new_m];omega)|(refine put_m_le ?_;simp only[new_m];omega)) only [res5,K5r0,K5r1,K5r2,K5r3,K5r4,K5r5,K5r6,K5r7,K5r8,K5r9,K5l0,K5r10,K5r11,K5r12s7,K5r12s6,K5r12s5,K5r12s4,K5r12,K5r13,K5r14,K5r15,K5r16,K5l1,K5r17,K5r18,K5r19,K5r20,K5r21,K5r22,K5l2,K5r23,K5,Abs.W,reduceIte,Nat.reduceEqDiff,Nat.reduceAdd,decide_true,decide_false,kLoop_def,Nat.reduceSub,List.cons_append,List.nil_append,List.append_nil,List.length_cons,List.length_nil,Env.find_set,l0,l7,l10,l11,endO_nil,regD_ok,a8]
 refine ⟨_,_,F,v2',rfl,fun t ht=>?_,by rw [hF];simp only [Env.find_set,reduceIte,Nat.reduceEqDiff],by simp only [Env.find_set,reduceIte,Nat.reduceEqDiff],by rw [hF];simp only;omega,by rw [hF];simp only;omega,by rw [hF];simp only;omega,?_,get_put_eq _ _ _ _ rfl (by omega),?_,fun c hc hcd hcp=>?_,?_,?_,fun hm=>?_,?_⟩
 ·rcases ht with rfl | rfl | rfl<;>simp only [Env.find_set,reduceIte,Nat.reduceEqDiff]
 ·obtain ⟨f,hf'⟩:=d3
  exact ⟨f,by rw [get_put_ne' _ _ _ _ (by omega),low8 d (by omega),get_new_ne _ _ _ (by omega),yh];exact hf'⟩
 ·rw [List.map_append,hF]
  exact r8.mono (fun c hc _=>get_put_ne' _ _ _ _ (by omega)) (Nat.le_refl _)
 ·rw [get_put_ne' _ _ _ _ hcp,low8 c hc,get_new_ne _ _ _ (by omega)];exact back c (by omega) hcd
 ·simp only [put_n];omega
 ·simp only [put_n];omega
 ·have h8:=m8 d (by omega) (by rw [new_m,hy];exact st3'.m (st2.m (st1.m hm)))
  simp only [St.put,minN_eq];omega
 ·have h1:=st1.mle
  have h2:=st2.mle
  have h3:=st3'.mle
  rw [new_m,hy] at mm8
  have mm8':s8.m≤minN t2.m t3.m:=mm8
  rw [minN_eq] at mm8'
  simp only [St.put,minN_eq];omega
end Go.Proofs.Ytlfalcghhckanab.walk
set_option maxRecDepth 10000
namespace Go.Abs
structure Going (d p lo:Nat) (u s:St) (k:Nat):Prop where
 same:∀ c,c<lo→c≠d→c≠p→s.h.get c=u.h.get c
 n:u.n≤s.n
 le:s.n≤u.n+k
 m:d≤u.m→d≤s.m
 mle:s.m≤u.m
theorem Going.refl (d p lo:Nat) (u:St):Going d p lo u u 0:=⟨fun _ _ _ _=>rfl,Nat.le_refl _,Nat.le_refl _,fun h=>h,Nat.le_refl _⟩
theorem Going.trans {d p lo lo':Nat} {u s t:St} {k j i:Nat} (a:Going d p lo u s k) (b:Going d p lo' s t j) (h:lo≤lo') (hi:k+j≤i):Going d p lo u t i :=
 ⟨fun c hc h1 h2=>(b.same c (by omega) h1 h2).trans (a.same c hc h1 h2),Nat.le_trans a.n b.n,by have:=a.le;have:=b.le;omega,fun h=>b.m (a.m h),Nat.le_trans b.mle a.mle⟩
end Go.Abs
namespace Go.Proofs.Ytlfalcghhckanab.walk
open Go.Abs Go.Proofs.Ytlfalcghhckanab.code
theorem boxes_loop {N:Nat} {r:R} {L:Env} {s:St} {cx:Ctx} {d p7:Nat} {a b:Int} (M:Nat) (hr:loopN K5l0 rounds (call Try.prog X N) cx L [] s=r) (hN:5≤N) (hX:M≤6) (hd:Die d s.h) (hdp:d<p7) (hpn:p7<s.n) (hs:s.n+2000≤far)
  (g7:s.h.get p7=some (.cells [.int .i64 a,.int .i64 b,.nilslice,.nilslice,.nilslice] (tag 31))) (l0:L.find 0=.ptr d 0) (l7:L.find 7=.ptr p7 0) (l8:L.find 8=.int .i64 (M:Int)) :
  ∃ (L1:Env) (s1:St) (bs:List Box) (v1:AV),r=.done (.exit 0) L1 [] s1∧(∀ t,t=0∨t=2∨t=6∨t=7→L1.find t=L.find t)∧bs.length=M∧(∀ B ∈ bs,B.Ok∧B.room≤500)∧Die d s1.h ∧
   s1.h.get p7=some (.cells [.int .i64 a,.int .i64 b,v1,.nilslice,.nilslice] (tag 31))∧Abs.Rows s1.h (p7+1) s1.n 9 (tag 63) (bs.map Box.cells) v1∧Going d p7 (p7+1) s s1 (20 * M):=by
 have hf:far=1000000000:=rfl
 obtain ⟨e,L1,s1,rfl,rfl,bs,v1,h⟩:=loop_of hr
  (fun i L' t=>∃ (bs:List Box) (v1:AV),bs.length=i∧(∀ B ∈ bs,B.Ok∧B.room≤500)∧(∀ q,q=0∨q=2∨q=6∨q=7→L'.find q=L.find q)∧L'.find 8=.int .i64 ((M:Int) - i)∧Die d t.h ∧
   t.h.get p7=some (.cells [.int .i64 a,.int .i64 b,v1,.nilslice,.nilslice] (tag 31))∧Abs.Rows t.h (p7+1) t.n 9 (tag 63) (bs.map Box.cells) v1∧Going d p7 (p7+1) s t (20 * i))
  (fun e L1 s1=>e=.exit 0∧∃ (bs:List Box) (v1:AV),(∀ t,t=0∨t=2∨t=6∨t=7→L1.find t=L.find t)∧bs.length=M∧(∀ B ∈ bs,B.Ok∧B.room≤500)∧Die d s1.h ∧
   s1.h.get p7=some (.cells [.int .i64 a,.int .i64 b,v1,.nilslice,.nilslice] (tag 31))∧Abs.Rows s1.h (p7+1) s1.n 9 (tag 63) (bs.map Box.cells) v1∧Going d p7 (p7+1) s s1 (20 * M))
  M (by unfold rounds;omega)
  ⟨[],.nilslice,rfl,fun B hB=>(by cases hB),fun _ _=>rfl,by rw [l8];simp,hd,g7,Abs.Rows.nil _ _ _ _ _,Going.refl _ _ _ _⟩
  (fun i L' t hi ⟨bs,v1,q1,q2,q3,q4,q5,q6,q7,q8⟩=>by
   have tn:=q8.n
   have tl:=q8.le
   by_cases hlt:i<M
   ·obtain ⟨L1,s1,B,v1',p0,p1,p2,p3,p4,p5,p6,p7',p8,p9,p10,p11,p12⟩:=box_round N hN cx d p7 (p7+1) (M - i) a b v1 bs L' t (by omega) (by omega) q5 hdp (by omega) (by omega) (by omega) q6 q7 (by omega) ((q3 0 (by simp)).trans l0) ((q3 7 (by simp)).trans l7) (by rw [q4];congr 1;omega)
    refine .inl ⟨hlt,L1,s1,p0,bs++[B],v1',by rw [List.length_append,q1];rfl,fun B' hB'=>?_,fun q hq=>(p1 q hq).trans (q3 q hq),by rw [p2];congr 1;omega,p5,p6,p7',q8.trans ⟨p8,p9,p10,p11,p12⟩ (Nat.le_refl _) (by omega)⟩
    rcases List.mem_append.mp hB' with h | h
    ·exact q2 B' h
    ·rw [List.mem_singleton.mp h];exact ⟨p3,p4⟩
   ·obtain rfl:i=M:=by omega
    have e0:decide ((0:Int)<(i:Int) - i)=false:=by simp
    refine .inr ⟨.exit 0,L'.set 24 (.bool false),t,by simp,?_,rfl,bs,v1,fun q hq=>?_,q1,q2,q5,q6,q7,q8⟩
    ·simp (disch:=first|omega|(with_unfolding_all exact rfl)|(simp only[new_n,put_n,new_m];omega)|(refine put_m_le ?_;simp only[new_m];omega)) only [res5,K5r0,K5r1,K5r2,K5r3,K5r4,K5r5,K5r6,K5r7,K5r8,K5r9,K5l0,K5r10,K5r11,K5r12s7,K5r12s6,K5r12s5,K5r12s4,K5r12,K5r13,K5r14,K5r15,K5r16,K5l1,K5r17,K5r18,K5r19,K5r20,K5r21,K5r22,K5l2,K5r23,K5,Abs.W,reduceIte,Nat.reduceEqDiff,Nat.reduceAdd,decide_true,decide_false,kLoop_def,Nat.reduceSub,List.cons_append,List.nil_append,List.append_nil,List.length_cons,List.length_nil,Env.find_set,q4,e0]
    ·rw [← q3 q hq]
     rcases hq with rfl | rfl | rfl | rfl<;>simp only [Env.find_set,reduceIte,Nat.reduceEqDiff])
 exact ⟨L1,s1,bs,v1,rfl,h⟩
theorem fillings_loop {N:Nat} {r:R} {L:Env} {s:St} {cx:Ctx} {d p7:Nat} {a b:Int} {v1:AV} {bs:List Box} (M:Nat) (hr:loopN K5l1 rounds (call Try.prog X N) cx L [] s=r) (hN:4≤N) (hX:M≤10) (hd:Die d s.h) (hdp:d<p7) (hpn:p7<s.n) (hs:s.n+2000≤far)
  (hB:Abs.Rows s.h (p7+1) s.n 9 (tag 63) (bs.map Box.cells) v1) (hbl:bs.length≤6) (hbr:∀ b ∈ bs,0≤b.room∧b.room≤500)
  (g7:s.h.get p7=some (.cells [.int .i64 a,.int .i64 b,v1,.nilslice,.nilslice] (tag 31))) (l0:L.find 0=.ptr d 0) (l7:L.find 7=.ptr p7 0) (l10:L.find 10=.int .i64 0) (l11:L.find 11=.int .i64 (M:Int)) :
  ∃ (L1:Env) (s1:St) (fs:List Fill) (v2:AV),r=.done (.exit 2) L1 [] s1∧(∀ t,t=0∨t=6∨t=7→L1.find t=L.find t)∧fs.length≤M∧(∀ f ∈ fs,f.Ok bs.length)∧(∀ i (h:i<fs.length),before fs i≤(fs[i]).hour)∧Die d s1.h ∧
   s1.h.get p7=some (.cells [.int .i64 a,.int .i64 b,v1,v2,.nilslice] (tag 31))∧Abs.Rows s1.h s.n s1.n 3 (tag 65) (fs.map Fill.cells) v2∧Going d p7 s.n s s1 (20 * M):=by
 have hf:far=1000000000:=rfl
 obtain ⟨ok1,_,_⟩:=hB.scalar
 have len1:=hB.len
 rw [List.length_map] at len1
 obtain ⟨e,L1,s1,rfl,rfl,fs,v2,h⟩:=loop_of hr
  (fun i L' t=>∃ (fs:List Fill) (v2:AV),fs.length=i∧(∀ f ∈ fs,f.Ok bs.length)∧(∀ i (h:i<fs.length),before fs i≤(fs[i]).hour)∧(0≤before fs fs.length∧before fs fs.length≤5 * i)∧(∀ q,q=0∨q=6∨q=7→L'.find q=L.find q)∧L'.find 10=.int .i64 (before fs fs.length)∧L'.find 11=.int .i64 ((M:Int) - i)∧Die d t.h ∧
   t.h.get p7=some (.cells [.int .i64 a,.int .i64 b,v1,v2,.nilslice] (tag 31))∧Abs.Rows t.h s.n t.n 3 (tag 65) (fs.map Fill.cells) v2∧Going d p7 s.n s t (20 * i))
  (fun e L1 s1=>e=.exit 2∧∃ (fs:List Fill) (v2:AV),(∀ t,t=0∨t=6∨t=7→L1.find t=L.find t)∧fs.length≤M∧(∀ f ∈ fs,f.Ok bs.length)∧(∀ i (h:i<fs.length),before fs i≤(fs[i]).hour)∧Die d s1.h ∧
   s1.h.get p7=some (.cells [.int .i64 a,.int .i64 b,v1,v2,.nilslice] (tag 31))∧Abs.Rows s1.h s.n s1.n 3 (tag 65) (fs.map Fill.cells) v2∧Going d p7 s.n s s1 (20 * M))
  M (by unfold rounds;omega)
  ⟨[],.nilslice,rfl,fun B hB=>(by cases hB),fun i h=>absurd h (Nat.not_lt_zero _),⟨Int.le_refl _,by show (0:Int)≤5 * ((0:Nat):Int);omega⟩,fun _ _=>rfl,by rw [l10];rfl,by rw [l11];simp,hd,g7,Abs.Rows.nil _ _ _ _ _,Going.refl _ _ _ _⟩
  (fun i L' t hi ⟨fs,v2,q1,q2,qo,qb,q3,q4,q4',q5,q6,q7,q8⟩=>by
   have tn:=q8.n
   have tl:=q8.le
   have hBt:Abs.Rows t.h (p7+1) s.n 9 (tag 63) (bs.map Box.cells) v1:=hB.mono (fun c hc hcn=>q8.same c hcn (by omega) (by omega)) (Nat.le_refl _)
   have l0':=(q3 0 (by simp)).trans l0
   have l7':=(q3 7 (by simp)).trans l7
   by_cases hlt:i<M∧0<bs.length
   ·obtain ⟨L1,s1,F,v2',p0,p1,p2,p3,p4,p5,p6,p7',p8,p9,p10,p11,p12,p13,p14⟩:=filling_round N hN cx d p7 s.n (M - i) a b (before fs fs.length) v1 v2 .nilslice bs fs L' t (by omega) (by omega) q5 hdp hpn (by omega) (by omega) hBt.at_
     (fun j hj=>by
      rcases hBt.is with ⟨h1,_⟩ | ⟨b,h0,hb,h2,h3⟩
      ·rw [List.map_eq_nil_iff] at h1;subst h1;exact absurd hj (Nat.not_lt_zero _)
      ·subst h2
       have hj':j<(bs.map Box.cells).length:=by rw [List.length_map];exact hj
       refine ⟨b,j * 9,_,_,hb,by omega,fun s=>by rw [ixs_slice _ _ _ _ _ _ _ _ hj',Nat.zero_add],h3,?_⟩
       rw [flatten_cut hBt.wide hj',List.getElem_map])
     ⟨hlt.2,by omega⟩ hbr q6 q7 (by omega) ⟨qb.1,by omega⟩ l0' l7' q4 (by rw [q4'];congr 1;omega)
    have hl:before (fs++[F]) (fs++[F]).length=F.hour:=before_last fs F
    refine .inl ⟨hlt.1,L1,s1,p0,fs++[F],v2',by rw [List.length_append,q1];rfl,fun f hf'=>?_,before_snoc qo p4.1,by rw [hl];omega,fun q hq=>(p1 q hq).trans (q3 q hq),by rw [hl];exact p2,by rw [p3];congr 1;omega,p7',p8,p9,q8.trans ⟨p10,p11,p12,p13,p14⟩ (Nat.le_refl _) (by omega)⟩
    rcases List.mem_append.mp hf' with h | h
    ·exact q2 f h
    ·rw [List.mem_singleton.mp h];exact ⟨p5.1,p5.2,by omega,by omega,p6.1,by omega⟩
   ·refine .inr ⟨.exit 2,L'.set 78 (.bool false),t,by simp,?_,rfl,fs,v2,fun q hq=>?_,by omega,q2,qo,q5,q6,q7,q8.trans (Going.refl _ _ _ _) (Nat.le_refl _) (by omega)⟩
    ·by_cases hX0:i<M
     ·have e0:decide ((0:Int)<(M:Int) - i)=true:=by simp;omega
      have e1:decide ((0:Int)<(bs.length:Int))=false:=by rw [show bs.length=0 by omega];rfl
      simp (disch:=first|omega|(with_unfolding_all exact rfl)|(simp only[new_n,put_n,new_m];omega)|(refine put_m_le ?_;simp only[new_m];omega)) only [res5,K5r0,K5r1,K5r2,K5r3,K5r4,K5r5,K5r6,K5r7,K5r8,K5r9,K5l0,K5r10,K5r11,K5r12s7,K5r12s6,K5r12s5,K5r12s4,K5r12,K5r13,K5r14,K5r15,K5r16,K5l1,K5r17,K5r18,K5r19,K5r20,K5r21,K5r22,K5l2,K5r23,K5,Abs.W,reduceIte,Nat.reduceEqDiff,Nat.reduceAdd,decide_true,decide_false,kLoop_def,Nat.reduceSub,List.cons_append,List.nil_append,List.append_nil,List.length_cons,List.length_nil,Env.find_set,l7',q4',q6,ok1,len1,e0,e1,Nat.zero_add]
     ·have e0:decide ((0:Int)<(M:Int) - i)=false:=by simp;omega
      simp (disch:=first|omega|(with_unfolding_all exact rfl)|(simp only[new_n,put_n,new_m];omega)|(refine put_m_le ?_;simp only[new_m];omega)) only [res5,K5r0,K5r1,K5r2,K5r3,K5r4,K5r5,K5r6,K5r7,K5r8,K5r9,K5l0,K5r10,K5r11,K5r12s7,K5r12s6,K5r12s5,K5r12s4,K5r12,K5r13,K5r14,K5r15,K5r16,K5l1,K5r17,K5r18,K5r19,K5r20,K5r21,K5r22,K5l2,K5r23,K5,Abs.W,reduceIte,Nat.reduceEqDiff,Nat.reduceAdd,decide_true,decide_false,kLoop_def,Nat.reduceSub,List.cons_append,List.nil_append,List.append_nil,List.length_cons,List.length_nil,Env.find_set,l7',q4',q6,ok1,len1,e0,Nat.zero_add]
    ·rw [← q3 q hq]
     rcases hq with rfl | rfl | rfl<;>simp only [Env.find_set,reduceIte,Nat.reduceEqDiff])
 exact ⟨L1,s1,fs,v2,rfl,h⟩
theorem rates_loop {N:Nat} {r:R} {L:Env} {s:St} {cx:Ctx} {d p7:Nat} {a b above loss:Int} {v1 v2:AV} (M:Nat) (hr:loopN K5l2 rounds (call Try.prog X N) cx L [] s=r) (hN:4≤N) (hX:M≤4) (hd:Die d s.h) (hdp:d<p7) (hpn:p7<s.n) (hs:s.n+2000≤far)
  (g7:s.h.get p7=some (.cells [.int .i64 a,.int .i64 b,v1,v2,.nilslice] (tag 31))) (ha : -60≤above∧above≤20) (hl:0≤loss∧loss≤2) (l0:L.find 0=.ptr d 0) (l7:L.find 7=.ptr p7 0) (l13:L.find 13=.int .i64 above) (l14:L.find 14=.int .i64 loss) (l15:L.find 15=.int .i64 (M:Int)) :
  ∃ (L1:Env) (s1:St) (rs:List Rate) (v3:AV),r=.done (.exit 4) L1 [] s1∧(∀ t,t=0∨t=6∨t=7→L1.find t=L.find t)∧rs.length=M∧(∀ r ∈ rs,r.Ok)∧(∀ i (h:i<rs.length),(rateBefore rs i).above<(rs[i]).above∧(rateBefore rs i).loss≤(rs[i]).loss)∧Die d s1.h ∧
   s1.h.get p7=some (.cells [.int .i64 a,.int .i64 b,v1,v2,v3] (tag 31))∧Abs.Rows s1.h s.n s1.n 2 (tag 67) (rs.map Rate.cells) v3∧Going d p7 s.n s s1 (20 * M):=by
 have hf:far=1000000000:=rfl
 obtain ⟨e,L1,s1,rfl,rfl,rs,v3,h⟩:=loop_of hr
  (fun i L' t=>∃ (rs:List Rate) (v3:AV) (above' loss':Int),rs.length=i∧(∀ r ∈ rs,r.Ok)∧(∀ i (h:i<rs.length),(rateBefore rs i).above<(rs[i]).above∧(rateBefore rs i).loss≤(rs[i]).loss)∧((rateBefore rs rs.length).above<above'∧(rateBefore rs rs.length).loss≤loss')∧(-60≤above'∧above'≤20+60 * i)∧(0≤loss'∧loss'≤2+8 * i)∧(∀ q,q=0∨q=6∨q=7→L'.find q=L.find q)∧L'.find 13=.int .i64 above'∧L'.find 14=.int .i64 loss'∧L'.find 15=.int .i64 ((M:Int) - i)∧Die d t.h ∧
   t.h.get p7=some (.cells [.int .i64 a,.int .i64 b,v1,v2,v3] (tag 31))∧Abs.Rows t.h s.n t.n 2 (tag 67) (rs.map Rate.cells) v3∧Going d p7 s.n s t (20 * i))
  (fun e L1 s1=>e=.exit 4∧∃ (rs:List Rate) (v3:AV),(∀ t,t=0∨t=6∨t=7→L1.find t=L.find t)∧rs.length=M∧(∀ r ∈ rs,r.Ok)∧(∀ i (h:i<rs.length),(rateBefore rs i).above<(rs[i]).above∧(rateBefore rs i).loss≤(rs[i]).loss)∧Die d s1.h ∧
   s1.h.get p7=some (.cells [.int .i64 a,.int .i64 b,v1,v2,v3] (tag 31))∧Abs.Rows s1.h s.n s1.n 2 (tag 67) (rs.map Rate.cells) v3∧Going d p7 s.n s s1 (20 * M))
  M (by unfold rounds;omega)
  ⟨[],.nilslice,above,loss,rfl,fun B hB=>(by cases hB),fun i h=>absurd h (Nat.not_lt_zero _),⟨by show (-301:Int)<above;omega,by show (0:Int)≤loss;omega⟩,⟨ha.1,by omega⟩,⟨hl.1,by omega⟩,fun _ _=>rfl,l13,l14,by rw [l15];simp,hd,g7,Abs.Rows.nil _ _ _ _ _,Going.refl _ _ _ _⟩
  (fun i L' t hi ⟨rs,v3,ab,lo,q1,q2,qo,qb,qa,ql,q3,q13,q14,q15,q5,q6,q7,q8⟩=>by
   have tn:=q8.n
   have tl:=q8.le
   have l0':=(q3 0 (by simp)).trans l0
   have l7':=(q3 7 (by simp)).trans l7
   by_cases hlt:i<M
   ·obtain ⟨L1,s1,ab',lo',v3',p0,p1,p2,p3,p4,p5,p6,p7',p8,p9,p10,p11,p12,p13,p14⟩:=rate_round N hN cx d p7 s.n (M - i) a b ab lo v1 v2 v3 rs L' t (by omega) (by omega) q5 hdp hpn (by omega) (by omega) q6 q7 (by omega) ⟨by omega,by omega⟩ ⟨by omega,by omega⟩ l0' l7' q13 q14 (by rw [q15];congr 1;omega)
    have hl:rateBefore (rs++[(⟨ab,lo⟩:Rate)]) (rs++[(⟨ab,lo⟩:Rate)]).length=⟨ab,lo⟩:=rateBefore_last rs _
    refine .inl ⟨hlt,L1,s1,p0,rs++[(⟨ab,lo⟩:Rate)],v3',ab',lo',by rw [List.length_append,q1];rfl,fun f hf'=>?_,rateBefore_snoc qo qb,by rw [hl];exact ⟨p5.1,p6.1⟩,by omega,by omega,fun q hq=>(p1 q hq).trans (q3 q hq),p2,p3,by rw [p4];congr 1;omega,p7',p8,p9,q8.trans ⟨p10,p11,p12,p13,p14⟩ (Nat.le_refl _) (by omega)⟩
    rcases List.mem_append.mp hf' with h | h
    ·exact q2 f h
    ·rw [List.mem_singleton.mp h];exact ⟨by show -300≤ab;omega,by show ab≤400;omega,by show 0≤lo;omega,by show lo≤1000;omega⟩
   ·obtain rfl:i=M:=by omega
    have e0:decide ((0:Int)<(i:Int) - i)=false:=by simp
    refine .inr ⟨.exit 4,L'.set 114 (.bool false),t,by simp,?_,rfl,rs,v3,fun q hq=>?_,q1,q2,qo,q5,q6,q7,q8⟩
    ·simp (disch:=first|omega|(with_unfolding_all exact rfl)|(simp only[new_n,put_n,new_m];omega)|(refine put_m_le ?_;simp only[new_m];omega)) only [res5,K5r0,K5r1,K5r2,K5r3,K5r4,K5r5,K5r6,K5r7,K5r8,K5r9,K5l0,K5r10,K5r11,K5r12s7,K5r12s6,K5r12s5,K5r12s4,K5r12,K5r13,K5r14,K5r15,K5r16,K5l1,K5r17,K5r18,K5r19,K5r20,K5r21,K5r22,K5l2,K5r23,K5,Abs.W,reduceIte,Nat.reduceEqDiff,Nat.reduceAdd,decide_true,decide_false,kLoop_def,Nat.reduceSub,List.cons_append,List.nil_append,List.append_nil,List.length_cons,List.length_nil,Env.find_set,q15,e0]
    ·rw [← q3 q hq]
     rcases hq with rfl | rfl | rfl<;>simp only [Env.find_set,reduceIte,Nat.reduceEqDiff])
 exact ⟨L1,s1,rs,v3,rfl,h⟩
end Go.Proofs.Ytlfalcghhckanab.walk
set_option maxRecDepth 10000
namespace Go.Proofs.Ytlfalcghhckanab.walk
open Go.Abs Go.Proofs.Ytlfalcghhckanab.code
structure CellarNew (h:Heap) (lo n:Nat) (c:Cellar) (v1 v2 v3:AV):Prop where
 b:Abs.Rows h lo n 9 (tag 63) (c.boxes.map Box.cells) v1
 f:Abs.Rows h lo n 3 (tag 65) (c.fills.map Fill.cells) v2
 r:Abs.Rows h lo n 2 (tag 67) (c.rates.map Rate.cells) v3
theorem rows_scal {h:Heap} {lo n w tg:Nat} {rows:List (List AV)} {v:AV} (r:Abs.Rows h lo n w tg rows v):v.scalar=true:=by
 rcases r.is with ⟨_,h2⟩ | ⟨b,_,_,h2,_⟩<;>subst h2<;>rfl
theorem rows_lower {h:Heap} {lo lo' n w tg:Nat} {rows:List (List AV)} {v:AV} (r:Abs.Rows h lo n w tg rows v) (hl:lo'≤lo):Abs.Rows h lo' n w tg rows v :=
 ⟨r.wide,r.is.imp id fun ⟨b,h0,h1⟩=>⟨b,by omega,h1⟩⟩
theorem CellarNew.mono {h h':Heap} {lo n n':Nat} {c:Cellar} {v1 v2 v3:AV} (a:CellarNew h lo n c v1 v2 v3) (hh:∀ b,lo≤b→b<n→h'.get b=h.get b) (hn:n≤n'):CellarNew h' lo n' c v1 v2 v3 :=
 ⟨a.b.mono hh hn,a.f.mono hh hn,a.r.mono hh hn⟩
theorem CellarNew.in_ {h:Heap} {lo n:Nat} {c:Cellar} {v1 v2 v3:AV} (a:CellarNew h lo n c v1 v2 v3):CellarIn h n c v1 v2 v3 :=
 ⟨⟨a.b.at_,a.f.at_,a.r.at_⟩,a.f.seq,rows_scal a.b,rows_scal a.r⟩
structure Cellar.Tame (c:Cellar) (xb xf:Nat):Prop where
 h0 : -20≤c.hl
 h1:c.hh≤200
 b:c.boxes.length≤xb
 f:c.fills.length≤xf
 r:∀ b ∈ c.boxes,b.room≤500
theorem CellarOf_tame {N d:Nat} {s:St} {r:ARes} (xb xf:Nat) (hr:call Try.prog X N (.fn 5) [.ptr d 0,.int .i64 xb,.int .i64 xf] s=r) (hN:6≤N) (hb:xb≤6) (hf20:xf≤10) (hd:Die d s.h) (hdn:d<s.n) (hs:s.n+5000≤far) :
  ∃ (c:Cellar) (v1 v2 v3:AV) (t:St),r=.val (.agg [.int .i64 c.hl,.int .i64 c.hh,v1,v2,v3]) t∧Stir d s t 1000∧Die d t.h∧(c.Ok∧c.Tame xb xf)∧CellarNew t.h (s.n+1) t.n c v1 v2 v3:=by
 obtain ⟨n,rfl⟩:∃ n,N=n+1:=⟨N - 1,by omega⟩
 have hff:far=1000000000:=rfl
 obtain ⟨v,t,e,st,c,v1,v2,v3,rfl,hd',ok,hC⟩:=call_stir (n:=n) (args:=[.ptr d 0,.int .i64 xb,.int .i64 xf]) (s:=s) (d:=d) (k:=1000)
  (Q:=fun v h m=>∃ (c:Cellar) (v1 v2 v3:AV),v=.agg [.int .i64 c.hl,.int .i64 c.hh,v1,v2,v3]∧Die d h∧(c.Ok∧c.Tame xb xf)∧CellarNew h (s.n+1) m c v1 v2 v3) Try.func5 rfl (fun u uh un um=>by
  rw [← uh] at hd
  rw [← un]
  have sh:shapeT Try.prog 31=some (some 5):=by kernel_rfl
  rw [enter5]
  simp (disch:=first|omega|(with_unfolding_all exact rfl)|(simp only[new_n,put_n,new_m];omega)|(refine put_m_le ?_;simp only[new_m];omega)) only [res5,K5r0,K5r1,K5r2,K5r3,K5r4,K5r5,K5r6,K5r7,K5r8,K5r9,K5r10,K5r11,K5r12s7,K5r12s6,K5r12s5,K5r12s4,K5r12,K5r13,K5r14,K5r15,K5r16,K5r17,K5r18,K5r19,K5r20,K5r21,K5r22,K5r23,K5,Abs.W,reduceIte,Nat.reduceEqDiff,Nat.reduceAdd,decide_true,decide_false,kLoop_def,Nat.reduceSub,List.cons_append,List.nil_append,List.append_nil,List.length_cons,List.length_nil]
  obtain ⟨w,hw⟩:∃ w:St,w=u.new (.cells [.int .i64 0,.int .i64 0,.nilslice,.nilslice,.nilslice] (tag 31)):=⟨_,rfl⟩
  rw [← hw]
  have wn:w.n=u.n+1:=by rw [hw];rfl
  have wm:w.m=far:=by rw [hw];exact um
  have wg:∀ c,c<u.n→w.h.get c=u.h.get c:=fun c hc=>by rw [hw,get_new_ne _ _ _ (by omega)]
  have w0:w.h.get u.n=some (.cells [.int .i64 0,.int .i64 0,.nilslice,.nilslice,.nilslice] (tag 31)):=by rw [hw];exact get_new_eq _ _ _ rfl (by omega)
  have dw:Die d w.h:=by obtain ⟨f,hg⟩:=hd;exact ⟨f,by rw [wg _ (by omega)];exact hg⟩
  generalize hc1:call _ _ _ (.fn 20) _ _=r1
  obtain ⟨a,b,t1,rfl,st1,d1,a0,a1,a2⟩:=span_ex hc1 (by omega) dw (by omega) (by omega) (by omega) (by omega) (by omega)
  have n1:w.n≤t1.n:=st1.n
  have k1:t1.n≤w.n+2:=st1.le
  simp (disch:=first|omega|(with_unfolding_all exact rfl)|(simp only[new_n,put_n,new_m];omega)|(refine put_m_le ?_;simp only[new_m];omega)) only [res5,K5r0,K5r1,K5r2,K5r3,K5r4,K5r5,K5r6,K5r7,K5r8,K5r9,K5r10,K5r11,K5r12s7,K5r12s6,K5r12s5,K5r12s4,K5r12,K5r13,K5r14,K5r15,K5r16,K5r17,K5r18,K5r19,K5r20,K5r21,K5r22,K5r23,K5,Abs.W,reduceIte,Nat.reduceEqDiff,Nat.reduceAdd,decide_true,decide_false,kLoop_def,Nat.reduceSub,List.cons_append,List.nil_append,List.append_nil,List.length_cons,List.length_nil,Env.find_set]
  obtain ⟨y,hy⟩:∃ y:St,y=(t1.new (.cells [.int .i64 0,.int .i64 0,.nilslice,.nilslice,.nilslice] (tag 31))).put t1.n (.cells [.int .i64 a,.int .i64 b,.nilslice,.nilslice,.nilslice] (tag 31)):=⟨_,rfl⟩
  rw [← hy]
  have yn:y.n=t1.n+1:=by rw [hy];rfl
  have ym:y.m=min t1.m t1.n:=by rw [hy];simp only [St.put,minN_eq,new_m]
  have yg:∀ c,c≠t1.n→y.h.get c=t1.h.get c:=fun c hc=>by rw [hy,get_put_ne' _ _ _ _ hc,get_new_ne _ _ _ hc]
  have yp:y.h.get t1.n=some (.cells [.int .i64 a,.int .i64 b,.nilslice,.nilslice,.nilslice] (tag 31)):=by rw [hy];exact get_put_eq _ _ _ _ rfl (by omega)
  have dy:Die d y.h:=by obtain ⟨f,hg⟩:=d1;exact ⟨f,by rw [yg _ (by omega)];exact hg⟩
  have a3:∀ s,aAdd s .i64 (xb:Int) 1=.val (.int .i64 ((xb:Int)+1)) s:=fun s=>aAdd_i64 s _ _ (by omega)
  simp (disch:=first|omega|(with_unfolding_all exact rfl)|(simp only[new_n,put_n,new_m];omega)|(refine put_m_le ?_;simp only[new_m];omega)) only [res5,K5r0,K5r1,K5r2,K5r3,K5r4,K5r5,K5r6,K5r7,K5r8,K5r9,K5r10,K5r11,K5r12s7,K5r12s6,K5r12s5,K5r12s4,K5r12,K5r13,K5r14,K5r15,K5r16,K5r17,K5r18,K5r19,K5r20,K5r21,K5r22,K5r23,K5,Abs.W,reduceIte,Nat.reduceEqDiff,Nat.reduceAdd,decide_true,decide_false,kLoop_def,Nat.reduceSub,List.cons_append,List.nil_append,List.append_nil,List.length_cons,List.length_nil,Env.find_set,a3]
  generalize hc2:call _ _ _ (.fn 8) _ _=r2
  obtain ⟨x2,t2,rfl,st2,d2,x20,x21⟩:=cast_ex hc2 (by omega) dy (by omega) (by omega) (by omega)
  have n2:y.n≤t2.n:=st2.n
  have k2:t2.n≤y.n:=st2.le
  obtain ⟨M,hM⟩:∃ M:Nat,x2=(M:Int):=⟨x2.toNat,by omega⟩
  subst hM
  have p2:t2.h.get t1.n=some (.cells [.int .i64 a,.int .i64 b,.nilslice,.nilslice,.nilslice] (tag 31)):=(st2.same _ (by omega) (by omega)).trans yp
  simp (disch:=first|omega|(with_unfolding_all exact rfl)|(simp only[new_n,put_n,new_m];omega)|(refine put_m_le ?_;simp only[new_m];omega)) only [res5,K5r0,K5r1,K5r2,K5r3,K5r4,K5r5,K5r6,K5r7,K5r8,K5r9,K5r10,K5r11,K5r12s7,K5r12s6,K5r12s5,K5r12s4,K5r12,K5r13,K5r14,K5r15,K5r16,K5r17,K5r18,K5r19,K5r20,K5r21,K5r22,K5r23,K5,Abs.W,reduceIte,Nat.reduceEqDiff,Nat.reduceAdd,decide_true,decide_false,kLoop_def,Nat.reduceSub,List.cons_append,List.nil_append,List.append_nil,List.length_cons,List.length_nil,Env.find_set]
  generalize hl1:loopN K5l0 rounds _ _ _ _ _=q1
  obtain ⟨L3,t3,bs,v1,rfl,s3,bsl,bsok,d3,p3,rb3,go3⟩:=boxes_loop M hl1 (by omega) (by omega) d2 (show d<t1.n by omega) (by omega) (by omega) p2 (by simp only [find_cons,Env.find_set,reduceIte,Nat.reduceEqDiff]) (by simp only [find_cons,Env.find_set,reduceIte,Nat.reduceEqDiff]) (by simp only [find_cons,Env.find_set,reduceIte,Nat.reduceEqDiff])
  have n3:=go3.n
  have k3:=go3.le
  have l30:L3.find 0=.ptr d 0:=(s3 0 (by simp)).trans (by simp only [find_cons,Env.find_set,reduceIte,Nat.reduceEqDiff])
  have l32:L3.find 2=.int .i64 xf:=(s3 2 (by simp)).trans (by simp only [find_cons,Env.find_set,reduceIte,Nat.reduceEqDiff])
  have l36:L3.find 6=.ptr u.n 0:=(s3 6 (by simp)).trans (by simp only [find_cons,Env.find_set,reduceIte,Nat.reduceEqDiff])
  have l37:L3.find 7=.ptr t1.n 0:=(s3 7 (by simp)).trans (by simp only [find_cons,Env.find_set,reduceIte,Nat.reduceEqDiff])
  clear s3
  have a4:∀ s,aAdd s .i64 (xf:Int) 1=.val (.int .i64 ((xf:Int)+1)) s:=fun s=>aAdd_i64 s _ _ (by omega)
  simp (disch:=first|omega|(with_unfolding_all exact rfl)|(simp only[new_n,put_n,new_m];omega)|(refine put_m_le ?_;simp only[new_m];omega)) only [res5,K5r0,K5r1,K5r2,K5r3,K5r4,K5r5,K5r6,K5r7,K5r8,K5r9,K5r10,K5r11,K5r12s7,K5r12s6,K5r12s5,K5r12s4,K5r12,K5r13,K5r14,K5r15,K5r16,K5r17,K5r18,K5r19,K5r20,K5r21,K5r22,K5r23,K5,Abs.W,reduceIte,Nat.reduceEqDiff,Nat.reduceAdd,decide_true,decide_false,kLoop_def,Nat.reduceSub,List.cons_append,List.nil_append,List.append_nil,List.length_cons,List.length_nil,Env.find_set,l30,l32,l36,l37,a4]
  generalize hc4:call _ _ _ (.fn 8) _ _=r4
  obtain ⟨x4,t4,rfl,st4,d4,x40,x41⟩:=cast_ex hc4 (by omega) d3 (by omega) (by omega) (by omega)
  have n4:t3.n≤t4.n:=st4.n
  have k4:t4.n≤t3.n:=st4.le
  obtain ⟨M4,hM⟩:∃ M:Nat,x4=(M:Int):=⟨x4.toNat,by omega⟩
  subst hM
  have p4:=(st4.same t1.n (by omega) (by omega)).trans p3
  simp (disch:=first|omega|(with_unfolding_all exact rfl)|(simp only[new_n,put_n,new_m];omega)|(refine put_m_le ?_;simp only[new_m];omega)) only [res5,K5r0,K5r1,K5r2,K5r3,K5r4,K5r5,K5r6,K5r7,K5r8,K5r9,K5r10,K5r11,K5r12s7,K5r12s6,K5r12s5,K5r12s4,K5r12,K5r13,K5r14,K5r15,K5r16,K5r17,K5r18,K5r19,K5r20,K5r21,K5r22,K5r23,K5,Abs.W,reduceIte,Nat.reduceEqDiff,Nat.reduceAdd,decide_true,decide_false,kLoop_def,Nat.reduceSub,List.cons_append,List.nil_append,List.append_nil,List.length_cons,List.length_nil,Env.find_set]
  generalize hl2:loopN K5l1 rounds _ _ _ _ _=q2
  obtain ⟨L5,t5,fs,v2,rfl,s5,fsl,fsok,fso,d5,p5,rf5,go5⟩:=fillings_loop (bs:=bs) M4 hl2 (by omega) (by omega) d4 (show d<t1.n by omega) (by omega) (by omega) (rb3.mono (fun c hc hcn=>st4.same c hcn (by omega)) n4) (by omega) (fun b hb=>⟨(bsok b hb).1.r0,(bsok b hb).2⟩) p4 (by simp only [find_cons,Env.find_set,l30,reduceIte,Nat.reduceEqDiff]) (by simp only [find_cons,Env.find_set,l37,reduceIte,Nat.reduceEqDiff]) (by simp only [find_cons,Env.find_set,reduceIte,Nat.reduceEqDiff]) (by simp only [find_cons,Env.find_set,reduceIte,Nat.reduceEqDiff])
  have n5:=go5.n
  have k5:=go5.le
  have l50:L5.find 0=.ptr d 0:=(s5 0 (by simp)).trans (by simp only [find_cons,Env.find_set,l30,reduceIte,Nat.reduceEqDiff])
  have l56:L5.find 6=.ptr u.n 0:=(s5 6 (by simp)).trans (by simp only [find_cons,Env.find_set,l36,reduceIte,Nat.reduceEqDiff])
  have l57:L5.find 7=.ptr t1.n 0:=(s5 7 (by simp)).trans (by simp only [find_cons,Env.find_set,l37,reduceIte,Nat.reduceEqDiff])
  clear s5
  simp (disch:=first|omega|(with_unfolding_all exact rfl)|(simp only[new_n,put_n,new_m];omega)|(refine put_m_le ?_;simp only[new_m];omega)) only [res5,K5r0,K5r1,K5r2,K5r3,K5r4,K5r5,K5r6,K5r7,K5r8,K5r9,K5r10,K5r11,K5r12s7,K5r12s6,K5r12s5,K5r12s4,K5r12,K5r13,K5r14,K5r15,K5r16,K5r17,K5r18,K5r19,K5r20,K5r21,K5r22,K5r23,K5,Abs.W,reduceIte,Nat.reduceEqDiff,Nat.reduceAdd,decide_true,decide_false,kLoop_def,Nat.reduceSub,List.cons_append,List.nil_append,List.append_nil,List.length_cons,List.length_nil,Env.find_set,l50,l56,l57]
  generalize hc6:call _ _ _ (.fn 21) _ _=r6
  obtain ⟨x6,t6,rfl,st6,d6,x60,x61⟩:=from_ex hc6 (by omega) d5 (by omega) (by omega) (by omega) (by omega) (by omega) (by omega)
  have n6:t5.n≤t6.n:=st6.n
  have k6:t6.n≤t5.n:=st6.le
  simp (disch:=first|omega|(with_unfolding_all exact rfl)|(simp only[new_n,put_n,new_m];omega)|(refine put_m_le ?_;simp only[new_m];omega)) only [res5,K5r0,K5r1,K5r2,K5r3,K5r4,K5r5,K5r6,K5r7,K5r8,K5r9,K5r10,K5r11,K5r12s7,K5r12s6,K5r12s5,K5r12s4,K5r12,K5r13,K5r14,K5r15,K5r16,K5r17,K5r18,K5r19,K5r20,K5r21,K5r22,K5r23,K5,Abs.W,reduceIte,Nat.reduceEqDiff,Nat.reduceAdd,decide_true,decide_false,kLoop_def,Nat.reduceSub,List.cons_append,List.nil_append,List.append_nil,List.length_cons,List.length_nil,Env.find_set,l50,l56,l57]
  generalize hc7:call _ _ _ (.fn 8) _ _=r7
  obtain ⟨x7,t7,rfl,st7,d7,x70,x71⟩:=cast_ex hc7 (by omega) d6 (by omega) (by omega) (by omega)
  have n7:t6.n≤t7.n:=st7.n
  have k7:t7.n≤t6.n:=st7.le
  simp (disch:=first|omega|(with_unfolding_all exact rfl)|(simp only[new_n,put_n,new_m];omega)|(refine put_m_le ?_;simp only[new_m];omega)) only [res5,K5r0,K5r1,K5r2,K5r3,K5r4,K5r5,K5r6,K5r7,K5r8,K5r9,K5r10,K5r11,K5r12s7,K5r12s6,K5r12s5,K5r12s4,K5r12,K5r13,K5r14,K5r15,K5r16,K5r17,K5r18,K5r19,K5r20,K5r21,K5r22,K5r23,K5,Abs.W,reduceIte,Nat.reduceEqDiff,Nat.reduceAdd,decide_true,decide_false,kLoop_def,Nat.reduceSub,List.cons_append,List.nil_append,List.append_nil,List.length_cons,List.length_nil,Env.find_set,l50,l56,l57]
  generalize hc8:call _ _ _ (.fn 21) _ _=r8
  obtain ⟨x8,t8,rfl,st8,d8,x80,x81⟩:=from_ex hc8 (by omega) d7 (by omega) (by omega) (by omega) (by omega) (by omega) (by omega)
  have n8:t7.n≤t8.n:=st8.n
  have k8:t8.n≤t7.n:=st8.le
  obtain ⟨M8,hM⟩:∃ M:Nat,x8=(M:Int):=⟨x8.toNat,by omega⟩
  subst hM
  have back8:∀ c,c<t5.n→c≠d→t8.h.get c=t5.h.get c:=fun c hc hcd=>(st8.same c (by omega) hcd).trans ((st7.same c (by omega) hcd).trans (st6.same c hc hcd))
  have p8:=(back8 t1.n (by omega) (by omega)).trans p5
  simp (disch:=first|omega|(with_unfolding_all exact rfl)|(simp only[new_n,put_n,new_m];omega)|(refine put_m_le ?_;simp only[new_m];omega)) only [res5,K5r0,K5r1,K5r2,K5r3,K5r4,K5r5,K5r6,K5r7,K5r8,K5r9,K5r10,K5r11,K5r12s7,K5r12s6,K5r12s5,K5r12s4,K5r12,K5r13,K5r14,K5r15,K5r16,K5r17,K5r18,K5r19,K5r20,K5r21,K5r22,K5r23,K5,Abs.W,reduceIte,Nat.reduceEqDiff,Nat.reduceAdd,decide_true,decide_false,kLoop_def,Nat.reduceSub,List.cons_append,List.nil_append,List.append_nil,List.length_cons,List.length_nil,Env.find_set,l50,l56,l57]
  generalize hl3:loopN K5l2 rounds _ _ _ _ _=q3
  obtain ⟨L9,t9,rs,v3,rfl,s9,rsl,rsok,rso,d9,p9,rr9,go9⟩:=rates_loop M8 hl3 (by omega) (by omega) d8 (show d<t1.n by omega) (by omega) (by omega) p8 ⟨x60,by omega⟩ ⟨x70,by omega⟩ (by simp only [find_cons,Env.find_set,l50,reduceIte,Nat.reduceEqDiff]) (by simp only [find_cons,Env.find_set,l57,reduceIte,Nat.reduceEqDiff]) (by simp only [find_cons,Env.find_set,reduceIte,Nat.reduceEqDiff]) (by simp only [find_cons,Env.find_set,reduceIte,Nat.reduceEqDiff]) (by simp only [find_cons,Env.find_set,reduceIte,Nat.reduceEqDiff])
  have n9:=go9.n
  have k9:=go9.le
  have l96:L9.find 6=.ptr u.n 0:=(s9 6 (by simp)).trans (by simp only [find_cons,Env.find_set,l56,reduceIte,Nat.reduceEqDiff])
  have l97:L9.find 7=.ptr t1.n 0:=(s9 7 (by simp)).trans (by simp only [find_cons,Env.find_set,l57,reduceIte,Nat.reduceEqDiff])
  clear s9
  have back:∀ c,c<w.n→c≠d→t9.h.get c=w.h.get c:=fun c hc hcd=>by
   rw [go9.same c (by omega) hcd (by omega),back8 c (by omega) hcd,go5.same c (by omega) hcd (by omega),st4.same c (by omega) hcd,go3.same c (by omega) hcd (by omega),st2.same c (by omega) hcd,yg c (by omega)]
   exact st1.same c hc hcd
  have p90:t9.h.get u.n=some (.cells [.int .i64 0,.int .i64 0,.nilslice,.nilslice,.nilslice] (tag 31)):=(back u.n (by omega) (by omega)).trans w0
  obtain ⟨ok1,c1,sc1⟩:=rb3.scalar
  obtain ⟨ok2,c2,sc2⟩:=rf5.scalar
  obtain ⟨ok3,c3,sc3⟩:=rr9.scalar
  have sc:scalars [v1,v2,v3]=true:=by rw [sc1,sc2,sc3];rfl
  simp (disch:=first|omega|(with_unfolding_all exact rfl)|(simp only[new_n,put_n,new_m];omega)|(refine put_m_le ?_;simp only[new_m];omega)) only [res5,K5r0,K5r1,K5r2,K5r3,K5r4,K5r5,K5r6,K5r7,K5r8,K5r9,K5r10,K5r11,K5r12s7,K5r12s6,K5r12s5,K5r12s4,K5r12,K5r13,K5r14,K5r15,K5r16,K5r17,K5r18,K5r19,K5r20,K5r21,K5r22,K5r23,K5,Abs.W,reduceIte,Nat.reduceEqDiff,Nat.reduceAdd,decide_true,decide_false,kLoop_def,Nat.reduceSub,List.cons_append,List.nil_append,List.append_nil,List.length_cons,List.length_nil,Env.find_set,l96,l97,p9,p90,sc1,sc2,sc3,scal_nil,Nat.zero_add]
  have hpl:plain (.agg [.int .i64 a,.int .i64 b,v1,v2,v3])=false:=by
   rcases rr9.is with ⟨h,_⟩ | ⟨b3,_,_,h3,_⟩
   ·rw [List.map_eq_nil_iff] at h;subst h;simp at rsl;omega
   ·subst h3
    rcases rb3.is with ⟨_,h1⟩ | ⟨b1,_,_,h1,_⟩<;>rcases rf5.is with ⟨_,h2⟩ | ⟨b2,_,_,h2,_⟩<;>subst h1<;>subst h2<;>rfl
  refine ⟨.agg [.int .i64 a,.int .i64 b,v1,v2,v3],_,leave_cell _ _ _ _ sh ?_,⟨fun c hc hcd=>?_,?_,?_,fun hm=>?_,?_⟩,hpl,⟨a,b,bs,fs,rs⟩,v1,v2,v3,rfl,?_,?_,?_,?_,?_⟩
  ·rw [l96]
   simp (disch:=first|omega|(with_unfolding_all exact rfl)|(simp only[new_n,put_n,new_m];omega)|(refine put_m_le ?_;simp only[new_m];omega)) only [Abs.W,reduceIte,Nat.reduceEqDiff,Nat.reduceAdd,decide_true,decide_false,kLoop_def,Nat.reduceSub,List.cons_append,List.nil_append,List.append_nil,List.length_cons,List.length_nil,okA_agg]
  ·rw [get_put_ne' _ _ _ _ (by omega),back c (by omega) hcd,wg c hc]
  ·simp only [put_n];omega
  ·simp only [put_n];omega
  ·have h1:=st1.m (by omega)
   have h2:=st2.m (by omega)
   have h3:=go3.m h2
   have h4:=st4.m h3
   have h5:=go5.m h4
   have h6:=st6.m h5
   have h7:=st7.m h6
   have h8:=st8.m h7
   have h9:=go9.m h8
   simp only [St.put,minN_eq];omega
  ·have h1:=st1.mle
   have h2:=st2.mle
   have h3:=go3.mle
   have h4:=st4.mle
   have h5:=go5.mle
   have h6:=st6.mle
   have h7:=st7.mle
   have h8:=st8.mle
   have h9:=go9.mle
   simp only [St.put,minN_eq];omega
  ·obtain ⟨f,hg⟩:=d9
   exact ⟨f,by rw [get_put_ne' _ _ _ _ (by omega)];exact hg⟩
  ·exact ⟨⟨by show -300≤a;omega,a1,by show b≤400;omega,by show bs.length≤6;omega,fun b hb=>(bsok b hb).1,by show fs.length≤20;omega,fsok,fso,by show 1≤rs.length;omega,by show rs.length≤6;omega,rsok,rso⟩,a0,a2,by show bs.length≤xb;omega,by show fs.length≤xf;omega,fun b hb=>(bsok b hb).2⟩
  ·exact rows_lower (rb3.mono (fun c hc hcn=>by
    rw [get_put_ne' _ _ _ _ (by omega),go9.same c (by omega) (by omega) (by omega),back8 c (by omega) (by omega),go5.same c (by omega) (by omega) (by omega),st4.same c (by omega) (by omega)]) (by simp only [put_n];omega)) (by omega)
  ·exact rows_lower (rf5.mono (fun c hc hcn=>by
    rw [get_put_ne' _ _ _ _ (by omega),go9.same c (by omega) (by omega) (by omega),back8 c (by omega) (by omega)]) (by simp only [put_n];omega)) (by omega)
  ·exact rows_lower (rr9.mono (fun c hc hcn=>by rw [get_put_ne' _ _ _ _ (by omega)]) (by simp only [put_n];omega)) (by omega)) (by omega)
 exact ⟨c,v1,v2,v3,t,hr.symm.trans e,st,hd',ok,hC⟩
theorem CellarOf_ex {N d:Nat} {s:St} {r:ARes} (xb xf:Nat) (hr:call Try.prog X N (.fn 5) [.ptr d 0,.int .i64 xb,.int .i64 xf] s=r) (hN:6≤N) (hb:xb≤6) (hf20:xf≤10) (hd:Die d s.h) (hdn:d<s.n) (hs:s.n+5000≤far) :
  ∃ (c:Cellar) (v1 v2 v3:AV) (t:St),r=.val (.agg [.int .i64 c.hl,.int .i64 c.hh,v1,v2,v3]) t∧Stir d s t 1000∧Die d t.h∧c.Ok∧CellarNew t.h (s.n+1) t.n c v1 v2 v3:=by
 obtain ⟨c,v1,v2,v3,t,h1,h2,h3,h4,h5⟩:=CellarOf_tame xb xf hr hN hb hf20 hd hdn hs
 exact ⟨c,v1,v2,v3,t,h1,h2,h3,h4.1,h5⟩
end Go.Proofs.Ytlfalcghhckanab.walk
set_option maxRecDepth 10000
namespace Go.Proofs.Ytlfalcghhckanab.walk
open Go.Abs Go.Proofs.Ytlfalcghhckanab.code
theorem free_snoc {born keeps:Int} {ts:List Stay} {T:Stay} (h:∀ i (hi:i<ts.length),(⟨born,keeps,ts⟩:Lot).free i≤(ts[i]).fro) (hf:(⟨born,keeps,ts⟩:Lot).free ts.length≤T.fro) :
  ∀ i (hi:i<(ts++[T]).length),(⟨born,keeps,ts++[T]⟩:Lot).free i≤((ts++[T])[i]).fro:=by
 intro i hi
 have hb:(⟨born,keeps,ts++[T]⟩:Lot).free i=(⟨born,keeps,ts⟩:Lot).free i:=by
  cases i with
  | zero=>rfl
  | succ i =>
   rw [List.length_append,List.length_singleton] at hi
   simp only [Lot.free,List.getElem?_append_left (show i<ts.length by omega)]
 rw [hb]
 by_cases e:i<ts.length
 ·rw [List.getElem_append_left e];exact h i e
 ·have:i=ts.length:=by rw [List.length_append,List.length_singleton] at hi;omega
  subst this
  rw [List.getElem_append_right (Nat.le_refl _)]
  simpa using hf
theorem free_last (born keeps:Int) (ts:List Stay) (T:Stay):(⟨born,keeps,ts++[T]⟩:Lot).free (ts++[T]).length=T.to:=by
 rw [List.length_append,List.length_singleton]
 unfold Lot.free
 simp
theorem lot_round (N:Nat) (hN:4≤N) (cx:Ctx) (d p4 p7 lo i k:Nat) (hl hh born keeps fr:Int) (v1 v2 v3 v:AV) (ts:List Stay) (L:Env) (s:St) (hi:0<i) (hi6:i≤10) (hd:Die d s.h) (hdp:d<p4) (hp4:p4<p7) (hp7:p7<lo) (hlo:lo≤s.n) (hs:s.n+1000≤far)
  (hk:0<k∧k≤10) (len1:∀ s,lenSlA s v1=.val (.int .i64 k) s) (ok1:∀ t,okA (.val v1 t)=.val v1 t)
  (g4:s.h.get p4=some (.cells [.int .i64 hl,.int .i64 hh,v1,v2,v3] (tag 31)))
  (g7:s.h.get p7=some (.cells [.int .i64 born,.int .i64 keeps,v] (tag 35))) (hR:Abs.Rows s.h lo s.n 3 (tag 69) (ts.map Stay.cells) v) (htl:ts.length≤10) (hfr:0≤fr∧fr≤1000)
  (l0:L.find 0=.ptr d 0) (l4:L.find 4=.ptr p4 0) (l7:L.find 7=.ptr p7 0) (l8:L.find 8=.int .i64 fr) (l9:L.find 9=.int .i64 i) :
  ∃ (L1:Env) (s1:St) (T:Stay) (v':AV),K6l0 (call Try.prog X N) cx L [] s=.done .norm L1 [] s1∧(∀ t,t=0∨t=4∨t=6∨t=7→L1.find t=L.find t)∧L1.find 8=.int .i64 T.to∧L1.find 9=.int .i64 ((i:Int) - 1)∧(fr≤T.fro∧T.fro≤fr+2)∧(T.fro<T.to∧T.to≤T.fro+8)∧(0≤T.box∧T.box<k)∧Die d s1.h ∧
   s1.h.get p7=some (.cells [.int .i64 born,.int .i64 keeps,v'] (tag 35))∧Abs.Rows s1.h lo s1.n 3 (tag 69) ((ts++[T]).map Stay.cells) v'∧Going d p7 lo s s1 20:=by
 have hff:far=1000000000:=rfl
 have e0:decide ((0:Int)<(i:Int))=true:=by simp;omega
 have e1:decide ((0:Int)<(k:Int))=true:=by simp;omega
 obtain ⟨ok2,c2,sc2⟩:=hR.scalar
 simp (disch:=first|omega|(with_unfolding_all exact rfl)|(simp only[new_n,put_n,new_m];omega)|(refine put_m_le ?_;simp only[new_m];omega)) only [res6,K6r0,K6r1,K6r2,K6r3,K6r4s7,K6r4s6,K6r4s5,K6r4s4,K6r4,K6r5,K6r6,K6r7,K6r8,K6r9,K6l0,K6r10,K6,Abs.W,reduceIte,Nat.reduceEqDiff,Nat.reduceAdd,decide_true,decide_false,kLoop_def,Nat.reduceSub,List.cons_append,List.nil_append,List.append_nil,List.length_cons,List.length_nil,Env.find_set,l0,l4,l7,l8,l9,e0,e1,g4,ok1,len1,gtrA_i64,pickA_true,Nat.reduceAdd,Nat.zero_add]
 generalize hc1:call _ _ _ (.fn 8) _ _=r1
 obtain ⟨x1,t1,rfl,st1,d1,x10,x11⟩:=cast_ex hc1 (by omega) hd (by omega) (by omega) (by omega)
 have n1:s.n≤t1.n:=st1.n
 have k1:t1.n≤s.n:=st1.le
 simp (disch:=first|omega|(with_unfolding_all exact rfl)|(simp only[new_n,put_n,new_m];omega)|(refine put_m_le ?_;simp only[new_m];omega)) only [res6,K6r0,K6r1,K6r2,K6r3,K6r4s7,K6r4s6,K6r4s5,K6r4s4,K6r4,K6r5,K6r6,K6r7,K6r8,K6r9,K6l0,K6r10,K6,Abs.W,reduceIte,Nat.reduceEqDiff,Nat.reduceAdd,decide_true,decide_false,kLoop_def,Nat.reduceSub,List.cons_append,List.nil_append,List.append_nil,List.length_cons,List.length_nil,Env.find_set,l0,l4,l7,l8,l9]
 generalize hc2:call _ _ _ (.fn 8) _ _=r2
 obtain ⟨x2,t2,rfl,st2,d2,x20,x21⟩:=cast_ex hc2 (by omega) d1 (by omega) (by omega) (by omega)
 have n2:t1.n≤t2.n:=st2.n
 have k2:t2.n≤t1.n:=st2.le
 simp (disch:=first|omega|(with_unfolding_all exact rfl)|(simp only[new_n,put_n,new_m];omega)|(refine put_m_le ?_;simp only[new_m];omega)) only [res6,K6r0,K6r1,K6r2,K6r3,K6r4s7,K6r4s6,K6r4s5,K6r4s4,K6r4,K6r5,K6r6,K6r7,K6r8,K6r9,K6l0,K6r10,K6,Abs.W,reduceIte,Nat.reduceEqDiff,Nat.reduceAdd,decide_true,decide_false,kLoop_def,Nat.reduceSub,List.cons_append,List.nil_append,List.append_nil,List.length_cons,List.length_nil,Env.find_set,l0,l4,l7,l8,l9]
 generalize hc3:call _ _ _ (.fn 22) _ _=r3
 obtain ⟨x3,t3,rfl,st3,d3,m3⟩:=one_ex [0,x2] hc3 (by omega) (d2.new (by omega) _) (by simp only [new_n];omega) (by simp only [new_n];omega) (get_new_eq _ _ _ rfl (by omega)) (by simp only [new_n];omega) (by omega) rfl (by omega) (by omega)
 have x3r:x3=0∨x3=x2:=by simpa using m3
 have n3:t2.n+1≤t3.n:=st3.n
 have k3:t3.n≤t2.n+1:=st3.le
 have a3:∀ s,aAdd s .i64 fr x3=.val (.int .i64 (fr+x3)) s:=fun s=>aAdd_i64 s _ _ (by omega)
 simp (disch:=first|omega|(with_unfolding_all exact rfl)|(simp only[new_n,put_n,new_m];omega)|(refine put_m_le ?_;simp only[new_m];omega)) only [res6,K6r0,K6r1,K6r2,K6r3,K6r4s7,K6r4s6,K6r4s5,K6r4s4,K6r4,K6r5,K6r6,K6r7,K6r8,K6r9,K6l0,K6r10,K6,Abs.W,reduceIte,Nat.reduceEqDiff,Nat.reduceAdd,decide_true,decide_false,kLoop_def,Nat.reduceSub,List.cons_append,List.nil_append,List.append_nil,List.length_cons,List.length_nil,Env.find_set,l0,l4,l7,l8,l9,a3]
 obtain ⟨y,hy⟩:∃ y:St,y=(t3.new (.cells [.int .i64 0,.int .i64 0,.int .i64 0] (tag 69))).put t3.n (.cells [.int .i64 x1,.int .i64 (fr+x3),.int .i64 0] (tag 69)):=⟨_,rfl⟩
 rw [← hy]
 have yn:y.n=t3.n+1:=by rw [hy];rfl
 have ym:y.m=min t3.m t3.n:=by rw [hy];simp only [St.put,minN_eq,new_m]
 have yg:∀ c,c≠t3.n→y.h.get c=t3.h.get c:=fun c hc=>by rw [hy,get_put_ne' _ _ _ _ hc,get_new_ne _ _ _ hc]
 have yp:y.h.get t3.n=some (.cells [.int .i64 x1,.int .i64 (fr+x3),.int .i64 0] (tag 69)):=by rw [hy];exact get_put_eq _ _ _ _ rfl (by omega)
 have dy:Die d y.h:=by obtain ⟨f,hf'⟩:=d3;exact ⟨f,by rw [yg _ (by omega)];exact hf'⟩
 generalize hc4:call _ _ _ (.fn 21) _ _=r4
 obtain ⟨x4,t4,rfl,st4,d4,x40,x41⟩:=from_ex hc4 (by omega) dy (by show d<y.n;omega) (by show y.n+200≤far;omega) (by omega) (by omega) (by omega) (by omega)
 have n4:y.n≤t4.n:=st4.n
 have k4:t4.n≤y.n:=st4.le
 have p4':t4.h.get t3.n=some (.cells [.int .i64 x1,.int .i64 (fr+x3),.int .i64 0] (tag 69)):=(st4.same t3.n (by show t3.n<y.n;omega) (by omega)).trans yp
 have a4:∀ s,aAdd s .i64 (fr+x3) x4=.val (.int .i64 (fr+x3+x4)) s:=fun s=>aAdd_i64 s _ _ (by omega)
 simp (disch:=first|omega|(with_unfolding_all exact rfl)|(simp only[new_n,put_n,new_m];omega)|(refine put_m_le ?_;simp only[new_m];omega)) only [res6,K6r0,K6r1,K6r2,K6r3,K6r4s7,K6r4s6,K6r4s5,K6r4s4,K6r4,K6r5,K6r6,K6r7,K6r8,K6r9,K6l0,K6r10,K6,Abs.W,reduceIte,Nat.reduceEqDiff,Nat.reduceAdd,decide_true,decide_false,kLoop_def,Nat.reduceSub,List.cons_append,List.nil_append,List.append_nil,List.length_cons,List.length_nil,Env.find_set,l0,l4,l7,l8,l9,thenT_turn,p4',a4,Nat.reduceAdd,Nat.zero_add]
 rw [endT_kept (by simp only [keptAll_cons,keptAll_nil,find_cons,keptV_ptr,yp,p4',sameO_cells,reduceIte,Nat.reduceEqDiff,Bool.and_self])]
 obtain ⟨z,hz⟩:∃ z:St,z=(⟨t4.h,t4.n,minN y.m t4.m⟩:St).put t3.n (.cells [.int .i64 x1,.int .i64 (fr+x3),.int .i64 (fr+x3+x4)] (tag 69)):=⟨_,rfl⟩
 rw [← hz]
 have zn:z.n=t4.n:=by rw [hz];rfl
 have zm:z.m=min (min y.m t4.m) t3.n:=by rw [hz];simp only [St.put,minN_eq]
 have zg:∀ c,c≠t3.n→z.h.get c=t4.h.get c:=fun c hc=>by rw [hz,get_put_ne' _ _ _ _ hc]
 have zp:z.h.get t3.n=some (.cells [.int .i64 x1,.int .i64 (fr+x3),.int .i64 (fr+x3+x4)] (tag 69)):=by rw [hz];exact get_put_eq _ _ _ _ rfl (by show t3.n<_;omega)
 have dz:Die d z.h:=by obtain ⟨f,hf'⟩:=d4;exact ⟨f,by rw [zg _ (by omega)];exact hf'⟩
 have back:∀ c,c<s.n→c≠d→z.h.get c=s.h.get c:=fun c hc hcd=>by
  rw [zg c (by omega),st4.same c (by show c<y.n;omega) hcd]
  show y.h.get c=_
  rw [yg c (by omega),st3.same c (by simp only [new_n];omega) hcd,get_new_ne _ _ _ (by omega),st2.same c (by omega) hcd,st1.same c hc hcd]
 have gz7:=(back p7 (by omega) (by omega)).trans g7
 obtain ⟨T,hT⟩:∃ T:Stay,T=⟨x1,fr+x3,fr+x3+x4⟩:=⟨_,rfl⟩
 have hR3:Abs.Rows (z.new (.cells [.int .i64 x1,.int .i64 (fr+x3),.int .i64 (fr+x3+x4)] 0)).h lo (z.new (.cells [.int .i64 x1,.int .i64 (fr+x3),.int .i64 (fr+x3+x4)] 0)).n 3 (tag 69) (ts.map Stay.cells) v:=hR.mono (fun c hc hcn=>by rw [get_new_ne _ _ _ (by omega)];exact back c hcn (by omega)) (by simp only [new_n];omega)
 obtain ⟨v',s8,e8,r8,n8,low8,mid8,m8,mm8,_⟩:=append_row (bytes:=24) (row:=[.int .i64 x1,.int .i64 (fr+x3),.int .i64 (fr+x3+x4)]) hR3 (get_new_eq _ _ _ rfl (by omega)) rfl rfl (by rw [List.length_map];omega) (by kernel_rfl) (by simp only [new_n];omega) (by simp only [new_n];omega)
 obtain ⟨ok8,c8,sc8⟩:=r8.scalar
 have sn8:scalars [v']=true:=by rw [sc8];rfl
 simp only [new_n] at n8
 have g78:s8.h.get p7=some (.cells [.int .i64 born,.int .i64 keeps,v] (tag 35)):=by rw [low8 p7 hp7,get_new_ne _ _ _ (by omega)];exact gz7
 have g8t:s8.h.get t3.n=some (.cells [.int .i64 x1,.int .i64 (fr+x3),.int .i64 (fr+x3+x4)] (tag 69)):=by
  rw [mid8 t3.n (by simp only [new_n];omega) (by
   rcases hR.is with ⟨_,h⟩ | ⟨b,_,hb,h,_⟩
   ·rw [h];exact fun h=>nomatch h
   ·rw [h];intro h;injection h;omega),get_new_ne _ _ _ (by omega)]
  exact zp
 have a8:∀ s,aSub s .i64 (i:Int) 1=.val (.int .i64 ((i:Int) - 1)) s:=fun s=>aSub_i64 s _ _ (by omega)
 simp (disch:=first|omega|(with_unfolding_all exact rfl)|(simp only[new_n,put_n,new_m];omega)|(refine put_m_le ?_;simp only[new_m];omega)) only [res6,K6r0,K6r1,K6r2,K6r3,K6r4s7,K6r4s6,K6r4s5,K6r4s4,K6r4,K6r5,K6r6,K6r7,K6r8,K6r9,K6l0,K6r10,K6,Abs.W,reduceIte,Nat.reduceEqDiff,Nat.reduceAdd,decide_true,decide_false,kLoop_def,Nat.reduceSub,List.cons_append,List.nil_append,List.append_nil,List.length_cons,List.length_nil,Env.find_set,l0,l4,l7,l8,l9,endO_nil,regD_ok,gz7,ok2,zp,e8,g78,g8t,c8,sn8,a8,Nat.reduceAdd,Nat.zero_add]
 refine ⟨_,_,T,v',rfl,fun t ht=>?_,by rw [hT];simp only [Env.find_set,reduceIte,Nat.reduceEqDiff],by simp only [Env.find_set,reduceIte,Nat.reduceEqDiff],by rw [hT];simp only;omega,by rw [hT];simp only;omega,by rw [hT];simp only;omega,?_,get_put_eq _ _ _ _ rfl (by omega),?_,⟨fun c hc hcd hcp=>?_,?_,?_,fun hm=>?_,?_⟩⟩
 ·rcases ht with rfl | rfl | rfl | rfl<;>simp only [Env.find_set,reduceIte,Nat.reduceEqDiff]
 ·obtain ⟨f,hf'⟩:=dz
  exact ⟨f,by rw [get_put_ne' _ _ _ _ (by omega),low8 d (by omega),get_new_ne _ _ _ (by omega)];exact hf'⟩
 ·rw [List.map_append,hT]
  exact r8.mono (fun c hc _=>get_put_ne' _ _ _ _ (by omega)) (Nat.le_refl _)
 ·rw [get_put_ne' _ _ _ _ hcp,low8 c hc,get_new_ne _ _ _ (by omega)];exact back c (by omega) hcd
 ·simp only [put_n];omega
 ·simp only [put_n];omega
 ·have h1:=st1.m hm
  have h2:=st2.m h1
  have h3:=st3.m (by rw [new_m];exact h2)
  have h4:d≤t4.m:=st4.m (show d≤far by omega)
  have h8:=m8 d (by omega) (by rw [new_m];omega)
  simp only [St.put,minN_eq];omega
 ·have h1:=st1.mle
  have h2:=st2.mle
  have h3:=st3.mle
  rw [new_m] at h3 mm8
  simp only [St.put,minN_eq];omega
end Go.Proofs.Ytlfalcghhckanab.walk
