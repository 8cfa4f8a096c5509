/- Cellars that are made of numbers: fillings and rates. -/
import Derived.Test.YtkoefjgapmonaaaM5
import Derived.Test.YtkoefjgapmonaaaCodes
import Derived.Test.YtkoefjgapmonaaaWalkAll
set_option linter.unusedSimpArgs false
set_option linter.unusedVariables false
set_option maxHeartbeats 16000000
set_option linter.unusedVariables false
set_option maxRecDepth 10000
namespace Go.Proofs.Ytkoefjgapmonaaa.walk
open Go.Abs Go.Proofs.Ytkoefjgapmonaaa.code
theorem before_snoc {fs:List Fill} {f:Fill} (h:∀ i (hi:i<fs.length),before fs i≤(fs[i]).hour) (hf:before fs fs.length≤f.hour):∀ i (hi:i<(fs++[f]).length),before (fs++[f]) i≤((fs++[f])[i]).hour:=by
 intro i hi
 have hb:before (fs++[f]) i=before fs i:=by
  cases i with
  | zero=>rfl
  | succ i =>
   rw [List.length_append,List.length_singleton] at hi
   simp only [before,List.getElem?_append_left (show i<fs.length by omega)]
 rw [hb]
 by_cases e:i<fs.length
 ·rw [List.getElem_append_left e];exact h i e
 ·have:i=fs.length:=by rw [List.length_append,List.length_singleton] at hi;omega
  subst this
  rw [List.getElem_append_right (Nat.le_refl _)]
  simpa using hf
theorem rateBefore_snoc {rs:List Rate} {r:Rate} (h:∀ i (hi:i<rs.length),(rateBefore rs i).above<(rs[i]).above∧(rateBefore rs i).loss≤(rs[i]).loss) (hf:(rateBefore rs rs.length).above<r.above∧(rateBefore rs rs.length).loss≤r.loss) :
  ∀ i (hi:i<(rs++[r]).length),(rateBefore (rs++[r]) i).above<((rs++[r])[i]).above∧(rateBefore (rs++[r]) i).loss≤((rs++[r])[i]).loss:=by
 intro i hi
 have hb:rateBefore (rs++[r]) i=rateBefore rs i:=by
  cases i with
  | zero=>rfl
  | succ i =>
   rw [List.length_append,List.length_singleton] at hi
   simp only [rateBefore,List.getElem?_append_left (show i<rs.length by omega)]
 rw [hb]
 by_cases e:i<rs.length
 ·rw [List.getElem_append_left e];exact h i e
 ·have:i=rs.length:=by rw [List.length_append,List.length_singleton] at hi;omega
  subst this
  rw [List.getElem_append_right (Nat.le_refl _)]
  simpa using hf
theorem before_last (fs:List Fill) (f:Fill):before (fs++[f]) (fs++[f]).length=f.hour:=by
 rw [List.length_append,List.length_singleton]
 unfold before
 simp
theorem rateBefore_last (rs:List Rate) (r:Rate):rateBefore (rs++[r]) (rs++[r]).length=r:=by
 rw [List.length_append,List.length_singleton]
 unfold rateBefore
 simp
theorem rate_round (N:Nat) (hN:4≤N) (cx:Ctx) (d p7 lo i:Nat) (a b above loss:Int) (v1 v2 v3:AV) (rs:List Rate) (L:Env) (s:St) (hi:0<i) (hi6:i≤10) (hd:Die d s.h) (hdp:d<p7) (hp7:p7<lo) (hlo:lo≤s.n) (hs:s.n+1000≤far)
  (g7:s.h.get p7=some (.cells [.int .i64 a,.int .i64 b,v1,v2,v3] (tag 31))) (hR:Abs.Rows s.h lo s.n 2 (tag 57) (rs.map Rate.cells) v3) (hrl:rs.length≤10) (ha : -1000≤above∧above≤10000) (hl:0≤loss∧loss≤10000)
  (l0:L.find 0=.ptr d 0) (l7:L.find 7=.ptr p7 0) (l13:L.find 13=.int .i64 above) (l14:L.find 14=.int .i64 loss) (l15:L.find 15=.int .i64 i) :
  ∃ L1 s1 above' loss' v3',K5l2 (call Try.prog X N) cx L [] s=.done .norm L1 [] s1∧(∀ t,t=0∨t=6∨t=7→L1.find t=L.find t)∧L1.find 13=.int .i64 above'∧L1.find 14=.int .i64 loss'∧L1.find 15=.int .i64 ((i:Int) - 1)∧(above<above'∧above'≤above+60)∧(loss≤loss'∧loss'≤loss+8)∧Die d s1.h ∧
   s1.h.get p7=some (.cells [.int .i64 a,.int .i64 b,v1,v2,v3'] (tag 31))∧Abs.Rows s1.h lo s1.n 2 (tag 57) ((rs++[(⟨above,loss⟩:Rate)]).map Rate.cells) v3'∧(∀ c,c<lo→c≠d→c≠p7→s1.h.get c=s.h.get c)∧s.n≤s1.n∧s1.n≤s.n+20∧(d≤s.m→d≤s1.m)∧s1.m≤s.m:=by
 have hf:far=1000000000:=rfl
 have e0:decide ((0:Int)<(i:Int))=true:=by simp;omega
 obtain ⟨ok1,c1,sc1⟩:=hR.scalar
 have hR3:Abs.Rows (s.new (.cells [.int .i64 above,.int .i64 loss] 0)).h lo (s.new (.cells [.int .i64 above,.int .i64 loss] 0)).n 2 (tag 57) (rs.map Rate.cells) v3:=hR.mono (fun c hc hcn=>get_new_ne _ _ _ (by omega)) (by simp only [new_n];omega)
 obtain ⟨v3',s8,e8,r8,n8,low8,_,m8,mm8,_⟩:=append_row (bytes:=16) (row:=[.int .i64 above,.int .i64 loss]) hR3 (get_new_eq _ _ _ rfl (by omega)) rfl rfl (by rw [List.length_map];omega) (by kernel_rfl) (by simp only [new_n];omega) (by simp only [new_n];omega)
 obtain ⟨ok8,c8,sc8⟩:=r8.scalar
 have sn8:scalars [v3']=true:=by rw [sc8];rfl
 simp only [new_n] at n8
 have g78:s8.h.get p7=some (.cells [.int .i64 a,.int .i64 b,v1,v2,v3] (tag 31)):=by rw [low8 p7 hp7,get_new_ne _ _ _ (by omega)];exact g7
 simp (disch:=first|omega|(with_unfolding_all exact rfl)|(simp only[new_n,put_n,new_m];omega)|(refine put_m_le ?_;simp only[new_m];omega)) only [res5,K5r0,K5r1,K5r2,K5r3,K5r4,K5r5,K5r6,K5r7,K5r8,K5r9,K5l0,K5r10,K5r11,K5r12s7,K5r12s6,K5r12s5,K5r12s4,K5r12,K5r13,K5r14,K5r15,K5r16,K5l1,K5r17,K5r18,K5r19,K5r20,K5r21,K5r22,K5l2,K5r23,K5,Abs.W,reduceIte,Nat.reduceEqDiff,Nat.reduceAdd,decide_true,decide_false,kLoop_def,Nat.reduceSub,List.cons_append,List.nil_append,List.append_nil,List.length_cons,List.length_nil,Env.find_set,l0,l7,l13,l14,l15,e0,g7,ok1,e8,g78,c8,sn8,Nat.reduceAdd,Nat.zero_add]
 obtain ⟨z,hz⟩:∃ z:St,z=s8.put p7 (.cells [.int .i64 a,.int .i64 b,v1,v2,v3'] (tag 31)):=⟨_,rfl⟩
 rw [← hz]
 have zn:z.n=s8.n:=by rw [hz];rfl
 have zm:z.m=min s8.m p7:=by rw [hz];simp only [St.put,minN_eq]
 have zg:∀ c,c≠p7→z.h.get c=s8.h.get c:=fun c hc=>by rw [hz,get_put_ne' _ _ _ _ hc]
 have zp:z.h.get p7=some (.cells [.int .i64 a,.int .i64 b,v1,v2,v3'] (tag 31)):=by rw [hz];exact get_put_eq _ _ _ _ rfl (by omega)
 have dz:Die d z.h:=by obtain ⟨f,hf'⟩:=hd;exact ⟨f,by rw [zg _ (by omega),low8 d (by omega),get_new_ne _ _ _ (by omega)];exact hf'⟩
 generalize hc1:call _ _ _ (.fn 9) _ _=r1
 obtain ⟨x1,t1,rfl,st1,d1,x10,x11⟩:=from_ex hc1 (by omega) dz (by omega) (by omega) (by omega) (by omega) (by omega) (by omega)
 have n1:z.n≤t1.n:=st1.n
 have k1:t1.n≤z.n:=st1.le
 have a1:∀ s,aAdd s .i64 above x1=.val (.int .i64 (above+x1)) s:=fun s=>aAdd_i64 s _ _ (by omega)
 simp (disch:=first|omega|(with_unfolding_all exact rfl)|(simp only[new_n,put_n,new_m];omega)|(refine put_m_le ?_;simp only[new_m];omega)) only [res5,K5r0,K5r1,K5r2,K5r3,K5r4,K5r5,K5r6,K5r7,K5r8,K5r9,K5l0,K5r10,K5r11,K5r12s7,K5r12s6,K5r12s5,K5r12s4,K5r12,K5r13,K5r14,K5r15,K5r16,K5l1,K5r17,K5r18,K5r19,K5r20,K5r21,K5r22,K5l2,K5r23,K5,Abs.W,reduceIte,Nat.reduceEqDiff,Nat.reduceAdd,decide_true,decide_false,kLoop_def,Nat.reduceSub,List.cons_append,List.nil_append,List.append_nil,List.length_cons,List.length_nil,Env.find_set,l0,l7,l13,l14,l15,a1]
 generalize hc2:call _ _ _ (.fn 7) _ _=r2
 obtain ⟨x2,t2,rfl,st2,d2,x20,x21⟩:=cast_ex hc2 (by omega) d1 (by omega) (by omega) (by omega)
 have n2:t1.n≤t2.n:=st2.n
 have k2:t2.n≤t1.n:=st2.le
 have a2:∀ s,aAdd s .i64 loss x2=.val (.int .i64 (loss+x2)) s:=fun s=>aAdd_i64 s _ _ (by omega)
 have a8:∀ s,aSub s .i64 (i:Int) 1=.val (.int .i64 ((i:Int) - 1)) s:=fun s=>aSub_i64 s _ _ (by omega)
 simp (disch:=first|omega|(with_unfolding_all exact rfl)|(simp only[new_n,put_n,new_m];omega)|(refine put_m_le ?_;simp only[new_m];omega)) only [res5,K5r0,K5r1,K5r2,K5r3,K5r4,K5r5,K5r6,K5r7,K5r8,K5r9,K5l0,K5r10,K5r11,K5r12s7,K5r12s6,K5r12s5,K5r12s4,K5r12,K5r13,K5r14,K5r15,K5r16,K5l1,K5r17,K5r18,K5r19,K5r20,K5r21,K5r22,K5l2,K5r23,K5,Abs.W,reduceIte,Nat.reduceEqDiff,Nat.reduceAdd,decide_true,decide_false,kLoop_def,Nat.reduceSub,List.cons_append,List.nil_append,List.append_nil,List.length_cons,List.length_nil,Env.find_set,l0,l7,l13,l14,l15,a2,a8]
 have back:∀ c,c<z.n→c≠d→t2.h.get c=z.h.get c:=fun c hc hcd=>(st2.same c (by omega) hcd).trans (st1.same c hc hcd)
 refine ⟨_,_,above+x1,loss+x2,v3',rfl,fun t ht=>?_,by simp only [Env.find_set,reduceIte,Nat.reduceEqDiff],by simp only [Env.find_set,reduceIte,Nat.reduceEqDiff],by simp only [Env.find_set,reduceIte,Nat.reduceEqDiff],by omega,by omega,d2,(back p7 (by omega) (by omega)).trans zp,?_,fun c hc hcd hcp=>?_,by omega,by omega,fun hm=>?_,?_⟩
 ·rcases ht with rfl | rfl | rfl<;>simp only [Env.find_set,reduceIte,Nat.reduceEqDiff]
 ·rw [List.map_append]
  exact r8.mono (fun c hc hcn=>(back c (by omega) (by omega)).trans (zg c (by omega))) (by omega)
 ·rw [back c (by omega) hcd,zg c hcp,low8 c hc,get_new_ne _ _ _ (by omega)]
 ·have h8:=m8 d (by omega) (by rw [new_m];exact hm)
  exact st2.m (st1.m (by omega))
 ·have h1:=st1.mle
  have h2:=st2.mle
  rw [new_m] at mm8
  omega
theorem filling_round (N:Nat) (hN:4≤N) (cx:Ctx) (d p7 lo i:Nat) (a b hour:Int) (v1 v2 v3:AV) (bs:List Box) (fs:List Fill) (L:Env) (s:St) (hi:0<i) (hi6:i≤10) (hd:Die d s.h) (hdp:d<p7) (hp7:p7<lo) (hlo:lo≤s.n) (hs:s.n+1000≤far)
  (hB:RowsAt s.h lo 9 (bs.map Box.cells) v1) (hdB:∀ i (hi:i<bs.length),∃ b p c sz,b<lo∧b≠d∧(∀ s,ixsA 9 s v1 (.int .i64 i)=.val (.ptr b p) s)∧s.h.get b=some (.cells c sz)∧cut p 9 c=some (bs[i]).cells) (hbl:0<bs.length∧bs.length≤10) (hbr:∀ b ∈ bs,0≤b.room∧b.room≤500)
  (g7:s.h.get p7=some (.cells [.int .i64 a,.int .i64 b,v1,v2,v3] (tag 31))) (hR:Abs.Rows s.h lo s.n 3 (tag 55) (fs.map Fill.cells) v2) (hfl:fs.length≤10) (hh:0≤hour∧hour≤1000)
  (l0:L.find 0=.ptr d 0) (l7:L.find 7=.ptr p7 0) (l10:L.find 10=.int .i64 hour) (l11:L.find 11=.int .i64 i) :
  ∃ (L1:Env) (s1:St) (F:Fill) (v2':AV),K5l1 (call Try.prog X N) cx L [] s=.done .norm L1 [] s1∧(∀ t,t=0∨t=6∨t=7→L1.find t=L.find t)∧L1.find 10=.int .i64 F.hour∧L1.find 11=.int .i64 ((i:Int) - 1)∧(hour≤F.hour∧F.hour≤hour+5)∧(0≤F.box∧F.box<bs.length)∧(0≤F.grams∧F.grams≤1000)∧Die d s1.h ∧
   s1.h.get p7=some (.cells [.int .i64 a,.int .i64 b,v1,v2',v3] (tag 31))∧Abs.Rows s1.h lo s1.n 3 (tag 55) ((fs++[F]).map Fill.cells) v2'∧(∀ c,c<lo→c≠d→c≠p7→s1.h.get c=s.h.get c)∧s.n≤s1.n∧s1.n≤s.n+20∧(d≤s.m→d≤s1.m)∧s1.m≤s.m:=by
 have hf:far=1000000000:=rfl
 have e0:decide ((0:Int)<(i:Int))=true:=by simp;omega
 have e1:decide ((0:Int)<(bs.length:Int))=true:=by simp;omega
 obtain ⟨ok2,c2,sc2⟩:=hR.scalar
 have ok1:∀ t,okA (.val v1 t)=.val v1 t:=fun t=>okA_ne hB.ne
 have len1:=hB.len
 rw [List.length_map] at len1
 simp (disch:=first|omega|(with_unfolding_all exact rfl)|(simp only[new_n,put_n,new_m];omega)|(refine put_m_le ?_;simp only[new_m];omega)) only [res5,K5r0,K5r1,K5r2,K5r3,K5r4,K5r5,K5r6,K5r7,K5r8,K5r9,K5l0,K5r10,K5r11,K5r12s7,K5r12s6,K5r12s5,K5r12s4,K5r12,K5r13,K5r14,K5r15,K5r16,K5l1,K5r17,K5r18,K5r19,K5r20,K5r21,K5r22,K5l2,K5r23,K5,Abs.W,reduceIte,Nat.reduceEqDiff,Nat.reduceAdd,decide_true,decide_false,kLoop_def,Nat.reduceSub,List.cons_append,List.nil_append,List.append_nil,List.length_cons,List.length_nil,Env.find_set,l0,l7,l10,l11,e0,e1,g7,ok1,len1,gtrA_i64,pickA_true,Nat.reduceAdd,Nat.zero_add]
 generalize hc1:call _ _ _ (.fn 7) _ _=r1
 obtain ⟨x1,t1,rfl,st1,d1,x10,x11⟩:=cast_ex hc1 (by omega) hd (by omega) (by omega) (by omega)
 have n1:s.n≤t1.n:=st1.n
 have k1:t1.n≤s.n:=st1.le
 have a1:∀ s,aAdd s .i64 hour x1=.val (.int .i64 (hour+x1)) s:=fun s=>aAdd_i64 s _ _ (by omega)
 have g71:=(st1.same p7 (by omega) (by omega)).trans g7
 simp (disch:=first|omega|(with_unfolding_all exact rfl)|(simp only[new_n,put_n,new_m];omega)|(refine put_m_le ?_;simp only[new_m];omega)) only [res5,K5r0,K5r1,K5r2,K5r3,K5r4,K5r5,K5r6,K5r7,K5r8,K5r9,K5l0,K5r10,K5r11,K5r12s7,K5r12s6,K5r12s5,K5r12s4,K5r12,K5r13,K5r14,K5r15,K5r16,K5l1,K5r17,K5r18,K5r19,K5r20,K5r21,K5r22,K5l2,K5r23,K5,Abs.W,reduceIte,Nat.reduceEqDiff,Nat.reduceAdd,decide_true,decide_false,kLoop_def,Nat.reduceSub,List.cons_append,List.nil_append,List.append_nil,List.length_cons,List.length_nil,Env.find_set,l0,l7,l10,l11,a1,g71,ok1,len1,Nat.reduceAdd,Nat.zero_add]
 generalize hc2:call _ _ _ (.fn 7) _ _=r2
 obtain ⟨x2,t2,rfl,st2,d2,x20,x21⟩:=cast_ex hc2 (by omega) d1 (by omega) (by omega) (by omega)
 have n2:t1.n≤t2.n:=st2.n
 have k2:t2.n≤t1.n:=st2.le
 have g72:=(st2.same p7 (by omega) (by omega)).trans g71
 have hx2:x2.toNat<bs.length:=by omega
 obtain ⟨bb,pp,cc,zz,hb1,hb2,hix,hgb,hcut⟩:=hdB x2.toNat hx2
 have hx2e:((x2.toNat:Nat):Int)=x2:=by omega
 rw [hx2e] at hix
 have gb2:t2.h.get bb=some (.cells cc zz):=(st2.same bb (by omega) hb2).trans ((st1.same bb (by omega) hb2).trans hgb)
 have hroom:=hbr _ (List.getElem_mem hx2)
 have hn0:nth cc pp=.int .i64 (bs[x2.toNat]).room:=by
  obtain ⟨q,t,h1,h2,_⟩:=cut_some hcut
  subst h1
  have nsk:∀ (a l:List AV) (k:Nat),nth (a++l) (a.length+k)=nth l k:=by
   intro a
   induction a with
   | nil=>intro l k;rw [List.length_nil,Nat.zero_add,List.nil_append]
   | cons x a ih=>intro l k;rw [List.length_cons,List.cons_append,show a.length+1+k=(a.length+k)+1 by omega,nth_cons,if_neg (by omega)];exact ih l k
  have:=nsk q ((bs[x2.toNat]).cells++t) 0
  rw [Nat.add_zero,h2] at this
  rw [List.append_assoc,this]
  rfl
 generalize (bs[x2.toNat]).room=room at hroom hn0
 have a3:∀ s,aAdd s .i64 room 5=.val (.int .i64 (room+5)) s:=fun s=>aAdd_i64 s _ _ (by omega)
 simp (disch:=first|omega|(with_unfolding_all exact rfl)|(simp only[new_n,put_n,new_m];omega)|(refine put_m_le ?_;simp only[new_m];omega)) only [res5,K5r0,K5r1,K5r2,K5r3,K5r4,K5r5,K5r6,K5r7,K5r8,K5r9,K5l0,K5r10,K5r11,K5r12s7,K5r12s6,K5r12s5,K5r12s4,K5r12,K5r13,K5r14,K5r15,K5r16,K5l1,K5r17,K5r18,K5r19,K5r20,K5r21,K5r22,K5l2,K5r23,K5,Abs.W,reduceIte,Nat.reduceEqDiff,Nat.reduceAdd,decide_true,decide_false,kLoop_def,Nat.reduceSub,List.cons_append,List.nil_append,List.append_nil,List.length_cons,List.length_nil,Env.find_set,l0,l7,l10,l11,g72,ok1,ok2,hix,gb2,hn0,a3,Nat.reduceAdd,Nat.zero_add,Nat.add_zero]
 generalize hc3:call _ _ _ (.fn 7) _ _=r3
 obtain ⟨x3,t3,rfl,st3,d3,x30,x31⟩:=cast_ex hc3 (by omega) d2 (by show d<t2.n;omega) (by show t2.n+100≤far;omega) (by omega)
 have n3:t2.n≤t3.n:=st3.n
 have k3:t3.n≤t2.n:=st3.le
 have st3':Stir d t2 ⟨t3.h,t3.n,minN t2.m t3.m⟩ 0:=Stir.draw st3 (by omega)
 obtain ⟨y,hy⟩:∃ y:St,y=⟨t3.h,t3.n,minN t2.m t3.m⟩:=⟨_,rfl⟩
 have yn:y.n=t3.n:=by rw [hy]
 have yh:y.h=t3.h:=by rw [hy]
 have back:∀ c,c<s.n→c≠d→y.h.get c=s.h.get c:=fun c hc hcd=>by
  rw [yh,st3.same c (by show c<t2.n;omega) hcd]
  exact (st2.same c (by omega) hcd).trans (st1.same c (by omega) hcd)
 have g73:t3.h.get p7=some (.cells [.int .i64 a,.int .i64 b,v1,v2,v3] (tag 31)):=by rw [← yh];exact (back p7 (by omega) (by omega)).trans g7
 obtain ⟨F,hF⟩:∃ F:Fill,F=⟨x2,hour+x1,x3⟩:=⟨_,rfl⟩
 have hR3:Abs.Rows (y.new (.cells [.int .i64 x2,.int .i64 (hour+x1),.int .i64 x3] 0)).h lo (y.new (.cells [.int .i64 x2,.int .i64 (hour+x1),.int .i64 x3] 0)).n 3 (tag 55) (fs.map Fill.cells) v2:=hR.mono (fun c hc hcn=>by rw [get_new_ne _ _ _ (by omega)];exact back c hcn (by omega)) (by simp only [new_n];omega)
 obtain ⟨v2',s8,e8,r8,n8,low8,_,m8,mm8,_⟩:=append_row (bytes:=24) (row:=[.int .i64 x2,.int .i64 (hour+x1),.int .i64 x3]) hR3 (get_new_eq _ _ _ rfl (by omega)) rfl rfl (by rw [List.length_map];omega) (by kernel_rfl) (by simp only [new_n];omega) (by simp only [new_n];omega)
 rw [hy] at e8
 have e8':appendA false 3 24 (tag 55) (St.new ⟨t3.h,t3.n,minN t2.m t3.m⟩ (.cells [.int .i64 x2,.int .i64 (hour+x1),.int .i64 x3] 0)) v2 (.slice t3.n 0 1 1 false)=.val v2' s8:=e8
 obtain ⟨ok8,c8,sc8⟩:=r8.scalar
 have sn8:scalars [v2']=true:=by rw [sc8];rfl
 simp only [new_n] at n8
 have g78:s8.h.get p7=some (.cells [.int .i64 a,.int .i64 b,v1,v2,v3] (tag 31)):=by rw [low8 p7 hp7,get_new_ne _ _ _ (by omega),yh];exact g73
 have a8:∀ s,aSub s .i64 (i:Int) 1=.val (.int .i64 ((i:Int) - 1)) s:=fun s=>aSub_i64 s _ _ (by omega)
 simp (disch:=first|omega|(with_unfolding_all exact rfl)|(simp only[new_n,put_n,new_m];omega)|(refine put_m_le ?_;simp only[new_m];omega)) only [res5,K5r0,K5r1,K5r2,K5r3,K5r4,K5r5,K5r6,K5r7,K5r8,K5r9,K5l0,K5r10,K5r11,K5r12s7,K5r12s6,K5r12s5,K5r12s4,K5r12,K5r13,K5r14,K5r15,K5r16,K5l1,K5r17,K5r18,K5r19,K5r20,K5r21,K5r22,K5l2,K5r23,K5,Abs.W,reduceIte,Nat.reduceEqDiff,Nat.reduceAdd,decide_true,decide_false,kLoop_def,Nat.reduceSub,List.cons_append,List.nil_append,List.append_nil,List.length_cons,List.length_nil,Env.find_set,l0,l7,l10,l11,thenT_turn,e8',g78,c8,sn8,Nat.reduceAdd,Nat.zero_add]
 rw [endT_kept (by simp only [keptAll_cons,keptAll_nil,find_cons,keptV_ptr,g72,g73,sameO_cells,reduceIte,Nat.reduceEqDiff,Bool.and_self])]
 simp (disch:=first|omega|(with_unfolding_all exact rfl)|(simp only[new_n,put_n,new_m];omega)|(refine put_m_le ?_;simp only[new_m];omega)) only [res5,K5r0,K5r1,K5r2,K5r3,K5r4,K5r5,K5r6,K5r7,K5r8,K5r9,K5l0,K5r10,K5r11,K5r12s7,K5r12s6,K5r12s5,K5r12s4,K5r12,K5r13,K5r14,K5r15,K5r16,K5l1,K5r17,K5r18,K5r19,K5r20,K5r21,K5r22,K5l2,K5r23,K5,Abs.W,reduceIte,Nat.reduceEqDiff,Nat.reduceAdd,decide_true,decide_false,kLoop_def,Nat.reduceSub,List.cons_append,List.nil_append,List.append_nil,List.length_cons,List.length_nil,Env.find_set,l0,l7,l10,l11,endO_nil,regD_ok,a8]
 refine ⟨_,_,F,v2',rfl,fun t ht=>?_,by rw [hF];simp only [Env.find_set,reduceIte,Nat.reduceEqDiff],by simp only [Env.find_set,reduceIte,Nat.reduceEqDiff],by rw [hF];simp only;omega,by rw [hF];simp only;omega,by rw [hF];simp only;omega,?_,get_put_eq _ _ _ _ rfl (by omega),?_,fun c hc hcd hcp=>?_,?_,?_,fun hm=>?_,?_⟩
 ·rcases ht with rfl | rfl | rfl<;>simp only [Env.find_set,reduceIte,Nat.reduceEqDiff]
 ·obtain ⟨f,hf'⟩:=d3
  exact ⟨f,by rw [get_put_ne' _ _ _ _ (by omega),low8 d (by omega),get_new_ne _ _ _ (by omega),yh];exact hf'⟩
 ·rw [List.map_append,hF]
  exact r8.mono (fun c hc _=>get_put_ne' _ _ _ _ (by omega)) (Nat.le_refl _)
 ·rw [get_put_ne' _ _ _ _ hcp,low8 c hc,get_new_ne _ _ _ (by omega)];exact back c (by omega) hcd
 ·simp only [put_n];omega
 ·simp only [put_n];omega
 ·have h8:=m8 d (by omega) (by rw [new_m,hy];exact st3'.m (st2.m (st1.m hm)))
  simp only [St.put,minN_eq];omega
 ·have h1:=st1.mle
  have h2:=st2.mle
  have h3:=st3'.mle
  rw [new_m,hy] at mm8
  have mm8':s8.m≤minN t2.m t3.m:=mm8
  rw [minN_eq] at mm8'
  simp only [St.put,minN_eq];omega
end Go.Proofs.Ytkoefjgapmonaaa.walk
set_option maxRecDepth 10000
namespace Go.Abs
structure Going (d p lo:Nat) (u s:St) (k:Nat):Prop where
 same:∀ c,c<lo→c≠d→c≠p→s.h.get c=u.h.get c
 n:u.n≤s.n
 le:s.n≤u.n+k
 m:d≤u.m→d≤s.m
 mle:s.m≤u.m
theorem Going.refl (d p lo:Nat) (u:St):Going d p lo u u 0:=⟨fun _ _ _ _=>rfl,Nat.le_refl _,Nat.le_refl _,fun h=>h,Nat.le_refl _⟩
theorem Going.trans {d p lo lo':Nat} {u s t:St} {k j i:Nat} (a:Going d p lo u s k) (b:Going d p lo' s t j) (h:lo≤lo') (hi:k+j≤i):Going d p lo u t i :=
 ⟨fun c hc h1 h2=>(b.same c (by omega) h1 h2).trans (a.same c hc h1 h2),Nat.le_trans a.n b.n,by have:=a.le;have:=b.le;omega,fun h=>b.m (a.m h),Nat.le_trans b.mle a.mle⟩
end Go.Abs
namespace Go.Proofs.Ytkoefjgapmonaaa.walk
open Go.Abs Go.Proofs.Ytkoefjgapmonaaa.code
theorem boxes_loop {N:Nat} {r:R} {L:Env} {s:St} {cx:Ctx} {d p7:Nat} {a b:Int} (M:Nat) (hr:loopN K5l0 rounds (call Try.prog X N) cx L [] s=r) (hN:5≤N) (hX:M≤6) (hd:Die d s.h) (hdp:d<p7) (hpn:p7<s.n) (hs:s.n+2000≤far)
  (g7:s.h.get p7=some (.cells [.int .i64 a,.int .i64 b,.nilslice,.nilslice,.nilslice] (tag 31))) (l0:L.find 0=.ptr d 0) (l7:L.find 7=.ptr p7 0) (l8:L.find 8=.int .i64 (M:Int)) :
  ∃ (L1:Env) (s1:St) (bs:List Box) (v1:AV),r=.done (.exit 0) L1 [] s1∧(∀ t,t=0∨t=2∨t=6∨t=7→L1.find t=L.find t)∧bs.length=M∧(∀ B ∈ bs,B.Ok∧B.room≤500)∧Die d s1.h ∧
   s1.h.get p7=some (.cells [.int .i64 a,.int .i64 b,v1,.nilslice,.nilslice] (tag 31))∧Abs.Rows s1.h (p7+1) s1.n 9 (tag 53) (bs.map Box.cells) v1∧Going d p7 (p7+1) s s1 (20 * M):=by
 have hf:far=1000000000:=rfl
 obtain ⟨e,L1,s1,rfl,rfl,bs,v1,h⟩:=loop_of hr
  (fun i L' t=>∃ (bs:List Box) (v1:AV),bs.length=i∧(∀ B ∈ bs,B.Ok∧B.room≤500)∧(∀ q,q=0∨q=2∨q=6∨q=7→L'.find q=L.find q)∧L'.find 8=.int .i64 ((M:Int) - i)∧Die d t.h ∧
   t.h.get p7=some (.cells [.int .i64 a,.int .i64 b,v1,.nilslice,.nilslice] (tag 31))∧Abs.Rows t.h (p7+1) t.n 9 (tag 53) (bs.map Box.cells) v1∧Going d p7 (p7+1) s t (20 * i))
  (fun e L1 s1=>e=.exit 0∧∃ (bs:List Box) (v1:AV),(∀ t,t=0∨t=2∨t=6∨t=7→L1.find t=L.find t)∧bs.length=M∧(∀ B ∈ bs,B.Ok∧B.room≤500)∧Die d s1.h ∧
   s1.h.get p7=some (.cells [.int .i64 a,.int .i64 b,v1,.nilslice,.nilslice] (tag 31))∧Abs.Rows s1.h (p7+1) s1.n 9 (tag 53) (bs.map Box.cells) v1∧Going d p7 (p7+1) s s1 (20 * M))
  M (by unfold rounds;omega)
  ⟨[],.nilslice,rfl,fun B hB=>(by cases hB),fun _ _=>rfl,by rw [l8];simp,hd,g7,Abs.Rows.nil _ _ _ _ _,Going.refl _ _ _ _⟩
  (fun i L' t hi ⟨bs,v1,q1,q2,q3,q4,q5,q6,q7,q8⟩=>by
   have tn:=q8.n
   have tl:=q8.le
   by_cases hlt:i<M
   ·obtain ⟨L1,s1,B,v1',p0,p1,p2,p3,p4,p5,p6,p7',p8,p9,p10,p11,p12⟩:=box_round N hN cx d p7 (p7+1) (M - i) a b v1 bs L' t (by omega) (by omega) q5 hdp (by omega) (by omega) (by omega) q6 q7 (by omega) ((q3 0 (by simp)).trans l0) ((q3 7 (by simp)).trans l7) (by rw [q4];congr 1;omega)
    refine .inl ⟨hlt,L1,s1,p0,bs++[B],v1',by rw [List.length_append,q1];rfl,fun B' hB'=>?_,fun q hq=>(p1 q hq).trans (q3 q hq),by rw [p2];congr 1;omega,p5,p6,p7',q8.trans ⟨p8,p9,p10,p11,p12⟩ (Nat.le_refl _) (by omega)⟩
    rcases List.mem_append.mp hB' with h | h
    ·exact q2 B' h
    ·rw [List.mem_singleton.mp h];exact ⟨p3,p4⟩
   ·obtain rfl:i=M:=by omega
    have e0:decide ((0:Int)<(i:Int) - i)=false:=by simp
    refine .inr ⟨.exit 0,L'.set 24 (.bool false),t,by simp,?_,rfl,bs,v1,fun q hq=>?_,q1,q2,q5,q6,q7,q8⟩
    ·simp (disch:=first|omega|(with_unfolding_all exact rfl)|(simp only[new_n,put_n,new_m];omega)|(refine put_m_le ?_;simp only[new_m];omega)) only [res5,K5r0,K5r1,K5r2,K5r3,K5r4,K5r5,K5r6,K5r7,K5r8,K5r9,K5l0,K5r10,K5r11,K5r12s7,K5r12s6,K5r12s5,K5r12s4,K5r12,K5r13,K5r14,K5r15,K5r16,K5l1,K5r17,K5r18,K5r19,K5r20,K5r21,K5r22,K5l2,K5r23,K5,Abs.W,reduceIte,Nat.reduceEqDiff,Nat.reduceAdd,decide_true,decide_false,kLoop_def,Nat.reduceSub,List.cons_append,List.nil_append,List.append_nil,List.length_cons,List.length_nil,Env.find_set,q4,e0]
    ·rw [← q3 q hq]
     rcases hq with rfl | rfl | rfl | rfl<;>simp only [Env.find_set,reduceIte,Nat.reduceEqDiff])
 exact ⟨L1,s1,bs,v1,rfl,h⟩
theorem fillings_loop {N:Nat} {r:R} {L:Env} {s:St} {cx:Ctx} {d p7:Nat} {a b:Int} {v1:AV} {bs:List Box} (M:Nat) (hr:loopN K5l1 rounds (call Try.prog X N) cx L [] s=r) (hN:4≤N) (hX:M≤10) (hd:Die d s.h) (hdp:d<p7) (hpn:p7<s.n) (hs:s.n+2000≤far)
  (hB:Abs.Rows s.h (p7+1) s.n 9 (tag 53) (bs.map Box.cells) v1) (hbl:bs.length≤6) (hbr:∀ b ∈ bs,0≤b.room∧b.room≤500)
  (g7:s.h.get p7=some (.cells [.int .i64 a,.int .i64 b,v1,.nilslice,.nilslice] (tag 31))) (l0:L.find 0=.ptr d 0) (l7:L.find 7=.ptr p7 0) (l10:L.find 10=.int .i64 0) (l11:L.find 11=.int .i64 (M:Int)) :
  ∃ (L1:Env) (s1:St) (fs:List Fill) (v2:AV),r=.done (.exit 2) L1 [] s1∧(∀ t,t=0∨t=6∨t=7→L1.find t=L.find t)∧fs.length≤M∧(∀ f ∈ fs,f.Ok bs.length)∧(∀ i (h:i<fs.length),before fs i≤(fs[i]).hour)∧Die d s1.h ∧
   s1.h.get p7=some (.cells [.int .i64 a,.int .i64 b,v1,v2,.nilslice] (tag 31))∧Abs.Rows s1.h s.n s1.n 3 (tag 55) (fs.map Fill.cells) v2∧Going d p7 s.n s s1 (20 * M):=by
 have hf:far=1000000000:=rfl
 obtain ⟨ok1,_,_⟩:=hB.scalar
 have len1:=hB.len
 rw [List.length_map] at len1
 obtain ⟨e,L1,s1,rfl,rfl,fs,v2,h⟩:=loop_of hr
  (fun i L' t=>∃ (fs:List Fill) (v2:AV),fs.length=i∧(∀ f ∈ fs,f.Ok bs.length)∧(∀ i (h:i<fs.length),before fs i≤(fs[i]).hour)∧(0≤before fs fs.length∧before fs fs.length≤5 * i)∧(∀ q,q=0∨q=6∨q=7→L'.find q=L.find q)∧L'.find 10=.int .i64 (before fs fs.length)∧L'.find 11=.int .i64 ((M:Int) - i)∧Die d t.h ∧
   t.h.get p7=some (.cells [.int .i64 a,.int .i64 b,v1,v2,.nilslice] (tag 31))∧Abs.Rows t.h s.n t.n 3 (tag 55) (fs.map Fill.cells) v2∧Going d p7 s.n s t (20 * i))
  (fun e L1 s1=>e=.exit 2∧∃ (fs:List Fill) (v2:AV),(∀ t,t=0∨t=6∨t=7→L1.find t=L.find t)∧fs.length≤M∧(∀ f ∈ fs,f.Ok bs.length)∧(∀ i (h:i<fs.length),before fs i≤(fs[i]).hour)∧Die d s1.h ∧
   s1.h.get p7=some (.cells [.int .i64 a,.int .i64 b,v1,v2,.nilslice] (tag 31))∧Abs.Rows s1.h s.n s1.n 3 (tag 55) (fs.map Fill.cells) v2∧Going d p7 s.n s s1 (20 * M))
  M (by unfold rounds;omega)
  ⟨[],.nilslice,rfl,fun B hB=>(by cases hB),fun i h=>absurd h (Nat.not_lt_zero _),⟨Int.le_refl _,by show (0:Int)≤5 * ((0:Nat):Int);omega⟩,fun _ _=>rfl,by rw [l10];rfl,by rw [l11];simp,hd,g7,Abs.Rows.nil _ _ _ _ _,Going.refl _ _ _ _⟩
  (fun i L' t hi ⟨fs,v2,q1,q2,qo,qb,q3,q4,q4',q5,q6,q7,q8⟩=>by
   have tn:=q8.n
   have tl:=q8.le
   have hBt:Abs.Rows t.h (p7+1) s.n 9 (tag 53) (bs.map Box.cells) v1:=hB.mono (fun c hc hcn=>q8.same c hcn (by omega) (by omega)) (Nat.le_refl _)
   have l0':=(q3 0 (by simp)).trans l0
   have l7':=(q3 7 (by simp)).trans l7
   by_cases hlt:i<M∧0<bs.length
   ·obtain ⟨L1,s1,F,v2',p0,p1,p2,p3,p4,p5,p6,p7',p8,p9,p10,p11,p12,p13,p14⟩:=filling_round N hN cx d p7 s.n (M - i) a b (before fs fs.length) v1 v2 .nilslice bs fs L' t (by omega) (by omega) q5 hdp hpn (by omega) (by omega) hBt.at_
     (fun j hj=>by
      rcases hBt.is with ⟨h1,_⟩ | ⟨b,h0,hb,h2,h3⟩
      ·rw [List.map_eq_nil_iff] at h1;subst h1;exact absurd hj (Nat.not_lt_zero _)
      ·subst h2
       have hj':j<(bs.map Box.cells).length:=by rw [List.length_map];exact hj
       refine ⟨b,j * 9,_,_,hb,by omega,fun s=>by rw [ixs_slice _ _ _ _ _ _ _ _ hj',Nat.zero_add],h3,?_⟩
       rw [flatten_cut hBt.wide hj',List.getElem_map])
     ⟨hlt.2,by omega⟩ hbr q6 q7 (by omega) ⟨qb.1,by omega⟩ l0' l7' q4 (by rw [q4'];congr 1;omega)
    have hl:before (fs++[F]) (fs++[F]).length=F.hour:=before_last fs F
    refine .inl ⟨hlt.1,L1,s1,p0,fs++[F],v2',by rw [List.length_append,q1];rfl,fun f hf'=>?_,before_snoc qo p4.1,by rw [hl];omega,fun q hq=>(p1 q hq).trans (q3 q hq),by rw [hl];exact p2,by rw [p3];congr 1;omega,p7',p8,p9,q8.trans ⟨p10,p11,p12,p13,p14⟩ (Nat.le_refl _) (by omega)⟩
    rcases List.mem_append.mp hf' with h | h
    ·exact q2 f h
    ·rw [List.mem_singleton.mp h];exact ⟨p5.1,p5.2,by omega,by omega,p6.1,by omega⟩
   ·refine .inr ⟨.exit 2,L'.set 78 (.bool false),t,by simp,?_,rfl,fs,v2,fun q hq=>?_,by omega,q2,qo,q5,q6,q7,q8.trans (Going.refl _ _ _ _) (Nat.le_refl _) (by omega)⟩
    ·by_cases hX0:i<M
     ·have e0:decide ((0:Int)<(M:Int) - i)=true:=by simp;omega
      have e1:decide ((0:Int)<(bs.length:Int))=false:=by rw [show bs.length=0 by omega];rfl
      simp (disch:=first|omega|(with_unfolding_all exact rfl)|(simp only[new_n,put_n,new_m];omega)|(refine put_m_le ?_;simp only[new_m];omega)) only [res5,K5r0,K5r1,K5r2,K5r3,K5r4,K5r5,K5r6,K5r7,K5r8,K5r9,K5l0,K5r10,K5r11,K5r12s7,K5r12s6,K5r12s5,K5r12s4,K5r12,K5r13,K5r14,K5r15,K5r16,K5l1,K5r17,K5r18,K5r19,K5r20,K5r21,K5r22,K5l2,K5r23,K5,Abs.W,reduceIte,Nat.reduceEqDiff,Nat.reduceAdd,decide_true,decide_false,kLoop_def,Nat.reduceSub,List.cons_append,List.nil_append,List.append_nil,List.length_cons,List.length_nil,Env.find_set,l7',q4',q6,ok1,len1,e0,e1,Nat.zero_add]
     ·have e0:decide ((0:Int)<(M:Int) - i)=false:=by simp;omega
      simp (disch:=first|omega|(with_unfolding_all exact rfl)|(simp only[new_n,put_n,new_m];omega)|(refine put_m_le ?_;simp only[new_m];omega)) only [res5,K5r0,K5r1,K5r2,K5r3,K5r4,K5r5,K5r6,K5r7,K5r8,K5r9,K5l0,K5r10,K5r11,K5r12s7,K5r12s6,K5r12s5,K5r12s4,K5r12,K5r13,K5r14,K5r15,K5r16,K5l1,K5r17,K5r18,K5r19,K5r20,K5r21,K5r22,K5l2,K5r23,K5,Abs.W,reduceIte,Nat.reduceEqDiff,Nat.reduceAdd,decide_true,decide_false,kLoop_def,Nat.reduceSub,List.cons_append,List.nil_append,List.append_nil,List.length_cons,List.length_nil,Env.find_set,l7',q4',q6,ok1,len1,e0,Nat.zero_add]
    ·rw [← q3 q hq]
     rcases hq with rfl | rfl | rfl<;>simp only [Env.find_set,reduceIte,Nat.reduceEqDiff])
 exact ⟨L1,s1,fs,v2,rfl,h⟩
theorem rates_loop {N:Nat} {r:R} {L:Env} {s:St} {cx:Ctx} {d p7:Nat} {a b above loss:Int} {v1 v2:AV} (M:Nat) (hr:loopN K5l2 rounds (call Try.prog X N) cx L [] s=r) (hN:4≤N) (hX:M≤4) (hd:Die d s.h) (hdp:d<p7) (hpn:p7<s.n) (hs:s.n+2000≤far)
  (g7:s.h.get p7=some (.cells [.int .i64 a,.int .i64 b,v1,v2,.nilslice] (tag 31))) (ha : -60≤above∧above≤20) (hl:0≤loss∧loss≤2) (l0:L.find 0=.ptr d 0) (l7:L.find 7=.ptr p7 0) (l13:L.find 13=.int .i64 above) (l14:L.find 14=.int .i64 loss) (l15:L.find 15=.int .i64 (M:Int)) :
  ∃ (L1:Env) (s1:St) (rs:List Rate) (v3:AV),r=.done (.exit 4) L1 [] s1∧(∀ t,t=0∨t=6∨t=7→L1.find t=L.find t)∧rs.length=M∧(∀ r ∈ rs,r.Ok)∧(∀ i (h:i<rs.length),(rateBefore rs i).above<(rs[i]).above∧(rateBefore rs i).loss≤(rs[i]).loss)∧Die d s1.h ∧
   s1.h.get p7=some (.cells [.int .i64 a,.int .i64 b,v1,v2,v3] (tag 31))∧Abs.Rows s1.h s.n s1.n 2 (tag 57) (rs.map Rate.cells) v3∧Going d p7 s.n s s1 (20 * M):=by
 have hf:far=1000000000:=rfl
 obtain ⟨e,L1,s1,rfl,rfl,rs,v3,h⟩:=loop_of hr
  (fun i L' t=>∃ (rs:List Rate) (v3:AV) (above' loss':Int),rs.length=i∧(∀ r ∈ rs,r.Ok)∧(∀ i (h:i<rs.length),(rateBefore rs i).above<(rs[i]).above∧(rateBefore rs i).loss≤(rs[i]).loss)∧((rateBefore rs rs.length).above<above'∧(rateBefore rs rs.length).loss≤loss')∧(-60≤above'∧above'≤20+60 * i)∧(0≤loss'∧loss'≤2+8 * i)∧(∀ q,q=0∨q=6∨q=7→L'.find q=L.find q)∧L'.find 13=.int .i64 above'∧L'.find 14=.int .i64 loss'∧L'.find 15=.int .i64 ((M:Int) - i)∧Die d t.h ∧
   t.h.get p7=some (.cells [.int .i64 a,.int .i64 b,v1,v2,v3] (tag 31))∧Abs.Rows t.h s.n t.n 2 (tag 57) (rs.map Rate.cells) v3∧Going d p7 s.n s t (20 * i))
  (fun e L1 s1=>e=.exit 4∧∃ (rs:List Rate) (v3:AV),(∀ t,t=0∨t=6∨t=7→L1.find t=L.find t)∧rs.length=M∧(∀ r ∈ rs,r.Ok)∧(∀ i (h:i<rs.length),(rateBefore rs i).above<(rs[i]).above∧(rateBefore rs i).loss≤(rs[i]).loss)∧Die d s1.h ∧
   s1.h.get p7=some (.cells [.int .i64 a,.int .i64 b,v1,v2,v3] (tag 31))∧Abs.Rows s1.h s.n s1.n 2 (tag 57) (rs.map Rate.cells) v3∧Going d p7 s.n s s1 (20 * M))
  M (by unfold rounds;omega)
  ⟨[],.nilslice,above,loss,rfl,fun B hB=>(by cases hB),fun i h=>absurd h (Nat.not_lt_zero _),⟨by show (-301:Int)<above;omega,by show (0:Int)≤loss;omega⟩,⟨ha.1,by omega⟩,⟨hl.1,by omega⟩,fun _ _=>rfl,l13,l14,by rw [l15];simp,hd,g7,Abs.Rows.nil _ _ _ _ _,Going.refl _ _ _ _⟩
  (fun i L' t hi ⟨rs,v3,ab,lo,q1,q2,qo,qb,qa,ql,q3,q13,q14,q15,q5,q6,q7,q8⟩=>by
   have tn:=q8.n
   have tl:=q8.le
   have l0':=(q3 0 (by simp)).trans l0
   have l7':=(q3 7 (by simp)).trans l7
   by_cases hlt:i<M
   ·obtain ⟨L1,s1,ab',lo',v3',p0,p1,p2,p3,p4,p5,p6,p7',p8,p9,p10,p11,p12,p13,p14⟩:=rate_round N hN cx d p7 s.n (M - i) a b ab lo v1 v2 v3 rs L' t (by omega) (by omega) q5 hdp hpn (by omega) (by omega) q6 q7 (by omega) ⟨by omega,by omega⟩ ⟨by omega,by omega⟩ l0' l7' q13 q14 (by rw [q15];congr 1;omega)
    have hl:rateBefore (rs++[(⟨ab,lo⟩:Rate)]) (rs++[(⟨ab,lo⟩:Rate)]).length=⟨ab,lo⟩:=rateBefore_last rs _
    refine .inl ⟨hlt,L1,s1,p0,rs++[(⟨ab,lo⟩:Rate)],v3',ab',lo',by rw [List.length_append,q1];rfl,fun f hf'=>?_,rateBefore_snoc qo qb,by rw [hl];exact ⟨p5.1,p6.1⟩,by omega,by omega,fun q hq=>(p1 q hq).trans (q3 q hq),p2,p3,by rw [p4];congr 1;omega,p7',p8,p9,q8.trans ⟨p10,p11,p12,p13,p14⟩ (Nat.le_refl _) (by omega)⟩
    rcases List.mem_append.mp hf' with h | h
    ·exact q2 f h
    ·rw [List.mem_singleton.mp h];exact ⟨by show -300≤ab;omega,by show ab≤400;omega,by show 0≤lo;omega,by show lo≤1000;omega⟩
   ·obtain rfl:i=M:=by omega
    have e0:decide ((0:Int)<(i:Int) - i)=false:=by simp
    refine .inr ⟨.exit 4,L'.set 114 (.bool false),t,by simp,?_,rfl,rs,v3,fun q hq=>?_,q1,q2,qo,q5,q6,q7,q8⟩
    ·simp (disch:=first|omega|(with_unfolding_all exact rfl)|(simp only[new_n,put_n,new_m];omega)|(refine put_m_le ?_;simp only[new_m];omega)) only [res5,K5r0,K5r1,K5r2,K5r3,K5r4,K5r5,K5r6,K5r7,K5r8,K5r9,K5l0,K5r10,K5r11,K5r12s7,K5r12s6,K5r12s5,K5r12s4,K5r12,K5r13,K5r14,K5r15,K5r16,K5l1,K5r17,K5r18,K5r19,K5r20,K5r21,K5r22,K5l2,K5r23,K5,Abs.W,reduceIte,Nat.reduceEqDiff,Nat.reduceAdd,decide_true,decide_false,kLoop_def,Nat.reduceSub,List.cons_append,List.nil_append,List.append_nil,List.length_cons,List.length_nil,Env.find_set,q15,e0]
    ·rw [← q3 q hq]
     rcases hq with rfl | rfl | rfl<;>simp only [Env.find_set,reduceIte,Nat.reduceEqDiff])
 exact ⟨L1,s1,rs,v3,rfl,h⟩
end Go.Proofs.Ytkoefjgapmonaaa.walk
set_option maxRecDepth 10000
namespace Go.Proofs.Ytkoefjgapmonaaa.walk
open Go.Abs Go.Proofs.Ytkoefjgapmonaaa.code
structure CellarNew (h:Heap) (lo n:Nat) (c:Cellar) (v1 v2 v3:AV):Prop where
 b:Abs.Rows h lo n 9 (tag 53) (c.boxes.map Box.cells) v1
 f:Abs.Rows h lo n 3 (tag 55) (c.fills.map Fill.cells) v2
 r:Abs.Rows h lo n 2 (tag 57) (c.rates.map Rate.cells) v3
theorem rows_scal {h:Heap} {lo n w tg:Nat} {rows:List (List AV)} {v:AV} (r:Abs.Rows h lo n w tg rows v):v.scalar=true:=by
 rcases r.is with ⟨_,h2⟩ | ⟨b,_,_,h2,_⟩<;>subst h2<;>rfl
theorem rows_lower {h:Heap} {lo lo' n w tg:Nat} {rows:List (List AV)} {v:AV} (r:Abs.Rows h lo n w tg rows v) (hl:lo'≤lo):Abs.Rows h lo' n w tg rows v :=
 ⟨r.wide,r.is.imp id fun ⟨b,h0,h1⟩=>⟨b,by omega,h1⟩⟩
theorem CellarNew.mono {h h':Heap} {lo n n':Nat} {c:Cellar} {v1 v2 v3:AV} (a:CellarNew h lo n c v1 v2 v3) (hh:∀ b,lo≤b→b<n→h'.get b=h.get b) (hn:n≤n'):CellarNew h' lo n' c v1 v2 v3 :=
 ⟨a.b.mono hh hn,a.f.mono hh hn,a.r.mono hh hn⟩
theorem CellarNew.in_ {h:Heap} {lo n:Nat} {c:Cellar} {v1 v2 v3:AV} (a:CellarNew h lo n c v1 v2 v3):CellarIn h n c v1 v2 v3 :=
 ⟨⟨a.b.at_,a.f.at_,a.r.at_⟩,a.f.seq,rows_scal a.b,rows_scal a.r⟩
structure Cellar.Tame (c:Cellar) (xb xf:Nat):Prop where
 h0 : -20≤c.hl
 h1:c.hh≤200
 b:c.boxes.length≤xb
 f:c.fills.length≤xf
 r:∀ b ∈ c.boxes,b.room≤500
theorem CellarOf_tame {N d:Nat} {s:St} {r:ARes} (xb xf:Nat) (hr:call Try.prog X N (.fn 5) [.ptr d 0,.int .i64 xb,.int .i64 xf] s=r) (hN:6≤N) (hb:xb≤6) (hf20:xf≤10) (hd:Die d s.h) (hdn:d<s.n) (hs:s.n+5000≤far) :
  ∃ (c:Cellar) (v1 v2 v3:AV) (t:St),r=.val (.agg [.int .i64 c.hl,.int .i64 c.hh,v1,v2,v3]) t∧Stir d s t 1000∧Die d t.h∧(c.Ok∧c.Tame xb xf)∧CellarNew t.h (s.n+1) t.n c v1 v2 v3:=by
 obtain ⟨n,rfl⟩:∃ n,N=n+1:=⟨N - 1,by omega⟩
 have hff:far=1000000000:=rfl
 obtain ⟨v,t,e,st,c,v1,v2,v3,rfl,hd',ok,hC⟩:=call_stir (n:=n) (args:=[.ptr d 0,.int .i64 xb,.int .i64 xf]) (s:=s) (d:=d) (k:=1000)
  (Q:=fun v h m=>∃ (c:Cellar) (v1 v2 v3:AV),v=.agg [.int .i64 c.hl,.int .i64 c.hh,v1,v2,v3]∧Die d h∧(c.Ok∧c.Tame xb xf)∧CellarNew h (s.n+1) m c v1 v2 v3) Try.func5 rfl (fun u uh un um=>by
  rw [← uh] at hd
  rw [← un]
  have sh:shapeT Try.prog 31=some (some 5):=by kernel_rfl
  rw [enter5]
  simp (disch:=first|omega|(with_unfolding_all exact rfl)|(simp only[new_n,put_n,new_m];omega)|(refine put_m_le ?_;simp only[new_m];omega)) only [res5,K5r0,K5r1,K5r2,K5r3,K5r4,K5r5,K5r6,K5r7,K5r8,K5r9,K5r10,K5r11,K5r12s7,K5r12s6,K5r12s5,K5r12s4,K5r12,K5r13,K5r14,K5r15,K5r16,K5r17,K5r18,K5r19,K5r20,K5r21,K5r22,K5r23,K5,Abs.W,reduceIte,Nat.reduceEqDiff,Nat.reduceAdd,decide_true,decide_false,kLoop_def,Nat.reduceSub,List.cons_append,List.nil_append,List.append_nil,List.length_cons,List.length_nil]
  obtain ⟨w,hw⟩:∃ w:St,w=u.new (.cells [.int .i64 0,.int .i64 0,.nilslice,.nilslice,.nilslice] (tag 31)):=⟨_,rfl⟩
  rw [← hw]
  have wn:w.n=u.n+1:=by rw [hw];rfl
  have wm:w.m=far:=by rw [hw];exact um
  have wg:∀ c,c<u.n→w.h.get c=u.h.get c:=fun c hc=>by rw [hw,get_new_ne _ _ _ (by omega)]
  have w0:w.h.get u.n=some (.cells [.int .i64 0,.int .i64 0,.nilslice,.nilslice,.nilslice] (tag 31)):=by rw [hw];exact get_new_eq _ _ _ rfl (by omega)
  have dw:Die d w.h:=by obtain ⟨f,hg⟩:=hd;exact ⟨f,by rw [wg _ (by omega)];exact hg⟩
  generalize hc1:call _ _ _ (.fn 17) _ _=r1
  obtain ⟨a,b,t1,rfl,st1,d1,a0,a1,a2⟩:=span_ex hc1 (by omega) dw (by omega) (by omega) (by omega) (by omega) (by omega)
  have n1:w.n≤t1.n:=st1.n
  have k1:t1.n≤w.n+2:=st1.le
  simp (disch:=first|omega|(with_unfolding_all exact rfl)|(simp only[new_n,put_n,new_m];omega)|(refine put_m_le ?_;simp only[new_m];omega)) only [res5,K5r0,K5r1,K5r2,K5r3,K5r4,K5r5,K5r6,K5r7,K5r8,K5r9,K5r10,K5r11,K5r12s7,K5r12s6,K5r12s5,K5r12s4,K5r12,K5r13,K5r14,K5r15,K5r16,K5r17,K5r18,K5r19,K5r20,K5r21,K5r22,K5r23,K5,Abs.W,reduceIte,Nat.reduceEqDiff,Nat.reduceAdd,decide_true,decide_false,kLoop_def,Nat.reduceSub,List.cons_append,List.nil_append,List.append_nil,List.length_cons,List.length_nil,Env.find_set]
  obtain ⟨y,hy⟩:∃ y:St,y=(t1.new (.cells [.int .i64 0,.int .i64 0,.nilslice,.nilslice,.nilslice] (tag 31))).put t1.n (.cells [.int .i64 a,.int .i64 b,.nilslice,.nilslice,.nilslice] (tag 31)):=⟨_,rfl⟩
  rw [← hy]
  have yn:y.n=t1.n+1:=by rw [hy];rfl
  have ym:y.m=min t1.m t1.n:=by rw [hy];simp only [St.put,minN_eq,new_m]
  have yg:∀ c,c≠t1.n→y.h.get c=t1.h.get c:=fun c hc=>by rw [hy,get_put_ne' _ _ _ _ hc,get_new_ne _ _ _ hc]
  have yp:y.h.get t1.n=some (.cells [.int .i64 a,.int .i64 b,.nilslice,.nilslice,.nilslice] (tag 31)):=by rw [hy];exact get_put_eq _ _ _ _ rfl (by omega)
  have dy:Die d y.h:=by obtain ⟨f,hg⟩:=d1;exact ⟨f,by rw [yg _ (by omega)];exact hg⟩
  have a3:∀ s,aAdd s .i64 (xb:Int) 1=.val (.int .i64 ((xb:Int)+1)) s:=fun s=>aAdd_i64 s _ _ (by omega)
  simp (disch:=first|omega|(with_unfolding_all exact rfl)|(simp only[new_n,put_n,new_m];omega)|(refine put_m_le ?_;simp only[new_m];omega)) only [res5,K5r0,K5r1,K5r2,K5r3,K5r4,K5r5,K5r6,K5r7,K5r8,K5r9,K5r10,K5r11,K5r12s7,K5r12s6,K5r12s5,K5r12s4,K5r12,K5r13,K5r14,K5r15,K5r16,K5r17,K5r18,K5r19,K5r20,K5r21,K5r22,K5r23,K5,Abs.W,reduceIte,Nat.reduceEqDiff,Nat.reduceAdd,decide_true,decide_false,kLoop_def,Nat.reduceSub,List.cons_append,List.nil_append,List.append_nil,List.length_cons,List.length_nil,Env.find_set,a3]
  generalize hc2:call _ _ _ (.fn 7) _ _=r2
  obtain ⟨x2,t2,rfl,st2,d2,x20,x21⟩:=cast_ex hc2 (by omega) dy (by omega) (by omega) (by omega)
  have n2:y.n≤t2.n:=st2.n
  have k2:t2.n≤y.n:=st2.le
  obtain ⟨M,hM⟩:∃ M:Nat,x2=(M:Int):=⟨x2.toNat,by omega⟩
  subst hM
  have p2:t2.h.get t1.n=some (.cells [.int .i64 a,.int .i64 b,.nilslice,.nilslice,.nilslice] (tag 31)):=(st2.same _ (by omega) (by omega)).trans yp
  simp (disch:=first|omega|(with_unfolding_all exact rfl)|(simp only[new_n,put_n,new_m];omega)|(refine put_m_le ?_;simp only[new_m];omega)) only [res5,K5r0,K5r1,K5r2,K5r3,K5r4,K5r5,K5r6,K5r7,K5r8,K5r9,K5r10,K5r11,K5r12s7,K5r12s6,K5r12s5,K5r12s4,K5r12,K5r13,K5r14,K5r15,K5r16,K5r17,K5r18,K5r19,K5r20,K5r21,K5r22,K5r23,K5,Abs.W,reduceIte,Nat.reduceEqDiff,Nat.reduceAdd,decide_true,decide_false,kLoop_def,Nat.reduceSub,List.cons_append,List.nil_append,List.append_nil,List.length_cons,List.length_nil,Env.find_set]
  generalize hl1:loopN K5l0 rounds _ _ _ _ _=q1
  obtain ⟨L3,t3,bs,v1,rfl,s3,bsl,bsok,d3,p3,rb3,go3⟩:=boxes_loop M hl1 (by omega) (by omega) d2 (show d<t1.n by omega) (by omega) (by omega) p2 (by simp only [find_cons,Env.find_set,reduceIte,Nat.reduceEqDiff]) (by simp only [find_cons,Env.find_set,reduceIte,Nat.reduceEqDiff]) (by simp only [find_cons,Env.find_set,reduceIte,Nat.reduceEqDiff])
  have n3:=go3.n
  have k3:=go3.le
  have l30:L3.find 0=.ptr d 0:=(s3 0 (by simp)).trans (by simp only [find_cons,Env.find_set,reduceIte,Nat.reduceEqDiff])
  have l32:L3.find 2=.int .i64 xf:=(s3 2 (by simp)).trans (by simp only [find_cons,Env.find_set,reduceIte,Nat.reduceEqDiff])
  have l36:L3.find 6=.ptr u.n 0:=(s3 6 (by simp)).trans (by simp only [find_cons,Env.find_set,reduceIte,Nat.reduceEqDiff])
  have l37:L3.find 7=.ptr t1.n 0:=(s3 7 (by simp)).trans (by simp only [find_cons,Env.find_set,reduceIte,Nat.reduceEqDiff])
  clear s3
  have a4:∀ s,aAdd s .i64 (xf:Int) 1=.val (.int .i64 ((xf:Int)+1)) s:=fun s=>aAdd_i64 s _ _ (by omega)
  simp (disch:=first|omega|(with_unfolding_all exact rfl)|(simp only[new_n,put_n,new_m];omega)|(refine put_m_le ?_;simp only[new_m];omega)) only [res5,K5r0,K5r1,K5r2,K5r3,K5r4,K5r5,K5r6,K5r7,K5r8,K5r9,K5r10,K5r11,K5r12s7,K5r12s6,K5r12s5,K5r12s4,K5r12,K5r13,K5r14,K5r15,K5r16,K5r17,K5r18,K5r19,K5r20,K5r21,K5r22,K5r23,K5,Abs.W,reduceIte,Nat.reduceEqDiff,Nat.reduceAdd,decide_true,decide_false,kLoop_def,Nat.reduceSub,List.cons_append,List.nil_append,List.append_nil,List.length_cons,List.length_nil,Env.find_set,l30,l32,l36,l37,a4]
  generalize hc4:call _ _ _ (.fn 7) _ _=r4
  obtain ⟨x4,t4,rfl,st4,d4,x40,x41⟩:=cast_ex hc4 (by omega) d3 (by omega) (by omega) (by omega)
  have n4:t3.n≤t4.n:=st4.n
  have k4:t4.n≤t3.n:=st4.le
  obtain ⟨M4,hM⟩:∃ M:Nat,x4=(M:Int):=⟨x4.toNat,by omega⟩
  subst hM
  have p4:=(st4.same t1.n (by omega) (by omega)).trans p3
  simp (disch:=first|omega|(with_unfolding_all exact rfl)|(simp only[new_n,put_n,new_m];omega)|(refine put_m_le ?_;simp only[new_m];omega)) only [res5,K5r0,K5r1,K5r2,K5r3,K5r4,K5r5,K5r6,K5r7,K5r8,K5r9,K5r10,K5r11,K5r12s7,K5r12s6,K5r12s5,K5r12s4,K5r12,K5r13,K5r14,K5r15,K5r16,K5r17,K5r18,K5r19,K5r20,K5r21,K5r22,K5r23,K5,Abs.W,reduceIte,Nat.reduceEqDiff,Nat.reduceAdd,decide_true,decide_false,kLoop_def,Nat.reduceSub,List.cons_append,List.nil_append,List.append_nil,List.length_cons,List.length_nil,Env.find_set]
  generalize hl2:loopN K5l1 rounds _ _ _ _ _=q2
  obtain ⟨L5,t5,fs,v2,rfl,s5,fsl,fsok,fso,d5,p5,rf5,go5⟩:=fillings_loop (bs:=bs) M4 hl2 (by omega) (by omega) d4 (show d<t1.n by omega) (by omega) (by omega) (rb3.mono (fun c hc hcn=>st4.same c hcn (by omega)) n4) (by omega) (fun b hb=>⟨(bsok b hb).1.r0,(bsok b hb).2⟩) p4 (by simp only [find_cons,Env.find_set,l30,reduceIte,Nat.reduceEqDiff]) (by simp only [find_cons,Env.find_set,l37,reduceIte,Nat.reduceEqDiff]) (by simp only [find_cons,Env.find_set,reduceIte,Nat.reduceEqDiff]) (by simp only [find_cons,Env.find_set,reduceIte,Nat.reduceEqDiff])
  have n5:=go5.n
  have k5:=go5.le
  have l50:L5.find 0=.ptr d 0:=(s5 0 (by simp)).trans (by simp only [find_cons,Env.find_set,l30,reduceIte,Nat.reduceEqDiff])
  have l56:L5.find 6=.ptr u.n 0:=(s5 6 (by simp)).trans (by simp only [find_cons,Env.find_set,l36,reduceIte,Nat.reduceEqDiff])
  have l57:L5.find 7=.ptr t1.n 0:=(s5 7 (by simp)).trans (by simp only [find_cons,Env.find_set,l37,reduceIte,Nat.reduceEqDiff])
  clear s5
  simp (disch:=first|omega|(with_unfolding_all exact rfl)|(simp only[new_n,put_n,new_m];omega)|(refine put_m_le ?_;simp only[new_m];omega)) only [res5,K5r0,K5r1,K5r2,K5r3,K5r4,K5r5,K5r6,K5r7,K5r8,K5r9,K5r10,K5r11,K5r12s7,K5r12s6,K5r12s5,K5r12s4,K5r12,K5r13,K5r14,K5r15,K5r16,K5r17,K5r18,K5r19,K5r20,K5r21,K5r22,K5r23,K5,Abs.W,reduceIte,Nat.reduceEqDiff,Nat.reduceAdd,decide_true,decide_false,kLoop_def,Nat.reduceSub,List.cons_append,List.nil_append,List.append_nil,List.length_cons,List.length_nil,Env.find_set,l50,l56,l57]
  generalize hc6:call _ _ _ (.fn 9) _ _=r6
  obtain ⟨x6,t6,rfl,st6,d6,x60,x61⟩:=from_ex hc6 (by omega) d5 (by omega) (by omega) (by omega) (by omega) (by omega) (by omega)
  have n6:t5.n≤t6.n:=st6.n
  have k6:t6.n≤t5.n:=st6.le
  simp (disch:=first|omega|(with_unfolding_all exact rfl)|(simp only[new_n,put_n,new_m];omega)|(refine put_m_le ?_;simp only[new_m];omega)) only [res5,K5r0,K5r1,K5r2,K5r3,K5r4,K5r5,K5r6,K5r7,K5r8,K5r9,K5r10,K5r11,K5r12s7,K5r12s6,K5r12s5,K5r12s4,K5r12,K5r13,K5r14,K5r15,K5r16,K5r17,K5r18,K5r19,K5r20,K5r21,K5r22,K5r23,K5,Abs.W,reduceIte,Nat.reduceEqDiff,Nat.reduceAdd,decide_true,decide_false,kLoop_def,Nat.reduceSub,List.cons_append,List.nil_append,List.append_nil,List.length_cons,List.length_nil,Env.find_set,l50,l56,l57]
  generalize hc7:call _ _ _ (.fn 7) _ _=r7
  obtain ⟨x7,t7,rfl,st7,d7,x70,x71⟩:=cast_ex hc7 (by omega) d6 (by omega) (by omega) (by omega)
  have n7:t6.n≤t7.n:=st7.n
  have k7:t7.n≤t6.n:=st7.le
  simp (disch:=first|omega|(with_unfolding_all exact rfl)|(simp only[new_n,put_n,new_m];omega)|(refine put_m_le ?_;simp only[new_m];omega)) only [res5,K5r0,K5r1,K5r2,K5r3,K5r4,K5r5,K5r6,K5r7,K5r8,K5r9,K5r10,K5r11,K5r12s7,K5r12s6,K5r12s5,K5r12s4,K5r12,K5r13,K5r14,K5r15,K5r16,K5r17,K5r18,K5r19,K5r20,K5r21,K5r22,K5r23,K5,Abs.W,reduceIte,Nat.reduceEqDiff,Nat.reduceAdd,decide_true,decide_false,kLoop_def,Nat.reduceSub,List.cons_append,List.nil_append,List.append_nil,List.length_cons,List.length_nil,Env.find_set,l50,l56,l57]
  generalize hc8:call _ _ _ (.fn 9) _ _=r8
  obtain ⟨x8,t8,rfl,st8,d8,x80,x81⟩:=from_ex hc8 (by omega) d7 (by omega) (by omega) (by omega) (by omega) (by omega) (by omega)
  have n8:t7.n≤t8.n:=st8.n
  have k8:t8.n≤t7.n:=st8.le
  obtain ⟨M8,hM⟩:∃ M:Nat,x8=(M:Int):=⟨x8.toNat,by omega⟩
  subst hM
  have back8:∀ c,c<t5.n→c≠d→t8.h.get c=t5.h.get c:=fun c hc hcd=>(st8.same c (by omega) hcd).trans ((st7.same c (by omega) hcd).trans (st6.same c hc hcd))
  have p8:=(back8 t1.n (by omega) (by omega)).trans p5
  simp (disch:=first|omega|(with_unfolding_all exact rfl)|(simp only[new_n,put_n,new_m];omega)|(refine put_m_le ?_;simp only[new_m];omega)) only [res5,K5r0,K5r1,K5r2,K5r3,K5r4,K5r5,K5r6,K5r7,K5r8,K5r9,K5r10,K5r11,K5r12s7,K5r12s6,K5r12s5,K5r12s4,K5r12,K5r13,K5r14,K5r15,K5r16,K5r17,K5r18,K5r19,K5r20,K5r21,K5r22,K5r23,K5,Abs.W,reduceIte,Nat.reduceEqDiff,Nat.reduceAdd,decide_true,decide_false,kLoop_def,Nat.reduceSub,List.cons_append,List.nil_append,List.append_nil,List.length_cons,List.length_nil,Env.find_set,l50,l56,l57]
  generalize hl3:loopN K5l2 rounds _ _ _ _ _=q3
  obtain ⟨L9,t9,rs,v3,rfl,s9,rsl,rsok,rso,d9,p9,rr9,go9⟩:=rates_loop M8 hl3 (by omega) (by omega) d8 (show d<t1.n by omega) (by omega) (by omega) p8 ⟨x60,by omega⟩ ⟨x70,by omega⟩ (by simp only [find_cons,Env.find_set,l50,reduceIte,Nat.reduceEqDiff]) (by simp only [find_cons,Env.find_set,l57,reduceIte,Nat.reduceEqDiff]) (by simp only [find_cons,Env.find_set,reduceIte,Nat.reduceEqDiff]) (by simp only [find_cons,Env.find_set,reduceIte,Nat.reduceEqDiff]) (by simp only [find_cons,Env.find_set,reduceIte,Nat.reduceEqDiff])
  have n9:=go9.n
  have k9:=go9.le
  have l96:L9.find 6=.ptr u.n 0:=(s9 6 (by simp)).trans (by simp only [find_cons,Env.find_set,l56,reduceIte,Nat.reduceEqDiff])
  have l97:L9.find 7=.ptr t1.n 0:=(s9 7 (by simp)).trans (by simp only [find_cons,Env.find_set,l57,reduceIte,Nat.reduceEqDiff])
  clear s9
  have back:∀ c,c<w.n→c≠d→t9.h.get c=w.h.get c:=fun c hc hcd=>by
   rw [go9.same c (by omega) hcd (by omega),back8 c (by omega) hcd,go5.same c (by omega) hcd (by omega),st4.same c (by omega) hcd,go3.same c (by omega) hcd (by omega),st2.same c (by omega) hcd,yg c (by omega)]
   exact st1.same c hc hcd
  have p90:t9.h.get u.n=some (.cells [.int .i64 0,.int .i64 0,.nilslice,.nilslice,.nilslice] (tag 31)):=(back u.n (by omega) (by omega)).trans w0
  obtain ⟨ok1,c1,sc1⟩:=rb3.scalar
  obtain ⟨ok2,c2,sc2⟩:=rf5.scalar
  obtain ⟨ok3,c3,sc3⟩:=rr9.scalar
  have sc:scalars [v1,v2,v3]=true:=by rw [sc1,sc2,sc3];rfl
  simp (disch:=first|omega|(with_unfolding_all exact rfl)|(simp only[new_n,put_n,new_m];omega)|(refine put_m_le ?_;simp only[new_m];omega)) only [res5,K5r0,K5r1,K5r2,K5r3,K5r4,K5r5,K5r6,K5r7,K5r8,K5r9,K5r10,K5r11,K5r12s7,K5r12s6,K5r12s5,K5r12s4,K5r12,K5r13,K5r14,K5r15,K5r16,K5r17,K5r18,K5r19,K5r20,K5r21,K5r22,K5r23,K5,Abs.W,reduceIte,Nat.reduceEqDiff,Nat.reduceAdd,decide_true,decide_false,kLoop_def,Nat.reduceSub,List.cons_append,List.nil_append,List.append_nil,List.length_cons,List.length_nil,Env.find_set,l96,l97,p9,p90,sc1,sc2,sc3,scal_nil,Nat.zero_add]
  have hpl:plain (.agg [.int .i64 a,.int .i64 b,v1,v2,v3])=false:=by
   rcases rr9.is with ⟨h,_⟩ | ⟨b3,_,_,h3,_⟩
   ·rw [List.map_eq_nil_iff] at h;subst h;simp at rsl;omega
   ·subst h3
    rcases rb3.is with ⟨_,h1⟩ | ⟨b1,_,_,h1,_⟩<;>rcases rf5.is with ⟨_,h2⟩ | ⟨b2,_,_,h2,_⟩<;>subst h1<;>subst h2<;>rfl
  refine ⟨.agg [.int .i64 a,.int .i64 b,v1,v2,v3],_,leave_cell _ _ _ _ sh ?_,⟨fun c hc hcd=>?_,?_,?_,fun hm=>?_,?_⟩,hpl,⟨a,b,bs,fs,rs⟩,v1,v2,v3,rfl,?_,?_,?_,?_,?_⟩
  ·rw [l96]
   simp (disch:=first|omega|(with_unfolding_all exact rfl)|(simp only[new_n,put_n,new_m];omega)|(refine put_m_le ?_;simp only[new_m];omega)) only [Abs.W,reduceIte,Nat.reduceEqDiff,Nat.reduceAdd,decide_true,decide_false,kLoop_def,Nat.reduceSub,List.cons_append,List.nil_append,List.append_nil,List.length_cons,List.length_nil,okA_agg]
  ·rw [get_put_ne' _ _ _ _ (by omega),back c (by omega) hcd,wg c hc]
  ·simp only [put_n];omega
  ·simp only [put_n];omega
  ·have h1:=st1.m (by omega)
   have h2:=st2.m (by omega)
   have h3:=go3.m h2
   have h4:=st4.m h3
   have h5:=go5.m h4
   have h6:=st6.m h5
   have h7:=st7.m h6
   have h8:=st8.m h7
   have h9:=go9.m h8
   simp only [St.put,minN_eq];omega
  ·have h1:=st1.mle
   have h2:=st2.mle
   have h3:=go3.mle
   have h4:=st4.mle
   have h5:=go5.mle
   have h6:=st6.mle
   have h7:=st7.mle
   have h8:=st8.mle
   have h9:=go9.mle
   simp only [St.put,minN_eq];omega
  ·obtain ⟨f,hg⟩:=d9
   exact ⟨f,by rw [get_put_ne' _ _ _ _ (by omega)];exact hg⟩
  ·exact ⟨⟨by show -300≤a;omega,a1,by show b≤400;omega,by show bs.length≤6;omega,fun b hb=>(bsok b hb).1,by show fs.length≤20;omega,fsok,fso,by show 1≤rs.length;omega,by show rs.length≤6;omega,rsok,rso⟩,a0,a2,by show bs.length≤xb;omega,by show fs.length≤xf;omega,fun b hb=>(bsok b hb).2⟩
  ·exact rows_lower (rb3.mono (fun c hc hcn=>by
    rw [get_put_ne' _ _ _ _ (by omega),go9.same c (by omega) (by omega) (by omega),back8 c (by omega) (by omega),go5.same c (by omega) (by omega) (by omega),st4.same c (by omega) (by omega)]) (by simp only [put_n];omega)) (by omega)
  ·exact rows_lower (rf5.mono (fun c hc hcn=>by
    rw [get_put_ne' _ _ _ _ (by omega),go9.same c (by omega) (by omega) (by omega),back8 c (by omega) (by omega)]) (by simp only [put_n];omega)) (by omega)
  ·exact rows_lower (rr9.mono (fun c hc hcn=>by rw [get_put_ne' _ _ _ _ (by omega)]) (by simp only [put_n];omega)) (by omega)) (by omega)
 exact ⟨c,v1,v2,v3,t,hr.symm.trans e,st,hd',ok,hC⟩
end Go.Proofs.Ytkoefjgapmonaaa.walk
set_option maxRecDepth 10000
namespace Go.Proofs.Ytkoefjgapmonaaa.walk
open Go.Abs Go.Proofs.Ytkoefjgapmonaaa.code
structure VisAt (h:Heap) (lo n:Nat) (vs:List Int) (hour:Int) (v:AV):Prop where
 rows:Abs.Rows h lo n 1 (tag 3) (ints vs) v
 sort:vs.Pairwise (·<·)
 low:∀ w ∈ vs,0≤w∧w<hour
theorem VisAt.snoc {vs:List Int} {hour x:Int} (h1:vs.Pairwise (·<·)) (h2:∀ w ∈ vs,0≤w∧w<hour) (h0:0≤hour) (hx:0<x):(vs++[hour]).Pairwise (·<·)∧∀ w ∈ vs++[hour],0≤w∧w<hour+x:=by
 refine ⟨List.pairwise_append.mpr ⟨h1,List.pairwise_singleton _ _,fun a ha b hb=>?_⟩,fun w hw=>?_⟩
 ·rw [List.mem_singleton.mp hb];exact (h2 a ha).2
 ·rcases List.mem_append.mp hw with hw | hw
  ·have:=h2 w hw;omega
  ·rw [List.mem_singleton.mp hw];omega
theorem visits_round (N:Nat) (hN:4≤N) (cx:Ctx) (d lo i:Nat) (hour:Int) (v:AV) (vs:List Int) (L:Env) (s:St) (hi:0<i) (hi6:i≤10) (hd:Die d s.h) (hdl:d<lo) (hlo:lo≤s.n) (hs:s.n+1000≤far) (hV:VisAt s.h lo s.n vs hour v) (hvl:vs.length≤10) (hh:0≤hour∧hour≤1000)
  (l0:L.find 0=.ptr d 0) (l5:L.find 5=v) (l6:L.find 6=.int .i64 hour) (l7:L.find 7=.int .i64 (i:Int)) :
  ∃ L1 s1 hour' v',K8l0 (call Try.prog X N) cx L [] s=.done .norm L1 [] s1∧L1.find 0=.ptr d 0∧L1.find 5=v'∧L1.find 6=.int .i64 hour'∧L1.find 7=.int .i64 ((i:Int) - 1)∧VisAt s1.h lo s1.n (vs++[hour]) hour' v'∧(0≤hour'∧hour'≤hour+5)∧Die d s1.h∧(∀ c,c<lo→c≠d→s1.h.get c=s.h.get c)∧s.n≤s1.n∧s1.n≤s.n+2∧(d≤s.m→d≤s1.m)∧s1.m≤s.m:=by
 have hf:far=1000000000:=rfl
 have e0:decide ((0:Int)<(i:Int))=true:=by simp;omega
 obtain ⟨hR,hS,hLow⟩:=hV
 obtain ⟨ok1,c1,sc1⟩:=hR.scalar
 have hR3:Abs.Rows (s.new (.cells [.int .i64 hour] 0)).h lo (s.new (.cells [.int .i64 hour] 0)).n 1 (tag 3) (ints vs) v:=hR.mono (fun c hc hcn=>get_new_ne _ _ _ (by omega)) (by simp only [new_n];omega)
 obtain ⟨v',s8,e8,r8,n8,low8,_,m8,mm8,_⟩:=append_row (bytes:=8) (row:=[.int .i64 hour]) hR3 (get_new_eq _ _ _ rfl (by omega)) rfl rfl (by rw [ints_len];omega) (by kernel_rfl) (by simp only [new_n];omega) (by simp only [new_n];omega)
 obtain ⟨ok8,c8,sc8⟩:=r8.scalar
 simp only [new_n] at n8
 have coI:cellsOf 1 (.int .i64 hour)=some [.int .i64 hour]:=rfl
 simp (disch:=first|omega|(with_unfolding_all exact rfl)|(simp only[new_n,put_n,new_m];omega)|(refine put_m_le ?_;simp only[new_m];omega)) only [K8l0,res8,K8r0,K8r1,K8r2,K8r3,K8r4,K8r5,K8r6,K8r7,K8r8,K8,Abs.W,reduceIte,Nat.reduceEqDiff,Nat.reduceAdd,decide_true,decide_false,kLoop_def,Nat.reduceSub,List.cons_append,List.nil_append,List.append_nil,List.length_cons,List.length_nil,Env.find_set,l0,l5,l6,l7,e0,ok1,coI,e8,ok8,Nat.reduceAdd,Nat.zero_add]
 have d8:Die d s8.h:=by obtain ⟨f,hf'⟩:=hd;exact ⟨f,by rw [low8 d (by omega),get_new_ne _ _ _ (by omega)];exact hf'⟩
 generalize hc1:call _ _ _ (.fn 9) _ _=r1
 obtain ⟨x1,t1,rfl,st1,d1,x10,x11⟩:=from_ex hc1 (by omega) d8 (by omega) (by omega) (by omega) (by omega) (by omega) (by omega)
 have n1:s8.n≤t1.n:=st1.n
 have k1:t1.n≤s8.n:=st1.le
 have a1:∀ s,aAdd s .i64 hour x1=.val (.int .i64 (hour+x1)) s:=fun s=>aAdd_i64 s _ _ (by omega)
 have a8:∀ s,aSub s .i64 (i:Int) 1=.val (.int .i64 ((i:Int) - 1)) s:=fun s=>aSub_i64 s _ _ (by omega)
 simp (disch:=first|omega|(with_unfolding_all exact rfl)|(simp only[new_n,put_n,new_m];omega)|(refine put_m_le ?_;simp only[new_m];omega)) only [K8l0,res8,K8r0,K8r1,K8r2,K8r3,K8r4,K8r5,K8r6,K8r7,K8r8,K8,Abs.W,reduceIte,Nat.reduceEqDiff,Nat.reduceAdd,decide_true,decide_false,kLoop_def,Nat.reduceSub,List.cons_append,List.nil_append,List.append_nil,List.length_cons,List.length_nil,Env.find_set,l0,l5,l6,l7,a1,a8,Nat.reduceAdd,Nat.zero_add]
 obtain ⟨w1,w2⟩:=VisAt.snoc hS hLow hh.1 (by omega:0<x1)
 refine ⟨_,_,hour+x1,v',rfl,by simp only [Env.find_set,find_cons,l0,reduceIte,Nat.reduceEqDiff],by simp only [Env.find_set,find_cons,reduceIte,Nat.reduceEqDiff],by simp only [Env.find_set,find_cons,reduceIte,Nat.reduceEqDiff],by simp only [Env.find_set,find_cons,reduceIte,Nat.reduceEqDiff],⟨?_,w1,w2⟩,by omega,d1,fun c hc hcd=>?_,by omega,by omega,fun hm=>?_,?_⟩
 ·rw [← ints_snoc]
  exact r8.mono (fun c hc hcn=>st1.same c (by omega) (by omega)) (by omega)
 ·rw [st1.same c (by omega) hcd,low8 c hc,get_new_ne _ _ _ (by omega)]
 ·have h8:=m8 d (by omega) (by rw [new_m];exact hm)
  exact st1.m h8
 ·have h1:=st1.mle
  rw [new_m] at mm8
  omega
theorem visitsOf_ex {N d:Nat} {s:St} {r:ARes} (hr:call Try.prog X N (.fn 8) [.ptr d 0,.int .i64 2] s=r) (hN:5≤N) (hd:Die d s.h) (hdn:d<s.n) (hs:s.n+5000≤far) :
  ∃ (vs:List Int) (bv:Nat) (t:St),r=.val (.slice bv 0 vs.length vs.length true) t∧Stir d s t 10∧Die d t.h∧s.n≤bv∧bv<t.n∧t.h.get bv=some (.cells (ints vs).flatten (1+tag 3))∧vs≠[]∧vs.length≤2∧vs.Pairwise (·<·)∧∀ w ∈ vs,0≤w∧w≤30:=by
 obtain ⟨n,rfl⟩:∃ n,N=n+1:=⟨N - 1,by omega⟩
 have hff:far=1000000000:=rfl
 obtain ⟨v,t,e,st,vs,bv,rfl,q⟩:=call_stir (n:=n) (args:=[.ptr d 0,.int .i64 2]) (s:=s) (d:=d) (k:=10)
  (Q:=fun v h m=>∃ (vs:List Int) (bv:Nat),v=.slice bv 0 vs.length vs.length true∧Die d h∧s.n≤bv∧bv<m∧h.get bv=some (.cells (ints vs).flatten (1+tag 3))∧vs≠[]∧vs.length≤2∧vs.Pairwise (·<·)∧∀ w ∈ vs,0≤w∧w≤30) Try.func8 rfl (fun u uh un um=>by
  rw [← uh] at hd
  rw [← un]
  rw [enter8]
  simp (disch:=first|omega|(with_unfolding_all exact rfl)|(simp only[new_n,put_n,new_m];omega)|(refine put_m_le ?_;simp only[new_m];omega)) only [res8,K8r0,K8r1,K8r2,K8r3,K8r4,K8r5,K8r6,K8r7,K8r8,K8,Abs.W,reduceIte,Nat.reduceEqDiff,Nat.reduceAdd,decide_true,decide_false,kLoop_def,Nat.reduceSub,List.cons_append,List.nil_append,List.append_nil,List.length_cons,List.length_nil]
  generalize hc1:call _ _ _ (.fn 7) _ _=r1
  obtain ⟨x1,t1,rfl,st1,d1,x10,x11⟩:=cast_ex hc1 (by omega) hd (by omega) (by omega) (by omega)
  have n1:u.n≤t1.n:=st1.n
  have k1:t1.n≤u.n:=st1.le
  simp (disch:=first|omega|(with_unfolding_all exact rfl)|(simp only[new_n,put_n,new_m];omega)|(refine put_m_le ?_;simp only[new_m];omega)) only [res8,K8r0,K8r1,K8r2,K8r3,K8r4,K8r5,K8r6,K8r7,K8r8,K8,Abs.W,reduceIte,Nat.reduceEqDiff,Nat.reduceAdd,decide_true,decide_false,kLoop_def,Nat.reduceSub,List.cons_append,List.nil_append,List.append_nil,List.length_cons,List.length_nil,Env.find_set]
  generalize hc2:call _ _ _ (.fn 9) _ _=r2
  obtain ⟨x2,t2,rfl,st2,d2,x20,x21⟩:=from_ex hc2 (by omega) d1 (by omega) (by omega) (by omega) (by omega) (by omega) (by omega)
  have n2:t1.n≤t2.n:=st2.n
  have k2:t2.n≤t1.n:=st2.le
  obtain ⟨M,hM⟩:∃ M:Nat,x2=(M:Int):=⟨x2.toNat,by omega⟩
  subst hM
  simp (disch:=first|omega|(with_unfolding_all exact rfl)|(simp only[new_n,put_n,new_m];omega)|(refine put_m_le ?_;simp only[new_m];omega)) only [res8,K8r0,K8r1,K8r2,K8r3,K8r4,K8r5,K8r6,K8r7,K8r8,K8,Abs.W,reduceIte,Nat.reduceEqDiff,Nat.reduceAdd,decide_true,decide_false,kLoop_def,Nat.reduceSub,List.cons_append,List.nil_append,List.append_nil,List.length_cons,List.length_nil,Env.find_set]
  generalize hlp:loopN _ rounds _ _ _ _ _=q1
  have m1:=st1.m
  have m2:=st2.m
  have mm1:=st1.mle
  have mm2:=st2.mle
  obtain ⟨e,L1,t3,rfl,rfl,vs,hour,v',f5,hV,hlen,hh,d3,fr,nn,nk,mk,ml⟩:=loop_of hlp
   (fun i L t=>∃ vs hour v',L.find 0=.ptr d 0∧L.find 5=v'∧L.find 6=.int .i64 hour∧L.find 7=.int .i64 ((M:Int) - i)∧VisAt t.h u.n t.n vs hour v'∧vs.length=i∧(0≤hour∧hour≤4+5 * i)∧Die d t.h∧(∀ c,c<u.n→c≠d→t.h.get c=u.h.get c)∧u.n≤t.n∧t.n≤u.n+2 * i∧d≤t.m∧t.m≤far)
   (fun e L t=>e=.exit 0∧∃ vs hour v',L.find 5=v'∧VisAt t.h u.n t.n vs hour v'∧vs.length=M∧(0≤hour∧hour≤4+5 * M)∧Die d t.h∧(∀ c,c<u.n→c≠d→t.h.get c=u.h.get c)∧u.n≤t.n∧t.n≤u.n+2 * M∧d≤t.m∧t.m≤far) M (by unfold rounds;omega)
   ⟨[],x1,.nilslice,by simp only [find_cons,Env.find_set,reduceIte,Nat.reduceEqDiff],by simp only [find_cons,Env.find_set,reduceIte,Nat.reduceEqDiff],by simp only [find_cons,Env.find_set,reduceIte,Nat.reduceEqDiff],by simp only [find_cons,Env.find_set,reduceIte,Nat.reduceEqDiff];rw [show (M:Int) - ((0:Nat):Int)=M by omega],⟨⟨fun r hr=>(by cases hr),.inl ⟨rfl,rfl⟩⟩,List.Pairwise.nil,fun w hw=>(by cases hw)⟩,rfl,by omega,d2,fun c hc hcd=>(st2.same c (by omega) hcd).trans (st1.same c hc hcd),by omega,by omega,m2 (m1 (by omega)),by omega⟩
   (fun i L t hi ⟨vs,hour,v',l0,l5,l6,l7,hV,hlen,hh,hd',fr,nn,nk,mk,ml⟩=>by
    by_cases hlt:i<M
    ·have l7':L.find 7=.int .i64 ((M - i:Nat):Int):=by rw [l7];congr 1;omega
     obtain ⟨L1,s1,hour',v1,w1,w2,w3,w4,w5,w6,w7,w8,w9,wa,wb,wc,wd⟩:=visits_round n (by omega) ⟨8,none,Try.f8.ntmps,X 8⟩ d u.n (M - i) hour v' vs L t (by omega) (by omega) hd' (by omega) nn (by omega) hV (by omega) (by omega) l0 l5 l6 l7'
     refine .inl ⟨hlt,L1,s1,w1,vs++[hour],hour',v1,w2,w3,w4,by rw [w5];congr 1;omega,w6,by rw [List.length_append,List.length_singleton,hlen],by omega,w8,fun c hc hcd=>(w9 c hc hcd).trans (fr c hc hcd),by omega,by omega,wc mk,by omega⟩
    ·obtain rfl:i=M:=by omega
     have e0:decide ((0:Int)<(i:Int) - i)=false:=decide_eq_false (by omega)
     refine .inr ⟨.exit 0,_,t,by simp,by
      simp (disch:=first|omega|(with_unfolding_all exact rfl)|(simp only[new_n,put_n,new_m];omega)|(refine put_m_le ?_;simp only[new_m];omega)) only [K8l0,res8,K8r0,K8r1,K8r2,K8r3,K8r4,K8r5,K8r6,K8r7,K8r8,K8,Abs.W,reduceIte,Nat.reduceEqDiff,Nat.reduceAdd,decide_true,decide_false,kLoop_def,Nat.reduceSub,List.cons_append,List.nil_append,List.append_nil,List.length_cons,List.length_nil,Env.find_set,l7,e0]
      rfl,rfl,vs,hour,v',?_,hV,hlen,hh,hd',fr,nn,nk,mk,ml⟩
     simp only [Env.find_set,l5,reduceIte,Nat.reduceEqDiff])
  obtain ⟨hR,hS,hLow⟩:=hV
  have hne:vs≠[]:=fun h=>by rw [h] at hlen;simp at hlen;omega
  rcases hR.is with ⟨z,_⟩ | ⟨bv,z1,z2,z3,z4⟩
  ·have:(ints vs).length=0:=by rw [z];rfl
   rw [ints_len] at this
   exact absurd (List.length_eq_zero_iff.mp this) hne
  ·rw [ints_len] at z3
   subst z3
   have okR:∀ t,okA (.val (.slice bv 0 vs.length vs.length true) t)=.val (.slice bv 0 vs.length vs.length true) t:=fun _=>rfl
   simp (disch:=first|omega|(with_unfolding_all exact rfl)|(simp only[new_n,put_n,new_m];omega)|(refine put_m_le ?_;simp only[new_m];omega)) only [res8,K8r0,K8r1,K8r2,K8r3,K8r4,K8r5,K8r6,K8r7,K8r8,K8,Abs.W,reduceIte,Nat.reduceEqDiff,Nat.reduceAdd,decide_true,decide_false,kLoop_def,Nat.reduceSub,List.cons_append,List.nil_append,List.append_nil,List.length_cons,List.length_nil,Env.find_set,f5,okR]
   exact ⟨_,_,rfl,⟨fr,nn,by omega,fun _=>mk,by omega⟩,rfl,vs,bv,rfl,d3,z1,z2,z4,hne,by omega,hS,fun w hw=>by have:=hLow w hw;omega⟩) (by omega)
 exact ⟨vs,bv,t,hr.symm.trans e,st,q.1,q.2.1,q.2.2.1,q.2.2.2.1,q.2.2.2.2.1,q.2.2.2.2.2.1,q.2.2.2.2.2.2⟩
end Go.Proofs.Ytkoefjgapmonaaa.walk
set_option maxRecDepth 10000
namespace Go.Abs
structure Sl (no:Nat→Prop) (h:Heap) (n w:Nat) (rows:List (List AV)) (v:AV):Prop where
 wide:∀ r ∈ rows,r.length=w
 is:(rows=[]∧v=.nilslice)∨∃ b o cap e c sz,b<n∧no b∧(rows.length≤cap∧(e=true→0<cap))∧v=.slice b o rows.length cap e∧h.get b=some (.cells c sz)∧cut o (rows.length * w) c=some rows.flatten
theorem Sl.nil (no:Nat→Prop) (h:Heap) (n w:Nat):Sl no h n w [] .nilslice:=⟨fun _ hr=>(by cases hr),.inl ⟨rfl,rfl⟩⟩
theorem Sl.seq {no:Nat→Prop} {h:Heap} {n w:Nat} {rows:List (List AV)} {v:AV} (r:Sl no h n w rows v):Seq h n w rows v :=
 ⟨r.wide,r.is.imp id fun ⟨b,o,cap,e,c,sz,h1,_,_,h4,h5,h6⟩=>⟨b,o,cap,e,c,sz,h1,h4,h5,h6⟩⟩
theorem Sl.at_ {no:Nat→Prop} {h:Heap} {n w:Nat} {rows:List (List AV)} {v:AV} (r:Sl no h n w rows v):RowsAt h n w rows v:=r.seq.at_
theorem Sl.okA {no:Nat→Prop} {h:Heap} {n w:Nat} {rows:List (List AV)} {v:AV} (r:Sl no h n w rows v) (t:St):Abs.okA (.val v t)=.val v t:=okA_ne r.at_.ne
theorem Sl.len {no:Nat→Prop} {h:Heap} {n w:Nat} {rows:List (List AV)} {v:AV} (r:Sl no h n w rows v) (s:St):lenSlA s v=.val (.int .i64 rows.length) s:=r.at_.len s
theorem Sl.move {no no':Nat→Prop} {h h':Heap} {n n' w:Nat} {rows:List (List AV)} {v:AV} (r:Sl no h n w rows v) (hh:∀ b,b<n→no b→h'.get b=h.get b∧no' b) (hn:n≤n'):Sl no' h' n' w rows v :=
 ⟨r.wide,r.is.imp id fun ⟨b,o,cap,e,c,sz,h1,h2,h3,h4,h5,h6⟩=>⟨b,o,cap,e,c,sz,by omega,(hh b h1 h2).2,h3,h4,by rw [(hh b h1 h2).1];exact h5,h6⟩⟩
theorem Sl.grow {no:Nat→Prop} {h h':Heap} {n n' w:Nat} {rows:List (List AV)} {v:AV} (r:Sl no h n w rows v) (hh:∀ b,b<n→h'.get b=h.get b) (hn:n≤n'):Sl no h' n' w rows v:=r.move (fun b h1 h2=>⟨hh b h1,h2⟩) hn
theorem Sl.scal {no:Nat→Prop} {h:Heap} {n w:Nat} {rows:List (List AV)} {v:AV} (r:Sl no h n w rows v):scalars [v]=true∧cellsOf 1 v=some [v]∧∀ l,scalars (v::l)=scalars l:=by
 rcases r.is with ⟨_,h2⟩ | ⟨b,o,cap,e,c,sz,_,_,_,h2,_⟩<;>subst h2<;>exact ⟨rfl,rfl,fun _=>rfl⟩
theorem Sl.kept {no:Nat→Prop} {h h':Heap} {n w:Nat} {rows:List (List AV)} {v:AV} (r:Sl no h n w rows v) (hh:∀ b,b<n→no b→h'.get b=h.get b):keptV h h' v=true:=by
 rcases r.is with ⟨_,h2⟩ | ⟨b,o,cap,e,c,sz,h1,h3,_,h2,h4,_⟩
 ·subst h2;rfl
 ·subst h2;rw [keptV_slice,hh b h1 h3,h4,sameO_cells]
theorem Sl.apart {no:Nat→Prop} {h:Heap} {n w c p:Nat} {rows:List (List AV)} {v:AV} (r:Sl no h n w rows v) (hc:¬ no c):apartA v (.ptr c p)=true:=by
 rcases r.is with ⟨_,h2⟩ | ⟨b,o,cap,e,q,sz,h1,h3,_,h2,h4,_⟩
 ·subst h2;rfl
 ·subst h2;exact apart_slice (fun e=>hc (e▸h3))
theorem take_snoc {α:Type} {l:List α} {i:Nat} (h:i<l.length):l.take (i+1)=l.take i++[l[i]]:=by rw [List.take_add_one];simp [h]
theorem Sl.get {no:Nat→Prop} {h:Heap} {n w:Nat} {rows:List (List AV)} {v:AV} (r:Sl no h n w rows v) {i:Nat} (hi:i<rows.length):∃ b p c sz,b<n∧no b∧(∀ s,ixsA w s v (.int .i64 (i:Int))=.val (.ptr b p) s)∧h.get b=some (.cells c sz)∧Abs.cut p w c=some rows[i]:=by
 rcases r.is with ⟨h1,_⟩ | ⟨b,o,cap,e,c,sz,h1,h2,h3,h4,h5,h6⟩
 ·subst h1;simp at hi
 ·subst h4
  exact ⟨b,o+i * w,c,sz,h1,h2,fun s=>ixs_slice _ _ _ _ _ _ _ _ hi,h5,cut_cut h6 (flatten_cut r.wide hi)⟩
theorem flatten_take {w:Nat}:∀ {rows:List (List AV)} {i:Nat},(∀ r ∈ rows,r.length=w)→i≤rows.length→(rows.take i).flatten=rows.flatten.take (i * w)
 | [],i,_,h=>by simp at h;subst h;simp
 | r::rs,0,_,_=>by simp
 | r::rs,i+1,hw,h=>by
  have h1:=hw r (List.mem_cons_self ..)
  rw [List.take_succ_cons,List.flatten_cons,List.flatten_cons,flatten_take (fun x hx=>hw x (List.mem_cons_of_mem _ hx)) (by simpa using h),show (i+1) * w=r.length+i * w by rw [h1,Nat.succ_mul];omega,List.take_length_add_append]
theorem cut_less {o k j:Nat} {c F:List AV} (h:cut o k c=some F) (hj:j≤k):cut o j c=some (F.take j):=by
 obtain ⟨a,t,h3,h4,h5⟩:=cut_some h
 have e:F=F.take j++F.drop j:=(List.take_append_drop j F).symm
 have l:(F.take j).length=j:=by rw [List.length_take];omega
 rw [h3,← h4,List.append_assoc]
 have:=cut_skip a (F++t) 0 j
 rw [Nat.add_zero] at this
 rw [this,cut_zero]
 conv=>lhs;rw [e,List.append_assoc]
 have h6:=cut1_app (F.take j) (F.drop j++t)
 rw [l] at h6
 exact h6
theorem Sl.to {no:Nat→Prop} {h:Heap} {n w i:Nat} {rows:List (List AV)} {v:AV} (r:Sl no h n w rows v) (hi:i≤rows.length):∃ v',(∀ s,sliceVal w none (some (.int .i64 (i:Int))) s v=.val v' s)∧Sl no h n w (rows.take i) v':=by
 have wd:∀ x ∈ rows.take i,x.length=w:=fun x hx=>r.wide x (List.mem_of_mem_take hx)
 rcases r.is with ⟨h1,h2⟩ | ⟨b,o,cap,e,c,sz,q1,q2,q3,q4,q5,q6⟩
 ·subst h1;subst h2
  have:i=0:=by simpa using hi
  subst this
  exact ⟨.nilslice,fun s=>rfl,wd,.inl ⟨rfl,rfl⟩⟩
 ·subst q4
  have ln:(rows.take i).length=i:=by rw [List.length_take];omega
  have e1:boundsA rows.length cap none (some (.int .i64 (i:Int)))=some (0,i):=by
   unfold boundsA hiA loA
   simp only [boundA_nat _ _ _ (by have:=q3.1;omega:i≤cap)]
  have q7:cut o (i * w) c=some (rows.take i).flatten:=by
   rw [flatten_take r.wide hi]
   exact cut_less q6 (Nat.mul_le_mul_right _ hi)
  by_cases hc:cap=0
  ·subst hc
   have hr:rows=[]:=List.length_eq_zero_iff.mp (by have:=q3.1;omega)
   subst hr
   have:i=0:=by simpa using hi
   subst this
   cases e with
   | false =>
    refine ⟨.slice b o (0 - 0) 0 false,fun s=>?_,wd,.inr ⟨b,o,0,false,c,sz,q1,q2,⟨by simp,fun h=>(by cases h)⟩,by simp,q5,q6⟩⟩
    unfold sliceVal
    simp only [Nat.ble_eq_true_of_le q3.1,e1,Nat.zero_mul,Nat.add_zero]
    rfl
   | true=>exact absurd (q3.2 rfl) (Nat.lt_irrefl 0)
  ·refine ⟨.slice b o i cap e,fun s=>?_,wd,.inr ⟨b,o,cap,e,c,sz,q1,q2,⟨by have:=q3.1;omega,q3.2⟩,by rw [ln],q5,by rw [ln];exact q7⟩⟩
   unfold sliceVal
   simp only [Nat.ble_eq_true_of_le q3.1,e1,nbeq_f hc,Nat.zero_mul,Nat.add_zero,Nat.sub_zero]
theorem Sl.of_at {no:Nat→Prop} {h:Heap} {n b w tg:Nat} {rows:List (List AV)} {v:AV} (r:IsAt h n b w tg rows v) (hb:b<n→no b):Sl no h n w rows v:=by
 rcases r.is with ⟨h1,h2⟩ | ⟨h1,h2,h3,h4⟩
 ·exact ⟨r.wide,.inl ⟨h1,h2⟩⟩
 ·exact ⟨r.wide,.inr ⟨b,0,rows.length,true,_,_,h2,hb h2,⟨Nat.le_refl _,fun _=>List.length_pos_iff.mpr h1⟩,h3,h4,by rw [cut_zero,← flatten_len r.wide,cut1_all]⟩⟩
end Go.Abs
set_option maxRecDepth 10000
namespace Go.Abs
theorem cut1_nth:∀ {p:Nat} {c:List AV} {v:AV},cut p 1 c=some [v]→nth c p=v
 | p,[],v,h=>by cases p<;>cases h
 | 0,a::c,v,h=>by
  rw [cut_zero,cut1_cons,cut1_zero] at h
  cases h
  rfl
 | p+1,a::c,v,h=>by
  rw [cut_cons,if_neg (by omega),Nat.add_sub_cancel] at h
  rw [nth_cons,if_neg (by omega),Nat.add_sub_cancel]
  exact cut1_nth h
end Go.Abs
namespace Go.Proofs.Ytkoefjgapmonaaa.walk
open Go.Abs Go.Proofs.Ytkoefjgapmonaaa.code
theorem rowInt {h:Heap} {n:Nat} {l:List Int} {v:AV} (r:RowsAt h n 1 (ints l) v) {i:Nat} (hi:i<l.length):∃ b p c sz,b<n∧(∀ s,ixsA 1 s v (.int .i64 (i:Int))=.val (.ptr b p) s)∧h.get b=some (.cells c sz)∧nth c p=.int .i64 l[i]:=by
 obtain ⟨b,p,c,sz,hbn,hix,hg,hcut⟩:=r.at_ i (by unfold ints;simpa using hi)
 unfold ints at hcut
 rw [List.getElem_map] at hcut
 exact ⟨b,p,c,sz,hbn,hix,hg,cut1_nth hcut⟩
theorem rowLen {h:Heap} {n:Nat} {l:List Int} {v:AV} (r:RowsAt h n 1 (ints l) v) (s:St):lenSlA s v=.val (.int .i64 l.length) s:=by have:=r.len s;rwa [ints_len] at this
theorem app_all {no:Nat→Prop} {s:St} {p w bytes tg sz:Nat} {rows:List (List AV)} {y:AV} (hY:Sl no s.h s.n w rows y) (hp:s.h.get p=some (.cells [] sz)) (hpn:p<s.n) (hsc:scalars rows.flatten=true) (hb:rows.length * bytes≤1000000) (htg:szOf (w+tg)=w) (hs:s.n+10≤far) :
  ∃ v s',appendA false w bytes tg s (.slice p 0 0 0 false) y=.val v s'∧Sl (fun x=>x=p∨x=s.n) s'.h s'.n w rows v∧(rows≠[]→IsAt s'.h s'.n s.n w tg rows v)∧s.n≤s'.n∧s'.n≤s.n+1∧(∀ c,c<s.n→s'.h.get c=s.h.get c)∧min s.m p≤s'.m∧s'.m≤s.m∧plain v=false∧(rows=[]→v=.slice p 0 0 0 false):=by
 have hf:far=1000000000:=rfl
 have hfl:=flatten_len hY.wide
 have e1:lenA y=some rows.length∧firstA w rows.length s y=some rows.flatten:=by
  rcases hY.is with ⟨h1,h2⟩ | ⟨b,o,cap,e,c,zz,h1,_,h2,h3,h4,h5⟩
  ·subst h1 h2;exact ⟨rfl,rfl⟩
  ·subst h3
   refine ⟨rfl,?_⟩
   show (match s.h.get b with | some (.cells c _)=>Abs.cut o (rows.length * w) c | some (.fam c _ q _)=>Abs.cut o (rows.length * w) (c.take q) | _=>none)=_
   rw [h4]
   exact h5
 have hA:appendA false w bytes tg s (.slice p 0 0 0 false) y=growA w bytes tg rows.length rows.flatten s (.slice p 0 0 0 false):=by
  unfold appendA
  simp only [e1.1,e1.2,hfl,Nat.beq_refl,hsc]
 have e2:Nat.ble (rows.length * bytes) limit=true:=Nat.ble_eq_true_of_le (by unfold limit;omega)
 rw [hA]
 by_cases h0:rows=[]
 ·subst h0
  refine ⟨.slice p 0 0 0 false,s.put p (.cells [] sz),?_,⟨hY.wide,.inr ⟨p,0,0,false,[],sz,hpn,.inl rfl,⟨Nat.le_refl _,fun h=>(by cases h)⟩,rfl,get_put_eq _ _ _ _ rfl (by omega),?_⟩⟩,fun h=>absurd rfl h,Nat.le_refl _,by rw [put_n];omega,fun c hc=>?_,by simp only [St.put,minN_eq];omega,by simp only [St.put,minN_eq];omega,rfl,fun _=>rfl⟩
  ·unfold growA
   simp only [hp,List.length_nil,List.flatten_nil,Nat.zero_mul,Nat.add_zero]
   rfl
  ·simp only [List.length_nil,Nat.zero_mul];rfl
  ·by_cases e:c=p
   ·subst e;rw [get_put_eq _ _ _ _ rfl (by omega)];exact hp.symm
   ·rw [get_put_ne' _ _ _ _ e]
 ·have hl:0<rows.length:=List.length_pos_iff.mpr h0
  have e3:Nat.ble rows.length 0=false:=by
   cases h:Nat.ble rows.length 0 with
   | false=>rfl
   | true=>have:=Nat.le_of_ble_eq_true h;omega
  have gI:IsAt (s.new (.cells rows.flatten (w+tg))).h (s.new (.cells rows.flatten (w+tg))).n s.n w tg rows (.slice s.n 0 rows.length rows.length true):=⟨hY.wide,.inr ⟨h0,by rw [new_n];omega,rfl,get_new_eq _ _ _ rfl (by omega)⟩⟩
  refine ⟨.slice s.n 0 rows.length rows.length true,s.new (.cells rows.flatten (w+tg)),?_,Sl.of_at gI fun _=>.inr rfl,fun _=>gI,by rw [new_n];omega,by rw [new_n];omega,fun c hc=>get_new_ne _ _ _ (by omega),by rw [new_m];omega,by rw [new_m];omega,rfl,fun h=>absurd h h0⟩
  unfold growA
  simp only [hp,Nat.zero_add,e3,e2,Nat.zero_mul]
  rfl
theorem ints_scal (l:List Int):scalars (ints l).flatten=true:=scalars_flatten fun r hr=>by
 unfold ints at hr
 obtain ⟨x,_,rfl⟩:=List.mem_map.mp hr
 rfl
theorem nth_get:∀ {l:List AV} {i:Nat} (h:i<l.length),nth l i=l[i]
 | x::l,0,_=>rfl
 | x::l,i+1,h=>nth_get (l:=l) (i:=i) (by simpa using h)
theorem scalars_app:∀ {a b:List AV},scalars a=true→scalars b=true→scalars (a++b)=true
 | [],_,_,h=>h
 | x::a,b,h1,h2=>by
  have e:∀ (x:AV) (l:List AV),scalars (x::l)=(match x.scalar with | true=>scalars l | false=>false):=fun _ _=>rfl
  rw [List.cons_append,e]
  rw [e] at h1
  cases hx:x.scalar with
  | true=>rw [hx] at h1;exact scalars_app h1 h2
  | false=>rw [hx] at h1;cases h1
def TabI (h:Heap) (n b:Nat) (no:Nat→Prop) (M:List (List Int)) (v:AV):Prop :=
 ∃ (vs:List AV) (e:Bool) (sz:Nat),vs.length=M.length∧0<M.length∧b<n∧v=.slice b 0 vs.length vs.length e∧h.get b=some (.cells vs sz)∧(e=true→szOf sz=1)∧scalars vs=true∧∀ j (h1:j<vs.length) (h2:j<M.length),Sl (fun x=>x≠b∧no x) h n 1 (ints M[j]) vs[j]
section
variable {h h':Heap} {n n' b:Nat} {no no':Nat→Prop} {M:List (List Int)} {v:AV}
theorem TabI.move (a:TabI h n b no M v) (hb:h'.get b=h.get b) (hh:∀ c,c<n→no c→h'.get c=h.get c∧no' c) (hn:n≤n'):TabI h' n' b no' M v:=by
 obtain ⟨vs,e,sz,h1,h2,h3,h4,h5,h6,h7,h8⟩:=a
 exact ⟨vs,e,sz,h1,h2,by omega,h4,hb.trans h5,h6,h7,fun j j1 j2=>(h8 j j1 j2).move (fun c hc hl=>⟨(hh c hc hl.2).1,hl.1,(hh c hc hl.2).2⟩) hn⟩
theorem TabI.okA (a:TabI h n b no M v) (t:St):Abs.okA (.val v t)=.val v t:=by obtain ⟨vs,e,sz,h1,h2,h3,rfl,_⟩:=a;rfl
theorem TabI.plain (a:TabI h n b no M v):Abs.plain v=false:=by obtain ⟨vs,e,sz,h1,h2,h3,rfl,_⟩:=a;rfl
theorem TabI.len (a:TabI h n b no M v) (s:St):lenSlA s v=.val (.int .i64 (M.length:Int)) s:=by obtain ⟨vs,e,sz,h1,h2,h3,rfl,_⟩:=a;rw [← h1];rfl
theorem TabI.get (a:TabI h n b no M v) {j:Nat} (hj:j<M.length):∃ w p c sz,Sl (fun x=>x≠b∧no x) h n 1 (ints M[j]) w∧(∀ s,ixsA 1 s v (.int .i64 (j:Int))=.val (.ptr b p) s)∧h.get b=some (.cells c sz)∧nth c p=w:=by
 obtain ⟨vs,e,sz,h1,h2,h3,rfl,h5,h6,h7,h8⟩:=a
 have hr:j<vs.length:=by omega
 exact ⟨vs[j],0+j * 1,vs,sz,h8 j hr hj,fun s=>ixs_slice 1 s b 0 _ _ e j hr,h5,by rw [Nat.zero_add,Nat.mul_one];exact nth_get hr⟩
end
theorem TabI.app {s:St} {b b':Nat} {no no':Nat→Prop} {M M':List (List Int)} {v v':AV} (a:TabI s.h s.n b no M v) (a':TabI s.h s.n b' no' M' v') (hno:∀ x,no' x→x≠b'→x≠b∧no x) (hl:M.length+M'.length≤1000) (hs:s.n+10≤far) :
  ∃ w s',appendA false 1 24 (tag 22) s v v'=.val w s'∧TabI s'.h s'.n s.n no (M++M') w∧s'.n=s.n+1∧(∀ c,c<s.n→c≠b→s'.h.get c=s.h.get c)∧min s.m b≤s'.m∧s'.m≤s.m:=by
 have hf:far=1000000000:=rfl
 obtain ⟨vs,e,sz,h1,h2,h3,rfl,h5,h6,h7,h8⟩:=a
 obtain ⟨ws,e',sz',k1,k2,k3,rfl,k5,k6,k7,k8⟩:=a'
 have e1:firstA 1 ws.length s (.slice b' 0 ws.length ws.length e')=some ws:=by
  show (match s.h.get b' with | some (.cells c _)=>Abs.cut 0 (ws.length * 1) c | some (.fam c _ q _)=>Abs.cut 0 (ws.length * 1) (c.take q) | _=>none)=_
  rw [k5]
  simp only [Nat.mul_one]
  rw [cut_zero,cut1_all]
 have hA:∀ x,appendA false 1 24 (tag 22) s x (.slice b' 0 ws.length ws.length e')=growA 1 24 (tag 22) ws.length ws s x:=fun x=>by
  unfold appendA
  simp only [lenA,e1,Nat.mul_one,Nat.beq_refl,k7]
 have e2:Nat.ble (vs.length+ws.length) vs.length=false:=by
  cases h:Nat.ble (vs.length+ws.length) vs.length with
  | false=>rfl
  | true=>have:=Nat.le_of_ble_eq_true h;omega
 have e3:Nat.ble ((vs.length+ws.length) * 24) limit=true:=Nat.ble_eq_true_of_le (by unfold limit;omega)
 have fin:∀ s':St,s'.n=s.n+1→(∀ c,c<s.n→c≠b→s'.h.get c=s.h.get c)→(∃ z,s'.h.get s.n=some (.cells (vs++ws) z)∧szOf z=1)→TabI s'.h s'.n s.n no (M++M') (.slice s.n 0 (vs.length+ws.length) (vs.length+ws.length) true):=fun s' q1 q2 ⟨z,q3,q4⟩=>by
  refine ⟨vs++ws,true,z,by simp [h1,k1],by simp;omega,by omega,by rw [List.length_append],q3,fun _=>q4,scalars_app h7 k7,fun j j1 j2=>?_⟩
  by_cases ej:j<vs.length
  ·rw [List.getElem_append_left ej,List.getElem_append_left (by omega)]
   exact (h8 j ej (by omega)).move (fun c hc hl=>⟨q2 c hc hl.1,by omega,hl.2⟩) (by omega)
  ·rw [List.getElem_append_right (by omega),List.getElem_append_right (by omega)]
   have:=k8 (j - vs.length) (by rw [List.length_append] at j1;omega) (by rw [List.length_append] at j2;omega)
   simp only [h1] at this ⊢
   exact this.move (fun c hc hl=>⟨q2 c hc (hno c hl.2 hl.1).1,by omega,(hno c hl.2 hl.1).2⟩) (by omega)
 rw [hA]
 cases e with
 | false =>
  refine ⟨.slice s.n 0 (vs.length+ws.length) (vs.length+ws.length) true,s.new (.cells (vs++ws) (1+tag 22)),?_,fin _ rfl (fun c hc _=>get_new_ne _ _ _ (by omega)) ⟨_,get_new_eq _ _ _ rfl (by omega),by kernel_rfl⟩,rfl,fun c hc _=>get_new_ne _ _ _ (by omega),by rw [new_m];omega,by rw [new_m];omega⟩
  unfold growA
  simp only [h5,e2,e3,Nat.mul_one]
  rw [cut_zero,cut1_all]
 | true =>
  refine ⟨.slice s.n 0 (vs.length+ws.length) (vs.length+ws.length) true,(s.kill b).new (.cells (vs++ws) (if 0=0∧sz=1+tag 22 then sz else 1)),?_,fin _ rfl (fun c hc hb=>?_) ⟨_,get_new_eq _ _ _ rfl (by show s.n<_;omega),?_⟩,rfl,fun c hc hb=>?_,?_,?_⟩
  ·unfold growA
   simp only [h5,e2,e3,Nat.mul_one,h6 rfl,Nat.zero_add,true_and,and_self,if_true,List.drop_zero]
  ·rw [get_new_ne _ _ _ (by show c≠s.n;omega),get_kill_ne _ _ _ hb]
  ·split
   ·exact h6 rfl
   ·kernel_rfl
  ·rw [get_new_ne _ _ _ (by show c≠s.n;omega),get_kill_ne _ _ _ hb]
  ·rw [new_m];simp only [St.kill,minN_eq];omega
  ·rw [new_m];simp only [St.kill,minN_eq];omega
def AccI (h:Heap) (n b:Nat) (no:Nat→Prop) (M:List (List Int)) (v:AV):Prop:=(M=[]∧v=.nilslice)∨TabI h n b no M v
theorem AccI.okA {h:Heap} {n b:Nat} {no:Nat→Prop} {M:List (List Int)} {v:AV} (a:AccI h n b no M v) (t:St):Abs.okA (.val v t)=.val v t:=by
 rcases a with ⟨_,rfl⟩ | a
 ·rfl
 ·exact a.okA t
theorem AccI.app {s:St} {b b':Nat} {no no':Nat→Prop} {M M':List (List Int)} {v v':AV} (a:AccI s.h s.n b no M v) (a':TabI s.h s.n b' no' M' v') (hno:∀ x,no' x→x≠b'→(b<s.n→x≠b)∧no x) (hl:M.length+M'.length≤1000) (hs:s.n+10≤far) :
  ∃ w s',appendA false 1 24 (tag 22) s v v'=.val w s'∧TabI s'.h s'.n s.n no (M++M') w∧s'.n=s.n+1∧(∀ c,c<s.n→c≠b→s'.h.get c=s.h.get c)∧min s.m b≤s'.m∧s'.m≤s.m:=by
 have hf:far=1000000000:=rfl
 rcases a with ⟨rfl,rfl⟩ | a
 ·obtain ⟨ws,e',sz',k1,k2,k3,rfl,k5,k6,k7,k8⟩:=a'
  have e1:firstA 1 ws.length s (.slice b' 0 ws.length ws.length e')=some ws:=by
   show (match s.h.get b' with | some (.cells c _)=>Abs.cut 0 (ws.length * 1) c | some (.fam c _ q _)=>Abs.cut 0 (ws.length * 1) (c.take q) | _=>none)=_
   rw [k5]
   simp only [Nat.mul_one]
   rw [cut_zero,cut1_all]
  have e2:Nat.beq ws.length 0=false:=nbeq_f (by omega)
  have e3:Nat.ble (ws.length * 24) limit=true:=Nat.ble_eq_true_of_le (by unfold limit;simp at hl;omega)
  refine ⟨.slice s.n 0 ws.length ws.length true,s.new (.cells ws (1+tag 22)),?_,?_,rfl,fun c hc _=>get_new_ne _ _ _ (by omega),by rw [new_m];omega,by rw [new_m];omega⟩
  ·unfold appendA
   simp only [lenA,e1,Nat.mul_one,Nat.beq_refl,k7]
   unfold growA
   simp only [e2,e3]
  ·rw [List.nil_append]
   refine ⟨ws,true,1+tag 22,k1,k2,by rw [new_n];omega,rfl,get_new_eq _ _ _ rfl (by omega),fun _=>by kernel_rfl,k7,fun j j1 j2=>?_⟩
   exact (k8 j j1 j2).move (fun c hc hl=>⟨get_new_ne _ _ _ (by omega),by omega,(hno c hl.2 hl.1).2⟩) (by rw [new_n];omega)
 ·have hb:b<s.n:=by obtain ⟨_,_,_,_,_,h3,_⟩:=a;exact h3
  exact a.app a' (fun x h1 h2=>⟨(hno x h1 h2).1 hb,(hno x h1 h2).2⟩) hl hs
end Go.Proofs.Ytkoefjgapmonaaa.walk
set_option maxRecDepth 10000
namespace Go.Proofs.Ytkoefjgapmonaaa.walk
open Go.Abs Go.Proofs.Ytkoefjgapmonaaa.code
theorem same_ok (N:Nat) (hN:1≤N) (a b:List Int) (v w:AV) (s:St) (hR:RowsAt s.h s.n 1 (ints a) v) (hQ:RowsAt s.h s.n 1 (ints b) w) (hl:a.length≤1000) (hs:s.n+10≤far) :
  call Try.prog X N (.fn 15) [v,w] s=.val (.bool (decide (a=b))) s:=by
 obtain ⟨n,rfl⟩:∃ n,N=n+1:=⟨N - 1,by omega⟩
 refine call_plain' Try.func15 (fun u uh un um=>?_) rfl
 rw [← uh,← un] at hR hQ
 have kv:∀ t,okA (.val v t)=.val v t:=fun t=>okA_ne hR.ne
 have lv:=rowLen hR
 have kw:∀ t,okA (.val w t)=.val w t:=fun t=>okA_ne hQ.ne
 have lw:=rowLen hQ
 have hf:far=1000000000:=rfl
 rw [enter15]
 simp (disch:=first|omega|(with_unfolding_all exact rfl)|(simp only[new_n,put_n,new_m];omega)|(refine put_m_le ?_;simp only[new_m];omega)) only [res15,K15r0,K15r1,K15r2,K15r3s6,K15r3s5,K15r3s4,K15r3s3,K15r3,K15r4,K15r5,K15r6,K15,Abs.W,reduceIte,Nat.reduceEqDiff,Nat.reduceAdd,decide_true,decide_false,kLoop_def,Nat.reduceSub,List.cons_append,List.nil_append,List.append_nil,List.length_cons,List.length_nil,Env.find_set,kv,lv,kw,lw]
 generalize hlp:loopN _ rounds _ _ _ _ _=q1
 obtain ⟨e,L1,s1,rfl,rfl,rfl,h5⟩:=loop_of hlp (fun i L t=>t=u∧L.find 0=v∧L.find 1=w∧L.find 6=.int .i64 i∧∃ sm:Bool,L.find 5=.bool sm∧(sm=true→a.length=b.length∧a.take i=b.take i)∧(sm=false→a≠b))
  (fun e L t=>e=.exit 0∧t=u∧L.find 5=.bool (decide (a=b))) a.length (by unfold rounds;omega)
  ⟨rfl,by simp only [find_cons,Env.find_set,reduceIte,Nat.reduceEqDiff],by simp only [find_cons,Env.find_set,reduceIte,Nat.reduceEqDiff],by simp only [find_cons,Env.find_set,reduceIte,Nat.reduceEqDiff];rfl,decide ((a.length:Int)=(b.length:Int)),by simp only [find_cons,Env.find_set,reduceIte,Nat.reduceEqDiff],fun h=>⟨by have:=of_decide_eq_true h;omega,by simp⟩,fun h e=>by subst e;simp at h⟩
  (fun i L t hi ⟨ht,q0,q1,q6,sm,q5,h1,h2⟩=>by
   subst ht
   cases sm with
   | false =>
    have hne:=h2 rfl
    refine .inr ⟨.exit 0,L.set 18 (.bool false),t,by simp,?_,rfl,rfl,by simp only [Env.find_set,q5,reduceIte,Nat.reduceEqDiff];rw [decide_eq_false hne]⟩
    simp (disch:=first|omega|(with_unfolding_all exact rfl)|(simp only[new_n,put_n,new_m];omega)|(refine put_m_le ?_;simp only[new_m];omega)) only [res15,K15r0,K15r1,K15r2,K15r3s6,K15r3s5,K15r3s4,K15r3s3,K15r3,K15r4,K15r5,K15r6,K15,K15l0,Abs.W,reduceIte,Nat.reduceEqDiff,Nat.reduceAdd,decide_true,decide_false,kLoop_def,Nat.reduceSub,List.cons_append,List.nil_append,List.append_nil,List.length_cons,List.length_nil,Env.find_set,q0,q1,q5,q6]
   | true =>
    obtain ⟨hl2,ht2⟩:=h1 rfl
    by_cases hlt:i<a.length
    ·have e0:decide ((i:Int)<(a.length:Int))=true:=decide_eq_true (by omega)
     obtain ⟨b1,p1,c1,sz1,r1,r2,r3,r4⟩:=rowInt hR hlt
     obtain ⟨b2,p2,c2,sz2,s1,s2,s3,s4⟩:=rowInt hQ (show i<b.length by omega)
     have ad:∀ s,aAdd s .i64 (i:Int) 1=.val (.int .i64 ((i:Int)+1)) s:=fun s=>aAdd_i64 s _ _ (by omega)
     refine .inl ⟨hlt,_,t,by
      simp (disch:=first|omega|(with_unfolding_all exact rfl)|(simp only[new_n,put_n,new_m];omega)|(refine put_m_le ?_;simp only[new_m];omega)) only [res15,K15r0,K15r1,K15r2,K15r3s6,K15r3s5,K15r3s4,K15r3s3,K15r3,K15r4,K15r5,K15r6,K15,K15l0,Abs.W,reduceIte,Nat.reduceEqDiff,Nat.reduceAdd,decide_true,decide_false,kLoop_def,Nat.reduceSub,List.cons_append,List.nil_append,List.append_nil,List.length_cons,List.length_nil,Env.find_set,q0,q1,q5,q6,e0,kv,lv,kw,lw,r2,r3,r4,s2,s3,s4,ad]
      rfl,rfl,?_,?_,?_,decide (a[i]=b[i]),?_,fun h=>⟨hl2,?_⟩,fun h e=>?_⟩
     ·simp only [Env.find_set,q0,reduceIte,Nat.reduceEqDiff]
     ·simp only [Env.find_set,q1,reduceIte,Nat.reduceEqDiff]
     ·simp only [Env.find_set,reduceIte,Nat.reduceEqDiff];rfl
     ·simp only [Env.find_set,reduceIte,Nat.reduceEqDiff]
     ·rw [take_snoc hlt,take_snoc (show i<b.length by omega),ht2,of_decide_eq_true h]
     ·subst e;simp at h
    ·obtain rfl:i=a.length:=by omega
     have e0:decide ((a.length:Int)<(a.length:Int))=false:=by simp
     rw [List.take_length,hl2,List.take_length] at ht2
     refine .inr ⟨.exit 0,L.set 18 (.bool false),t,by simp,?_,rfl,rfl,by simp only [Env.find_set,q5,reduceIte,Nat.reduceEqDiff];rw [decide_eq_true ht2]⟩
     simp (disch:=first|omega|(with_unfolding_all exact rfl)|(simp only[new_n,put_n,new_m];omega)|(refine put_m_le ?_;simp only[new_m];omega)) only [res15,K15r0,K15r1,K15r2,K15r3s6,K15r3s5,K15r3s4,K15r3s3,K15r3,K15r4,K15r5,K15r6,K15,K15l0,Abs.W,reduceIte,Nat.reduceEqDiff,Nat.reduceAdd,decide_true,decide_false,kLoop_def,Nat.reduceSub,List.cons_append,List.nil_append,List.append_nil,List.length_cons,List.length_nil,Env.find_set,q0,q1,q5,q6,kv,lv,e0])
 simp (disch:=first|omega|(with_unfolding_all exact rfl)|(simp only[new_n,put_n,new_m];omega)|(refine put_m_le ?_;simp only[new_m];omega)) only [res15,K15r0,K15r1,K15r2,K15r3s6,K15r3s5,K15r3s4,K15r3s3,K15r3,K15r4,K15r5,K15r6,K15,Abs.W,reduceIte,Nat.reduceEqDiff,Nat.reduceAdd,decide_true,decide_false,kLoop_def,Nat.reduceSub,List.cons_append,List.nil_append,List.append_nil,List.length_cons,List.length_nil,Env.find_set,h5]
 exact ⟨_,rfl,by omega⟩
theorem total_ok (N:Nat) (hN:1≤N) (l:List Nat) (v:AV) (s:St) (hR:RowsAt s.h s.n 1 (ints (numL l)) v) (hl:l.length≤10) (hb:∀ x ∈ l,x≤1000) (hs:s.n+10≤far) :
  call Try.prog X N (.fn 12) [v] s=.val (.int .i64 ((l.sum:Nat):Int)) s:=by
 obtain ⟨n,rfl⟩:∃ n,N=n+1:=⟨N - 1,by omega⟩
 refine call_plain' Try.func12 (fun u uh un um=>?_) rfl
 rw [← uh,← un] at hR
 have kv:∀ t,okA (.val v t)=.val v t:=fun t=>okA_ne hR.ne
 have hnl:(numL l).length=l.length:=by unfold numL;rw [List.length_map]
 have lv:=rowLen hR
 rw [hnl] at lv
 have hf:far=1000000000:=rfl
 have hsum:∀ i,i≤l.length→(l.take i).sum≤1000 * i:=fun i hi=>by
  induction i with
  | zero=>simp
  | succ i ih =>
   rw [take_snoc (show i<l.length by omega),List.sum_append]
   have:=hb l[i] (List.getElem_mem (by omega))
   have:=ih (by omega)
   simp only [List.sum_cons,List.sum_nil]
   omega
 rw [enter12]
 simp (disch:=first|omega|(with_unfolding_all exact rfl)|(simp only[new_n,put_n,new_m];omega)|(refine put_m_le ?_;simp only[new_m];omega)) only [res12,K12r0,K12r1,K12r2,K12r3,K12r4,K12r5,K12r6,K12,Abs.W,reduceIte,Nat.reduceEqDiff,Nat.reduceAdd,decide_true,decide_false,kLoop_def,Nat.reduceSub,List.cons_append,List.nil_append,List.append_nil,List.length_cons,List.length_nil,Env.find_set,kv,lv]
 generalize hlp:loopN _ rounds _ _ _ _ _=q1
 obtain ⟨e,L1,s1,rfl,rfl,rfl,h5⟩:=loop_of hlp (fun i L t=>t=u∧L.find 0=v∧L.find 4=.int .i64 (i:Int)∧L.find 3=.int .i64 (((l.take i).sum:Nat):Int))
  (fun e L t=>e=.exit 0∧t=u∧L.find 3=.int .i64 ((l.sum:Nat):Int)) l.length (by unfold rounds;omega)
  ⟨rfl,by simp only [find_cons,Env.find_set,reduceIte,Nat.reduceEqDiff],by simp only [find_cons,Env.find_set,reduceIte,Nat.reduceEqDiff];rfl,by simp only [find_cons,Env.find_set,reduceIte,Nat.reduceEqDiff];rfl⟩
  (fun i L t hi ⟨ht,q0,q4,q3⟩=>by
   subst ht
   by_cases hlt:i<l.length
   ·have e0:decide ((i:Int)<(l.length:Int))=true:=decide_eq_true (by omega)
    obtain ⟨b1,p1,c1,sz1,r1,r2,r3,r4⟩:=rowInt hR (show i<(numL l).length by omega)
    have hi2:(numL l)[i]'(by omega)=((l[i]:Nat):Int):=by unfold numL;rw [List.getElem_map];rfl
    rw [hi2] at r4
    have hx:=hb l[i] (List.getElem_mem hlt)
    have hs1:=hsum i hi
    have ad:∀ s,aAdd s .i64 (i:Int) 1=.val (.int .i64 ((i+1:Nat):Int)) s:=fun s=>aAdd_i64 s _ _ (by omega)
    have ad2:∀ s,aAdd s .i64 (((l.take i).sum:Nat):Int) ((l[i]:Nat):Int)=.val (.int .i64 (((l.take (i+1)).sum:Nat):Int)) s:=fun s=>by
     rw [aAdd_i64 s _ _ (by omega),take_snoc hlt,List.sum_append]
     simp only [List.sum_cons,List.sum_nil,Nat.add_zero]
     rw [Int.natCast_add]
    refine .inl ⟨hlt,_,t,by
     simp (disch:=first|omega|(with_unfolding_all exact rfl)|(simp only[new_n,put_n,new_m];omega)|(refine put_m_le ?_;simp only[new_m];omega)) only [res12,K12r0,K12r1,K12r2,K12r3,K12r4,K12r5,K12r6,K12,K12l0,Abs.W,reduceIte,Nat.reduceEqDiff,Nat.reduceAdd,decide_true,decide_false,kLoop_def,Nat.reduceSub,List.cons_append,List.nil_append,List.append_nil,List.length_cons,List.length_nil,Env.find_set,q0,q3,q4,e0,kv,lv,r2,r3,r4,ad,ad2]
     rfl,rfl,?_,?_,?_⟩
    ·simp only [Env.find_set,find_cons,q0,reduceIte,Nat.reduceEqDiff]
    ·simp only [Env.find_set,find_cons,reduceIte,Nat.reduceEqDiff]
    ·simp only [Env.find_set,find_cons,reduceIte,Nat.reduceEqDiff]
   ·obtain rfl:i=l.length:=by omega
    have e0:decide ((l.length:Int)<(l.length:Int))=false:=by simp
    rw [List.take_length] at q3
    refine .inr ⟨.exit 0,_,t,by simp,by
     simp (disch:=first|omega|(with_unfolding_all exact rfl)|(simp only[new_n,put_n,new_m];omega)|(refine put_m_le ?_;simp only[new_m];omega)) only [res12,K12r0,K12r1,K12r2,K12r3,K12r4,K12r5,K12r6,K12,K12l0,Abs.W,reduceIte,Nat.reduceEqDiff,Nat.reduceAdd,decide_true,decide_false,kLoop_def,Nat.reduceSub,List.cons_append,List.nil_append,List.append_nil,List.length_cons,List.length_nil,Env.find_set,q0,q4,kv,lv,e0]
     rfl,rfl,rfl,?_⟩
    simp only [Env.find_set,find_cons,q3,reduceIte,Nat.reduceEqDiff])
 simp (disch:=first|omega|(with_unfolding_all exact rfl)|(simp only[new_n,put_n,new_m];omega)|(refine put_m_le ?_;simp only[new_m];omega)) only [res12,K12r0,K12r1,K12r2,K12r3,K12r4,K12r5,K12r6,K12,Abs.W,reduceIte,Nat.reduceEqDiff,Nat.reduceAdd,decide_true,decide_false,kLoop_def,Nat.reduceSub,List.cons_append,List.nil_append,List.append_nil,List.length_cons,List.length_nil,Env.find_set,h5]
 exact ⟨_,rfl,by omega⟩
theorem copyInts_ex {N:Nat} {no:Nat→Prop} {l:List Int} {v:AV} {s:St} {r:ARes} (hr:call Try.prog X N (.fn 34) [v] s=r) (hN:1≤N) (hR:Sl no s.h s.n 1 (ints l) v) (hl:l.length≤1000) (hs:s.n+100≤far) :
  ∃ w t,r=.val w t∧New s t 2∧Sl (fun x=>s.n≤x) t.h t.n 1 (ints l) w∧(l≠[]→IsAt t.h t.n (s.n+1) 1 (tag 3) (ints l) w)∧(l=[]→∃ sz,w=.slice s.n 0 0 0 false∧t.h.get s.n=some (.cells [] sz)):=by
 obtain ⟨n,rfl⟩:∃ n,N=n+1:=⟨N - 1,by omega⟩
 have hf:far=1000000000:=rfl
 obtain ⟨w,t,e,st,hq⟩:=call_new (n:=n) (args:=[v]) (s:=s) (k:=2) (Q:=fun w h n=>Sl (fun x=>s.n≤x) h n 1 (ints l) w∧(l≠[]→IsAt h n (s.n+1) 1 (tag 3) (ints l) w)∧(l=[]→∃ sz,w=.slice s.n 0 0 0 false∧h.get s.n=some (.cells [] sz))) Try.func34 rfl (fun u uh un um=>by
  rw [← uh,← un] at hR
  rw [← un]
  rw [enter34]
  obtain ⟨y,hy⟩:∃ y:St,y=u.new (.cells [] 0):=⟨_,rfl⟩
  have yn:y.n=u.n+1:=by rw [hy];rfl
  have ym:y.m=far:=by rw [hy];exact um
  have yg:∀ c,c<u.n→y.h.get c=u.h.get c:=fun c hc=>by rw [hy,get_new_ne _ _ _ (by omega)]
  have y0:y.h.get u.n=some (.cells [] 0):=by rw [hy];exact get_new_eq _ _ _ rfl (by omega)
  simp (disch:=first|omega|(with_unfolding_all exact rfl)|(simp only[new_n,put_n,new_m];omega)|(refine put_m_le ?_;simp only[new_m];omega)) only [res34,K34r0,K34r1,K34,Abs.W,reduceIte,Nat.reduceEqDiff,Nat.reduceAdd,decide_true,decide_false,kLoop_def,Nat.reduceSub,List.cons_append,List.nil_append,List.append_nil,List.length_cons,List.length_nil,Env.find_set]
  obtain ⟨w,s',e1,hS,hI,n1,n2,hg,m1,m2,hpl,hnil⟩:=app_all (tg:=tag 3) (bytes:=8) (hR.grow yg (by omega:u.n≤y.n)) y0 (by omega) (ints_scal l) (by unfold ints;rw [List.length_map];omega) (by kernel_rfl) (by omega)
  rw [hy] at e1
  simp (disch:=first|omega|(with_unfolding_all exact rfl)|(simp only[new_n,put_n,new_m];omega)|(refine put_m_le ?_;simp only[new_m];omega)) only [res34,K34r0,K34r1,K34,Abs.W,reduceIte,Nat.reduceEqDiff,Nat.reduceAdd,decide_true,decide_false,kLoop_def,Nat.reduceSub,List.cons_append,List.nil_append,List.append_nil,List.length_cons,List.length_nil,Env.find_set,e1]
  have hne:l≠[]→ints l≠[]:=fun h e=>h (List.map_eq_nil_iff.mp e)
  refine ⟨_,_,rfl,⟨fun c hc=>(hg c (by omega)).trans (yg c hc),by omega,by omega,by omega,by omega⟩,hpl,hS.move (fun b _ h=>⟨rfl,by omega⟩) (Nat.le_refl _),fun h=>?_,fun h=>?_⟩
  ·have:=hI (hne h)
   rwa [yn] at this
  ·subst h
   exact ⟨0,hnil rfl,(hg u.n (by omega)).trans y0⟩)
 exact ⟨w,t,hr.symm.trans e,st,hq⟩
end Go.Proofs.Ytkoefjgapmonaaa.walk
set_option maxRecDepth 10000
namespace Go.Proofs.Ytkoefjgapmonaaa.walk
open Go.Abs Go.Proofs.Ytkoefjgapmonaaa.code
def lists:Nat→List Nat→List (List Nat)
 | 0,b=>[b]
 | k+1,b=>(List.range 6).flatMap fun n=>lists k (b++[n])
def numT (M:List (List Nat)):List (List Int):=M.map numL
theorem lists_pos:∀ (k:Nat) (b:List Nat),0<(lists k b).length
 | 0,_=>Nat.one_pos
 | k+1,b=>by
  show 0<((List.range 6).flatMap fun n=>lists k (b++[n])).length
  rw [show List.range 6=0::List.range' 1 5 from rfl,List.flatMap_cons,List.length_append]
  have:=lists_pos k (b++[0])
  omega
theorem lists_few:∀ (k:Nat) (b:List Nat),(lists k b).length=6 ^ k
 | 0,_=>rfl
 | k+1,b=>by
  show ((List.range 6).flatMap fun n=>lists k (b++[n])).length=_
  rw [List.length_flatMap]
  have e:∀ l:List Nat,(l.map fun n=>(lists k (b++[n])).length).sum=l.length * 6 ^ k:=fun l=>by
   induction l with
   | nil=>simp
   | cons a l ih=>rw [List.map_cons,List.sum_cons,ih,lists_few k,List.length_cons,Nat.succ_mul];omega
  rw [e,List.length_range,Nat.pow_succ,Nat.mul_comm]
def allSz:Nat→Nat
 | 0=>10
 | k+1=>10+6 * (20+allSz k)
theorem app_one {s:St} {a p i sz:Nat} {l:List Int} {w:AV} (hI:l≠[]→IsAt s.h s.n (a+1) 1 (tag 3) (ints l) w) (h0:l=[]→∃ sz,w=.slice a 0 0 0 false∧s.h.get a=some (.cells [] sz)) (ha:a<s.n) (hl:l.length≤10) (hp:s.h.get p=some (.cells [.int .i64 (i:Int)] sz)) (hpn:p<s.n) (hs:s.n+10≤far) :
  ∃ v' s',appendA false 1 8 (tag 3) s w (.slice p 0 1 1 false)=.val v' s'∧IsAt s'.h s'.n s.n 1 (tag 3) (ints (l++[(i:Int)])) v'∧s.n≤s'.n∧s'.n≤s.n+1∧(∀ c,c<s.n→c≠a+1→s'.h.get c=s.h.get c)∧(∀ k,k≤a→k≤s.m→k≤s'.m)∧s'.m≤s.m:=by
 have hf:far=1000000000:=rfl
 by_cases e:l=[]
 ·obtain ⟨sz0,rfl,g0⟩:=h0 e
  subst e
  obtain ⟨v,s',e1,_,e2,e3,e4,e5,e6,e7,_⟩:=app_all (no:=fun x=>x=p) (tg:=tag 3) (bytes:=8) (rows:=ints [(i:Int)]) (y:=.slice p 0 1 1 false) ⟨ints_wide _,.inr ⟨p,0,1,false,_,_,hpn,rfl,⟨Nat.le_refl _,fun h=>(by cases h)⟩,rfl,hp,rfl⟩⟩ g0 ha (ints_scal _) (by rw [ints_len];simp) (by kernel_rfl) hs
  exact ⟨v,s',e1,e2 (by simp [ints]),e3,e4,fun c hc _=>e5 c hc,fun k hk hm=>by omega,e7⟩
 ·obtain ⟨s',e1,e2,e3,e4,e5,e6⟩:=append_at (bytes:=8) (row:=[.int .i64 (i:Int)]) (hI e) hp rfl rfl (by rw [ints_len];omega) (by kernel_rfl) (by omega)
  rw [ints_snoc] at e2
  exact ⟨_,s',e1,e2,by omega,by omega,e4,fun k hk hm=>e5 k (by omega) (by omega) hm,e6⟩
def AllAt (k:Nat):Prop:=∀ {N:Nat} {no:Nat→Prop} {pre:List Nat} {v:AV} {s:St} {r:ARes},call Try.prog X N (.fn 14) [v,.int .i64 ((pre.length+k:Nat):Int)] s=r→k+3≤N→pre.length+k≤2→Sl no s.h s.n 1 (ints (numL pre)) v→s.n+2 * allSz k+1000≤far →
  ∃ b w t,r=.val w t∧New s t (allSz k)∧TabI t.h t.n b (fun x=>(no x∧x<s.n)∨s.n≤x) (numT (lists k pre)) w∧s.n≤b
theorem all_leaf:AllAt 0:=by
 intro N no pre v s r hr hN hk hR hs
 obtain ⟨N,rfl⟩:∃ m,N=m+1:=⟨N - 1,by omega⟩
 have hf:far=1000000000:=rfl
 have e10:allSz 0=10:=rfl
 rw [e10] at hs ⊢
 obtain ⟨w',t,e,st,b,hq⟩:=call_new (n:=N) (args:=[v,.int .i64 ((pre.length+0:Nat):Int)]) (s:=s) (k:=10) (Q:=fun w h m=>∃ b,TabI h m b (fun x=>(no x∧x<s.n)∨s.n≤x) (numT (lists 0 pre)) w∧s.n≤b) Try.func14 rfl (fun u uh un um=>by
  rw [← uh,← un] at hR
  rw [← un]
  have kv:=hR.okA
  have sv:=hR.scal
  have lv:∀ s,lenSlA s v=.val (.int .i64 (pre.length:Int)) s:=fun s=>by have:=rowLen hR.at_ s;unfold numL at this;rwa [List.length_map] at this
  have e0:decide ((pre.length:Int)=((pre.length+0:Nat):Int))=true:=decide_eq_true rfl
  rw [enter14]
  simp (disch:=first|omega|(with_unfolding_all exact rfl)|(simp only[new_n,put_n,new_m];omega)|(refine put_m_le ?_;simp only[new_m];omega)) only [res14,K14r0,K14r1,K14r2,K14r3,K14r4,K14r5,K14r6,K14r7,K14r8,K14,Abs.W,reduceIte,Nat.reduceEqDiff,Nat.reduceAdd,decide_true,decide_false,kLoop_def,Nat.reduceSub,List.cons_append,List.nil_append,List.append_nil,List.length_cons,List.length_nil,Env.find_set,kv,lv,e0,sv.1,sv.2.1,sv.2.2]
  refine ⟨_,_,rfl,⟨fun c hc=>?_,by simp only [new_n];omega,by simp only [new_n];omega,by simp only [new_m];omega,by simp only [new_m];omega⟩,rfl,u.n,⟨[v],false,_,rfl,by simp [numT,lists],by simp only [new_n];omega,rfl,get_new_eq _ _ _ rfl (by omega),fun h=>(by cases h),sv.1,fun j h1 h2=>?_⟩,Nat.le_refl _⟩
  ·rw [get_new_ne _ _ _ (by omega)]
  ·have:j=0:=by simpa using h1
   subst this
   exact hR.move (fun b hb h=>⟨get_new_ne _ _ _ (by omega),by omega,.inl ⟨h,hb⟩⟩) (by simp only [new_n];omega))
 exact ⟨b,w',t,hr.symm.trans e,st,hq.1,hq.2⟩
theorem all_node (k:Nat) (ih:AllAt k):AllAt (k+1):=by
 intro N no pre v s r hr hN hk hR hs
 obtain ⟨N,rfl⟩:∃ m,N=m+1:=⟨N - 1,by omega⟩
 have hf:far=1000000000:=rfl
 have es:allSz (k+1)=10+6 * (20+allSz k):=rfl
 have hfew:∀ p:List Nat,(lists k p).length≤6:=fun p=>by
  rw [lists_few]
  have h01:k=0∨k=1:=by omega
  rcases h01 with rfl | rfl<;>decide
 obtain ⟨w',t,e,st,b,hq⟩:=call_new (n:=N) (args:=[v,.int .i64 ((pre.length+(k+1):Nat):Int)]) (s:=s) (k:=allSz (k+1)) (Q:=fun w h m=>∃ b,TabI h m b (fun x=>(no x∧x<s.n)∨s.n≤x) (numT (lists (k+1) pre)) w∧s.n≤b) Try.func14 rfl (fun u uh un um=>by
  rw [← uh,← un] at hR
  rw [← un]
  have kv:=hR.okA
  have sv:=hR.scal
  have lv:∀ s,lenSlA s v=.val (.int .i64 (pre.length:Int)) s:=fun s=>by have:=rowLen hR.at_ s;unfold numL at this;rwa [List.length_map] at this
  have e0:decide ((pre.length:Int)=((pre.length+(k+1):Nat):Int))=false:=decide_eq_false (by omega)
  rw [enter14]
  simp (disch:=first|omega|(with_unfolding_all exact rfl)|(simp only[new_n,put_n,new_m];omega)|(refine put_m_le ?_;simp only[new_m];omega)) only [res14,K14r0,K14r1,K14r2,K14r3,K14r4,K14r5,K14r6,K14r7,K14r8,K14,Abs.W,reduceIte,Nat.reduceEqDiff,Nat.reduceAdd,decide_true,decide_false,kLoop_def,Nat.reduceSub,List.cons_append,List.nil_append,List.append_nil,List.length_cons,List.length_nil,Env.find_set,kv,lv,e0]
  generalize hlp:loopN _ rounds _ _ _ _ _=q1
  obtain ⟨e,L1,s1,rfl,rfl,b,v5,f5,hT,hb,hn1,hn2,hs1,hm1,hm2⟩:=loop_of hlp (fun i L t=>∃ b v5,L.find 0=v∧L.find 1=.int .i64 ((pre.length+(k+1):Nat):Int)∧L.find 5=v5∧L.find 6=.int .i64 (i:Nat)∧AccI t.h t.n b (fun x=>u.n≤x) (numT ((List.range i).flatMap fun n=>lists k (pre++[n]))) v5∧u.n≤b∧(b<t.n∨far<b)∧u.n≤t.n∧t.n≤u.n+i * (20+allSz k)∧(∀ c,c<u.n→t.h.get c=u.h.get c)∧u.n≤t.m∧t.m≤far)
   (fun e L t=>e=.exit 0∧∃ b v5,L.find 5=v5∧AccI t.h t.n b (fun x=>u.n≤x) (numT ((List.range 6).flatMap fun n=>lists k (pre++[n]))) v5∧u.n≤b∧u.n≤t.n∧t.n≤u.n+6 * (20+allSz k)∧(∀ c,c<u.n→t.h.get c=u.h.get c)∧u.n≤t.m∧t.m≤far) 6 (by unfold rounds;omega)
   ⟨far+1,.nilslice,by simp only [find_cons,Env.find_set,reduceIte,Nat.reduceEqDiff],by simp only [find_cons,Env.find_set,reduceIte,Nat.reduceEqDiff],by simp only [find_cons,Env.find_set,reduceIte,Nat.reduceEqDiff],by simp only [find_cons,Env.find_set,reduceIte,Nat.reduceEqDiff];rfl,.inl ⟨rfl,rfl⟩,by omega,.inr (by omega),Nat.le_refl _,by omega,fun _ _=>rfl,by omega,by omega⟩
   (fun i L t hi ⟨b,v5,q0,q1,q5,q6,hT,hb,hb2,hn1,hn2,hsm,hm1,hm2⟩=>by
    have sc:(i+1) * (20+allSz k)=i * (20+allSz k)+(20+allSz k):=Nat.succ_mul _ _
    have c6:i * (20+allSz k)≤6 * (20+allSz k):=Nat.mul_le_mul_right _ hi
    by_cases hlt:i<6
    ·have e0:decide ((i:Int)≤5)=true:=decide_eq_true (by omega)
     have ad:∀ s,aAdd s .i64 (i:Int) 1=.val (.int .i64 ((i+1:Nat):Int)) s:=fun s=>aAdd_i64 s _ _ (by omega)
     have hRt:Sl no t.h u.n 1 (ints (numL pre)) v:=hR.move (fun b hb h=>⟨hsm b hb,h⟩) (Nat.le_refl _)
     have kv5:=hT.okA
     have hnl:(numL pre).length=pre.length:=by unfold numL;rw [List.length_map]
     simp (disch:=first|omega|(with_unfolding_all exact rfl)|(simp only[new_n,put_n,new_m];omega)|(refine put_m_le ?_;simp only[new_m];omega)) only [K14l0,res14,K14r0,K14r1,K14r2,K14r3,K14r4,K14r5,K14r6,K14r7,K14r8,K14,Abs.W,reduceIte,Nat.reduceEqDiff,Nat.reduceAdd,decide_true,decide_false,kLoop_def,Nat.reduceSub,List.cons_append,List.nil_append,List.append_nil,List.length_cons,List.length_nil,Env.find_set,q0,q1,q5,q6,e0,kv,kv5]
     generalize hc:call _ _ _ (.fn 34) _ _=rc
     obtain ⟨v1,t1,rfl,s1,S1,I1,Z1⟩:=copyInts_ex (l:=numL pre) hc (by omega) (hRt.move (fun _ _ h=>⟨rfl,h⟩) (by omega:u.n≤t.n)) (by omega) (by omega)
     have s1n:=s1.n
     have s1l:=s1.le
     have s1m:=s1.m
     have s1g:=s1.same
     have t1b:t.n<t1.n:=by
      by_cases ef:numL pre=[]
      ·obtain ⟨sz,h1,h2⟩:=Z1 ef
       rcases S1.is with ⟨_,z⟩ | ⟨bb,o,cap,e,c,sz,z1,z2,z3,z4,_⟩
       ·rw [h1] at z;cases z
       ·rw [h1] at z4
        injection z4 with z5
        omega
      ·rcases (I1 ef).is with ⟨z,_⟩ | ⟨_,z1,_⟩
       ·exact absurd (List.map_eq_nil_iff.mp z) ef
       ·omega
     obtain ⟨x,hx⟩:∃ x:St,x=t1.new (.cells [.int .i64 (i:Int)] 0):=⟨_,rfl⟩
     have xn:x.n=t1.n+1:=by rw [hx];rfl
     have xm:x.m=t1.m:=by rw [hx];rfl
     have xg:∀ c,c<t1.n→x.h.get c=t1.h.get c:=fun c hc=>by rw [hx,get_new_ne _ _ _ (by omega)]
     have xp:x.h.get t1.n=some (.cells [.int .i64 (i:Int)] 0):=by rw [hx];exact get_new_eq _ _ _ rfl (by omega)
     obtain ⟨v2,t2,e2,I2,n2,k2,g2,m2,ml2⟩:=app_one (a:=t.n) (i:=i) (fun h=>(I1 h).mono (fun hb=>xg _ hb) (by omega)) (fun h=>by obtain ⟨sz,h1,h2⟩:=Z1 h;exact ⟨sz,h1,(xg _ t1b).trans h2⟩) (by omega) (by omega) xp (by omega) (by omega)
     have ok1:=S1.okA
     have coI:cellsOf 1 (.int .i64 (i:Int))=some [.int .i64 (i:Int)]:=rfl
     have hcat:numL pre++[(i:Int)]=numL (pre++[i]):=by unfold numL;rw [List.map_append];rfl
     rw [hcat] at I2
     have S2:Sl (fun y=>y=x.n) t2.h t2.n 1 (ints (numL (pre++[i]))) v2:=Sl.of_at I2 fun _=>rfl
     have ok2:=S2.okA
     simp (disch:=first|omega|(with_unfolding_all exact rfl)|(simp only[new_n,put_n,new_m];omega)|(refine put_m_le ?_;simp only[new_m];omega)) only [Abs.W,reduceIte,Nat.reduceEqDiff,Nat.reduceAdd,decide_true,decide_false,kLoop_def,Nat.reduceSub,List.cons_append,List.nil_append,List.append_nil,List.length_cons,List.length_nil,Env.find_set,ok1,coI,q6]
     rw [← hx]
     simp (disch:=first|omega|(with_unfolding_all exact rfl)|(simp only[new_n,put_n,new_m];omega)|(refine put_m_le ?_;simp only[new_m];omega)) only [Abs.W,reduceIte,Nat.reduceEqDiff,Nat.reduceAdd,decide_true,decide_false,kLoop_def,Nat.reduceSub,List.cons_append,List.nil_append,List.append_nil,List.length_cons,List.length_nil,Env.find_set,e2,ok2,q1,q6]
     generalize hc2:call _ _ _ (.fn 14) _ _=rc
     have hlen2:(pre++[i]).length+k=pre.length+(k+1):=by rw [List.length_append,List.length_singleton];omega
     rw [← hlen2] at hc2
     obtain ⟨b3,w3,t3,rfl,s3,T3,hb3⟩:=ih hc2 (by omega) (by omega) S2 (by omega)
     have s3n:=s3.n
     have s3l:=s3.le
     have s3m:=s3.m
     have s3g:=s3.same
     have g3:∀ c,c<t.n→t3.h.get c=t.h.get c:=fun c hc=>(s3g c (by omega)).trans ((g2 c (by omega) (by omega)).trans ((xg c (by omega)).trans (s1g c hc)))
     have hT3:AccI t3.h t3.n b (fun x=>u.n≤x) (numT ((List.range i).flatMap fun n=>lists k (pre++[n]))) v5:=by
      rcases hT with ⟨h1,h2⟩ | hT
      ·exact .inl ⟨h1,h2⟩
      ·have hbt:b<t.n:=by obtain ⟨_,_,_,_,_,h3,_⟩:=hT;exact h3
       exact .inr (hT.move (g3 b hbt) (fun c hc h=>⟨g3 c hc,h⟩) (by omega))
     have hMl:(numT ((List.range i).flatMap fun n=>lists k (pre++[n]))).length≤6 * 6:=by
      unfold numT
      rw [List.length_map,List.length_flatMap]
      have e6:∀ l:List Nat,(l.map fun n=>(lists k (pre++[n])).length).sum≤l.length * 6:=fun l=>by
       induction l with
       | nil=>simp
       | cons a l ih=>rw [List.map_cons,List.sum_cons,List.length_cons,Nat.succ_mul];have:=hfew (pre++[a]);omega
      have:=e6 (List.range i)
      rw [List.length_range] at this
      have:i * 6≤6 * 6:=Nat.mul_le_mul_right _ hi
      omega
     have hM3:(numT (lists k (pre++[i]))).length≤6:=by unfold numT;rw [List.length_map];exact hfew _
     have ok3:=T3.okA
     obtain ⟨v6,t4,e4,T4,n4,g4,m4,ml4⟩:=hT3.app T3 (fun y hy hyb=>by
      rcases hy with ⟨hy1,hy2⟩ | hy
      ·have hy1:y=x.n:=hy1
       exact ⟨fun hbb=>by omega,by omega⟩
      ·exact ⟨fun hbb=>by omega,by omega⟩) (by omega) (by omega)
     have ok6:=T4.okA
     simp (disch:=first|omega|(with_unfolding_all exact rfl)|(simp only[new_n,put_n,new_m];omega)|(refine put_m_le ?_;simp only[new_m];omega)) only [Abs.W,reduceIte,Nat.reduceEqDiff,Nat.reduceAdd,decide_true,decide_false,kLoop_def,Nat.reduceSub,List.cons_append,List.nil_append,List.append_nil,List.length_cons,List.length_nil,Env.find_set,ok3,e4,ok6,q6,ad]
     refine .inl ⟨hlt,_,_,rfl,t3.n,v6,?_,?_,?_,?_,?_,by omega,.inl (by omega),by omega,by omega,fun c hc=>(g4 c (by omega) (by omega)).trans ((g3 c (by omega)).trans (hsm c hc)),?_,by omega⟩
     ·simp only [Env.find_set,find_cons,q0,reduceIte,Nat.reduceEqDiff]
     ·simp only [Env.find_set,find_cons,q1,reduceIte,Nat.reduceEqDiff]
     ·simp only [Env.find_set,find_cons,reduceIte,Nat.reduceEqDiff]
     ·simp only [Env.find_set,find_cons,reduceIte,Nat.reduceEqDiff]
     ·rw [List.range_succ,List.flatMap_append]
      have:numT (((List.range i).flatMap fun n=>lists k (pre++[n]))++([i].flatMap fun n=>lists k (pre++[n])))=numT ((List.range i).flatMap fun n=>lists k (pre++[n]))++numT (lists k (pre++[i])):=by
       unfold numT
       rw [List.map_append,List.flatMap_singleton]
      rw [this]
      exact .inr T4
     ·have:=m2 u.n (by omega) (by omega)
      omega
    ·obtain rfl:i=6:=by omega
     have e0:decide (((6:Nat):Int)≤5)=false:=rfl
     refine .inr ⟨.exit 0,_,t,by simp,by
      simp (disch:=first|omega|(with_unfolding_all exact rfl)|(simp only[new_n,put_n,new_m];omega)|(refine put_m_le ?_;simp only[new_m];omega)) only [K14l0,res14,K14r0,K14r1,K14r2,K14r3,K14r4,K14r5,K14r6,K14r7,K14r8,K14,Abs.W,reduceIte,Nat.reduceEqDiff,Nat.reduceAdd,decide_true,decide_false,kLoop_def,Nat.reduceSub,List.cons_append,List.nil_append,List.append_nil,List.length_cons,List.length_nil,Env.find_set,q6,e0]
      rfl,rfl,b,v5,?_,hT,hb,hn1,hn2,hsm,hm1,hm2⟩
     simp only [Env.find_set,find_cons,q5,reduceIte,Nat.reduceEqDiff])
  have okF:=hT.okA
  simp (disch:=first|omega|(with_unfolding_all exact rfl)|(simp only[new_n,put_n,new_m];omega)|(refine put_m_le ?_;simp only[new_m];omega)) only [res14,K14r0,K14r1,K14r2,K14r3,K14r4,K14r5,K14r6,K14r7,K14r8,K14,Abs.W,reduceIte,Nat.reduceEqDiff,Nat.reduceAdd,decide_true,decide_false,kLoop_def,Nat.reduceSub,List.cons_append,List.nil_append,List.append_nil,List.length_cons,List.length_nil,Env.find_set,f5,okF]
  have hpos:0<(numT (lists (k+1) pre)).length:=by unfold numT;rw [List.length_map];exact lists_pos _ _
  have T5:TabI s1.h s1.n b (fun x=>(no x∧x<u.n)∨u.n≤x) (numT (lists (k+1) pre)) v5:=by
   rcases hT with ⟨h1,_⟩ | hT
   ·have:numT (lists (k+1) pre)=[]:=h1
    rw [this] at hpos;cases hpos
   ·exact hT.move rfl (fun c _ h=>⟨rfl,.inr h⟩) (Nat.le_refl _)
  exact ⟨_,_,rfl,⟨hs1,hn1,by omega,hm1,hm2⟩,T5.plain,b,T5,hb⟩)
 exact ⟨b,w',t,hr.symm.trans e,st,hq.1,hq.2⟩
theorem all_ex:∀ k,AllAt k
 | 0=>all_leaf
 | k+1=>all_node k (all_ex k)
end Go.Proofs.Ytkoefjgapmonaaa.walk
